import Derived.Lib.Strings
import Derived.Deep.QuietTactic
import Derived.BigQuiet
import Derived.Deep.Light
import Derived.Test.YtkgegihkhdgdoaaDoorOwn4
import Derived.Test.YtkgegihkhdgdoaaDoorOwn5
import Derived.Test.YtkgegihkhdgdoaaDoorOwn7
import Derived.Test.YtkgegihkhdgdoaaDoorOwn8
import Derived.Test.YtkgegihkhdgdoaaDoorOwn9
set_option linter.unusedVariables false
set_option linter.unusedSimpArgs false
/- keyed.Show, without a book: what it shows may be written over. -/
namespace Go.Proofs.YtkgegihkhdgdoaaDoor
set_option linter.unusedSimpArgs false
set_option linter.unusedVariables false
open Go.RowKit Go.Deep

/-- what keyed.Show shows, and that it may be written over. -/
def show2Post (n : Nat) (x : Nat → Pr) (key : List Int) (w : World) (e : Ending) (w' : World) : Prop :=
  ((mayB x n = false ∧ e = .returned (.agg (rowV 2 (seG 0 (.slice none 0 0))))) ∨
    (mayB x n = true ∧ ∃ p sv, posAt x n key p ∧ e = .returned (.agg (rowV 2 (seG n sv))) ∧ ∃ B b, w.heap.size ≤ b ∧ ownSpots2 w' B b sv (shM x n key p) (shY x n key p))) ∧ Below w.heap.size w w'
/-- the loop of Show: box b8 holds what is shown so far. -/
def shL2 (w6 : World) (b8 : Nat) (n k : Nat) (y : Nat → Sp) (wr : World) : Prop := But w6.heap.size b8 w6 wr ∧ ∃ sv, wr.rowIs b8 29 2 (seG n sv) ∧ ownSpots2 wr w6.heap.size b8 sv k y
set_option maxHeartbeats 8000000 in
set_option maxRecDepth 100000 in
theorem show2_nil (n : Nat) (v tv : Value) (x : Nat → Pr) (key : List Int) (w : World) (hp : pairsAt w v n x) (hkey : anyBytes w tv key) (ht : tabIs w) (hn : n ≤ 1000) (hx : ∀ i, i < n → (x i).1.length + (x i).2.length ≤ 1000000) :
    Calls Tryd.prog 12 #[.pointer none, v, tv] w fun e w' => show2Post n x key w e w' := by
  have hzse := zero_se
  have hb0' := build_se0
  have hb1' := build_se1
  obtain ⟨a, cap, hv, hnc, hcm, _⟩ := (id hp : pairsAt w v n x)
  obtain ⟨w1, hw1⟩ : ∃ w1, w1 = w.alloc (.cells (rowV 2 (seG 0 (.slice none 0 0))) 29) := ⟨_, rfl⟩
  have b1 : Below w.heap.size w w1 := by rw [hw1]; exact (Below.refl _ _).alloc (Nat.le_refl _) _
  have z1 : w1.heap.size = w.heap.size + 1 := by rw [hw1]; simp
  have r1 : w1.rowIs w.heap.size 29 2 (seG 0 (.slice none 0 0)) := by rw [hw1]; exact rowIs_box _ _ _ _
  have XM := may_any n v x w1 (hp.below b1 (Nat.le_refl _))
  have HP : Hid (∀ wz, Below w.heap.size w wz → pairsAt wz v n x ∧ anyBytes wz tv key ∧ tabIs wz) := (show _ from fun wz hz => ⟨hp.below hz (Nat.le_refl _), hkey.below hz (Nat.le_refl _), ht.below hz ht.1⟩)
  have HQ : Hid (n ≤ 1000 ∧ (∀ i, i < n → (x i).1.length + (x i).2.length ≤ 1000000) ∧ Below w.heap.size w w1 ∧ w1.heap.size = w.heap.size + 1 ∧ w1.rowIs w.heap.size 29 2 (seG 0 (.slice none 0 0)) ∧ 1 < w.heap.size) := (show _ from ⟨hn, hx, b1, z1, r1, ht.1⟩)
  have hn0 : (0 : Int) ≤ (n : Int) := by omega
  have hn1 : (n : Int) ≤ 1000 := by omega
  obtain ⟨ta, tcap, rfl, _⟩ := hkey.slice
  subst hv
  clear hp hkey ht hn hx b1 z1 r1 hnc hcm
  go_enter Tryd.func12, Tryd.ntmps12
  go_upto_region 1 with fail
  rw [← hw1]
  clear hw1
  go_wp2_with fail
  refine XM.mono ?_
  rintro e w2 ⟨rfl, hb2⟩
  clear XM
  obtain ⟨hn, hx, b1, z1, r1, h00⟩ := HQ.out
  have r2 : w2.rowIs w.heap.size 29 2 (seG 0 (.slice none 0 0)) := hb2.row r1 (by omega)
  have b02 : Below w.heap.size w w2 := b1.trans (hb2.mono (by omega))
  have s2 := hb2.size
  cases hmb : mayB x n with
  | false =>
    have MB : Hid (mayB x n = false) := (show mayB x n = false from hmb)
    have B02 : Hid (Below w.heap.size w w2 ∧ w.heap.size < w2.heap.size) := (show _ ∧ _ from ⟨b02, by omega⟩)
    clear hmb HP HQ hb2 b02 b1 z1 r1 h00 s2 hx
    go_wp2_with (first | (refine wpList_store_row rfl 29 _ _ rfl rfl w.heap.size 0 2 (seG 0 (.slice none 0 0)) rfl rfl hiSe (seG_one _ _ _ _) _ _ _ r2 (by omega) ?_; intro w6 r7 hz6 hb6))
    exact bodyPost_ret (results_cell_seg rfl _ _ w.heap.size 29 2 (seG 0 (.slice none 0 0)) _ rfl Tryd.underlying29 rfl hiSe (r7.congr fun i hi => by rw [if_pos (by omega), Nat.sub_zero])) rfl (by
      exact ⟨Or.inl ⟨MB.out, rfl⟩, B02.out.1.trans (hb6.mono (by have := B02.out.2; omega) |>.below (by omega))⟩)
  | true =>
    have hmp := (mayB_is x n).1 hmb
    have MB : Hid (mayB x n = true) := (show mayB x n = true from hmb)
    have XLV := leaves_k frNone w2.heap.size (.pointer none) [] 0 n (.slice a n cap) x w2 (bkNone _ _ _) (fun _ h => h.elim) (Nat.le_refl _) (fun wz hz => ⟨(HP.out wz (b02.trans (hz.mono (by omega)))).1, (HP.out wz (b02.trans (hz.mono (by omega)))).2.2⟩) (by omega) hx (fun h => h.elim) (by simp) (by omega)
    have B02 : Hid (Below w.heap.size w w2 ∧ w.heap.size < w2.heap.size ∧ w2.rowIs w.heap.size 29 2 (seG 0 (.slice none 0 0))) := (show _ ∧ _ ∧ _ from ⟨b02, by omega, r2⟩)
    have HMP : Hid (mayP x n) := (show mayP x n from hmp)
    clear hmb hmp hb2 b02 b1 z1 r1 r2 s2 hx
    go_wp2_with fail
    refine XLV.mono ?_
    rintro e w3 ⟨s, rfl, hns, _, _, _, _, f23⟩
    have b23 := frNone_below f23
    obtain ⟨b02, s2, r2⟩ := B02.out
    have s3 := b23.size
    obtain ⟨w4, hw4⟩ : ∃ w4, w4 = w3.alloc (.cells (rowV 2 (seG 0 (.slice none 0 0))) 29) := ⟨_, rfl⟩
    have r4 : w4.rowIs w3.heap.size 29 2 (seG 0 (.slice none 0 0)) := by rw [hw4]; exact rowIs_box _ _ _ _
    have b4 : Below w3.heap.size w3 w4 := by rw [hw4]; exact (Below.refl _ _).alloc (Nat.le_refl _) _
    have z4 : w4.heap.size = w3.heap.size + 1 := by rw [hw4]; simp
    have hsl : ∃ sa sc, s = .slice sa (leavesTo x n).length sc := by
      obtain ⟨_, sa, sc, e, _⟩ := hns.is
      exact ⟨sa, sc, e⟩
    have hll := leavesTo_len x n
    rw [hll] at hsl
    obtain ⟨sa, sc, rfl⟩ := hsl
    clear XLV f23
    go_upto_region 5 with (first | (rw [← hw4]; clear hw4; refine wpList_store_row rfl 29 _ _ rfl rfl w3.heap.size 0 2 (seG n (.slice none 0 0)) rfl rfl hiSe (seG_one _ _ _ _) _ _ _ r4 (by omega) ?_; intro w5 r5 hz5 hb5))
    have b35 : Below w3.heap.size w3 w5 := b4.trans ((hb5.mono (by omega)).below (by omega))
    have b25 : Below w2.heap.size w2 w5 := b23.trans (b35.mono (by omega))
    have b05 : Below w.heap.size w w5 := b02.trans (b25.mono (by omega))
    have XA := around_any n (.slice a n cap) _ x key w5 (HP.out w5 b05).1 (HP.out w5 b05).2.1 HMP.out hn
    have r5' : w5.rowIs w3.heap.size 29 2 (seG n (.slice none 0 0)) := r5.congr fun i hi => by rw [if_pos (by omega), Nat.sub_zero]
    go_wp2_with fail
    refine XA.mono ?_
    rintro e w6 ⟨p, hpos, rfl, b56⟩
    clear XA
    rw [arF_shF]
    have s5 := b35.size
    have s6 := b56.size
    have b06 : Below w.heap.size w w6 := b05.trans (b56.mono (by omega))
    have r6 : w6.rowIs w3.heap.size 29 2 (seG n (.slice none 0 0)) := b56.row r5' (by omega)
    have hns6 : newSums w6 w2.heap.size (.slice sa n sc) (leavesTo x n) := (hns.below b35 (Nat.le_refl _)).below b56 (Nat.le_refl _)
    have hnsb := hns.block
    -- the loop's facts
    have FACT : Hid (∀ wr, But w6.heap.size w3.heap.size w6 wr → Below w.heap.size w wr ∧ pairsAt wr (.slice a n cap) n x ∧ tabIs wr ∧ newSums wr w2.heap.size (.slice sa n sc) (leavesTo x n) ∧ wr.rowIs w.heap.size 29 2 (seG 0 (.slice none 0 0))) := (show _ from fun wr hr => by
      have hb : Below w.heap.size w wr := b06.trans ((hr.mono (by omega)).below (by omega))
      refine ⟨hb, (HP.out wr hb).1, (HP.out wr hb).2.2, hns6.far (fun j hj => hr.block j (by have := hnsb j hj; omega) (by have := hnsb j hj; omega)), ?_⟩
      exact World.rowIs.of_block (b56.row (b25.row r2 (by omega)) (by omega)) (hr.block _ (by omega) (by omega)))
    obtain ⟨f, hf⟩ : ∃ f, f = shF x n key p := ⟨_, rfl⟩
    obtain ⟨la, hla⟩ : ∃ la, la = arL x n key p := ⟨_, rfl⟩
    obtain ⟨m, hm⟩ : ∃ m, m = shM x n key p := ⟨_, rfl⟩
    obtain ⟨y, hy⟩ : ∃ y, y = shY x n key p := ⟨_, rfl⟩
    have hml : ∀ k, k < m ↔ ((f + k : Nat) : Int) ≤ la := by rw [hm, hf, hla]; exact shM_lt x n key p
    have hlan : la < (n : Int) := by rw [hla]; exact (arL_lt x n key p).1
    have hyq : ∀ k, y k = ⟨((f + k : Nat) : Int), x (f + k), pathI (leavesTo x n) ((f + k : Nat) : Int)⟩ := by rw [hy, hf]; exact fun _ => rfl
    have DONE : Hid (∀ V sv, Below w.heap.size w V → (∃ B b, w.heap.size ≤ b ∧ ownSpots2 V B b sv m y) → show2Post n x key w (.returned (.agg (rowV 2 (seG n sv)))) V) := (show _ from fun V sv hV hs => ⟨Or.inr ⟨MB.out, p, sv, hpos, rfl, by rw [← hm, ← hy]; exact hs⟩, hV⟩)
    have S0 : Hid (shL2 w6 w3.heap.size n 0 y w6) := (show shL2 w6 w3.heap.size n 0 y w6 from ⟨But.refl _ _ _, _, r6, ownSpots2.nil _ _ _ _⟩)
    have HYQ : Hid ((∀ k, k < m ↔ ((f + k : Nat) : Int) ≤ la) ∧ la < (n : Int) ∧ ∀ k, y k = ⟨((f + k : Nat) : Int), x (f + k), pathI (leavesTo x n) ((f + k : Nat) : Int)⟩) := (show _ from ⟨hml, hlan, hyq⟩)
    have HSZ : Hid (w.heap.size < w2.heap.size ∧ w2.heap.size ≤ w3.heap.size ∧ w3.heap.size < w6.heap.size ∧ (∀ j, (Value.slice sa n sc).ownBlock = some j → w2.heap.size ≤ j ∧ j < w3.heap.size)) := (show _ from ⟨by omega, by omega, by omega, hnsb⟩)
    rw [← hf, ← hla]
    clear hf hla hm hy hml hlan hyq hpos MB r6 r5' r5 hz5 hb5 b35 b25 b05 b56 b06 b02 b23 b4 z4 s2 s3 s5 s6 r2 r4 hns hns6 hnsb hll B02 HMP
    go_wp2_with fail
    go_loopw [11] (fun i wr => ∃ k : Nat, k ≤ m ∧ i = .int .i64 ((f + k : Nat) : Int) ∧ shL2 w6 w3.heap.size n k y wr) (fun i _ => f + m - (intOf i).toNat)
    case atStart => exact ⟨0, by omega, rfl, S0.out⟩
    case round =>
      obtain ⟨k, hkm, rfl, hbut, sv, r8, hos⟩ := hrel
      clear S0
      obtain ⟨q, hq⟩ : ∃ q, q = f + k := ⟨_, rfl⟩
      have hyk := HYQ.out.2.2 k
      rw [← hq] at hyk ⊢
      have HQK : Hid (q = f + k) := (show q = f + k from hq)
      clear hq
      have p0 : (0 : Int) ≤ (q : Int) := by omega
      have hsl : ∃ oa oc, sv = .slice oa k oc := by
        obtain ⟨oa, oc, e, _⟩ := hos.is
        exact ⟨oa, oc, e⟩
      obtain ⟨oa, oc, rfl⟩ := hsl
      by_cases hlt : k < m
      · have p1 : (q : Int) ≤ la := by rw [HQK.out]; exact (HYQ.out.1 k).1 hlt
        have hqn : q < n := by have := HYQ.out.2.1; omega
        have p2 : (q : Int) < (n : Int) := by omega
        obtain ⟨g, o, cap', e, hg, _, _, hcell⟩ := (HP.out w (Below.refl _ _)).1.at (by omega)
        injection e with e1 e2 e3
        subst e1
        subst e3
        obtain ⟨ka, kcap, va, vcap, H⟩ := hcell q hqn
        have bwr := (FACT.out wr hbut).1
        have swr := bwr.size
        have FC : Hid (∀ wz, Below wr.heap.size wr wz → wz.cell? ⟨g, o + q * 2, none⟩ = some (.slice ka (x q).1.length kcap) ∧ wz.cell? ⟨g, o + q * 2 + 1, none⟩ = some (.slice va (x q).2.length vcap)) := (show _ from fun wz hz => by
          obtain ⟨q0, q1, _⟩ := H wz (bwr.trans (hz.mono swr))
          exact ⟨q0, q1⟩)
        have hxq := HQ.out.2.1 q hqn
        have CLK : Hid (∀ W, Below wr.heap.size wr W → Calls Tryd.prog 36 #[.slice ka (x q).1.length kcap] W fun e w' => ∃ u, e = .returned u ∧ newBytes w' W.heap.size u (x q).1 ∧ Below W.heap.size W w') := (show _ from fun W hW => clone_x _ _ W (H W (bwr.trans (hW.mono swr))).2.2.1 (by omega))
        have CLV : Hid (∀ W, Below wr.heap.size wr W → Calls Tryd.prog 36 #[.slice va (x q).2.length vcap] W fun e w' => ∃ u, e = .returned u ∧ newBytes w' W.heap.size u (x q).2 ∧ Below W.heap.size W w') := (show _ from fun W hW => clone_x _ _ W (H W (bwr.trans (hW.mono swr))).2.2.2 (by omega))
        have HB : Hid (But w6.heap.size w3.heap.size w6 wr) := (show But w6.heap.size w3.heap.size w6 wr from hbut)
        have HR8 : Hid (wr.rowIs w3.heap.size 29 2 (seG n (.slice oa k oc))) := (show wr.rowIs w3.heap.size 29 2 (seG n (.slice oa k oc)) from r8)
        have HOS : Hid (ownSpots2 wr w6.heap.size w3.heap.size (.slice oa k oc) k y) := (show ownSpots2 wr w6.heap.size w3.heap.size (.slice oa k oc) k y from hos)
        clear hcell H bwr swr hxq hbut r8 hos
        go_upto_region 9 with fail
        go_cut [12] from 35 to 47 (fun p12 wx => ∃ (b9 : Nat) (ua : Option Addr) (uc : Nat) (va2 : Option Addr) (vc2 : Nat), p12 = .pointer (some ⟨b9, 0, none⟩) ∧ Below wr.heap.size wr wx ∧ wx.rowIs b9 38 2 (prG (.slice ua (x q).1.length uc) (.slice va2 (x q).2.length vc2)) ∧ wr.heap.size ≤ b9 ∧ newBytes wx wr.heap.size (.slice ua (x q).1.length uc) (x q).1 ∧ newBytes wx wr.heap.size (.slice va2 (x q).2.length vc2) (x q).2)
        case first =>
          have BD : Below wr.heap.size wr wr.drew := (Below.refl _ _).drew
          have H : pst wr (x q).1 (x q).2 wr.drew none none none := ⟨BD, (fun u h => by cases h), (fun u h => by cases h), fun b h => by cases h⟩
          refine wp_region_noPanic ?_
          refine wp_region_held_drew (S := fun w' => Below wr.heap.size wr w') (by kernel_rfl) BD (fun hHeld => ?_)
          clear BD
          generalize wr.drew = W at hHeld H ⊢
          refine take_op (i := 0) (v := ?va0) rfl (by kernel_rfl) (by kernel_rfl) (by kernel_rfl) (fun _ _ _ h => h) rfl hHeld ?ya0 ?ra0
          case ya0 => (intro wz hz; go_simp; first | done | with_reducible rfl)
          try simp only [Act.put, List.setIfInBounds_toArray, List.set_cons_zero, List.set_cons_succ]
          refine take_op (i := 1) (v := ?va1) rfl (by kernel_rfl) (by kernel_rfl) (by kernel_rfl) (fun _ _ _ h => h) rfl hHeld ?ya1 ?ra1
          case ya1 => (intro wz hz; go_simp; first | done | with_reducible rfl)
          try simp only [Act.put, List.setIfInBounds_toArray, List.set_cons_zero, List.set_cons_succ]
          refine take_op (i := 2) (v := ?va2) rfl (by kernel_rfl) (by kernel_rfl) (by kernel_rfl) (fun _ _ _ h => h) rfl hHeld ?ya2 ?ra2
          case ya2 => (intro wz hz; go_simp; first | done | with_reducible rfl)
          try simp only [Act.put, List.setIfInBounds_toArray, List.set_cons_zero, List.set_cons_succ]
          refine take_op (i := 3) (v := ?va3) rfl (by kernel_rfl) (by kernel_rfl) (by kernel_rfl) (fun _ _ _ h => h) rfl hHeld ?ya3 ?ra3
          case ya3 => (intro wz hz; go_simp; first | done | with_reducible rfl)
          try simp only [Act.put, List.setIfInBounds_toArray, List.set_cons_zero, List.set_cons_succ]
          refine take_op (i := 4) (v := ?va4) rfl (by kernel_rfl) (by kernel_rfl) (by kernel_rfl) (fun _ _ _ h => h) rfl hHeld ?ya4 ?ra4
          case ya4 => (intro wz hz; have hcz := (FC.out wz hz).1; go_simp; first | done | with_reducible rfl)
          try simp only [Act.put, List.setIfInBounds_toArray, List.set_cons_zero, List.set_cons_succ]
          refine take_op (i := 6) (v := ?va6) rfl (by kernel_rfl) (by kernel_rfl) (by kernel_rfl) (fun _ _ _ h => h) rfl hHeld ?ya6 ?ra6
          case ya6 => (intro wz hz; go_simp; first | done | with_reducible rfl)
          try simp only [Act.put, List.setIfInBounds_toArray, List.set_cons_zero, List.set_cons_succ]
          refine take_op (i := 7) (v := ?va7) rfl (by kernel_rfl) (by kernel_rfl) (by kernel_rfl) (fun _ _ _ h => h) rfl hHeld ?ya7 ?ra7
          case ya7 => (intro wz hz; go_simp; first | done | with_reducible rfl)
          try simp only [Act.put, List.setIfInBounds_toArray, List.set_cons_zero, List.set_cons_succ]
          refine take_op (i := 8) (v := ?va8) rfl (by kernel_rfl) (by kernel_rfl) (by kernel_rfl) (fun _ _ _ h => h) rfl hHeld ?ya8 ?ra8
          case ya8 => (intro wz hz; go_simp; first | done | with_reducible rfl)
          try simp only [Act.put, List.setIfInBounds_toArray, List.set_cons_zero, List.set_cons_succ]
          refine take_op (i := 9) (v := ?va9) rfl (by kernel_rfl) (by kernel_rfl) (by kernel_rfl) (fun _ _ _ h => h) rfl hHeld ?ya9 ?ra9
          case ya9 => (intro wz hz; go_simp; first | done | with_reducible rfl)
          try simp only [Act.put, List.setIfInBounds_toArray, List.set_cons_zero, List.set_cons_succ]
          refine take_op (i := 10) (v := ?va10) rfl (by kernel_rfl) (by kernel_rfl) (by kernel_rfl) (fun _ _ _ h => h) rfl hHeld ?ya10 ?ra10
          case ya10 => (intro wz hz; have hcz := (FC.out wz hz).2; go_simp; first | done | with_reducible rfl)
          try simp only [Act.put, List.setIfInBounds_toArray, List.set_cons_zero, List.set_cons_succ]
          refine regionKK (fun G hG => ?_)
          refine actKK (p := fun a => G 5 _ a W) (fun a0 ha0 => ?_)
          refine listKK (p := fun l => G 5 l a0 W) (fun l0 hl0 => ?_)
          have HG : Hid _ := hG
          have HA0 : Hid _ := ha0
          have HL0 : Hid _ := hl0
          clear hG ha0 hl0 hHeld
          have ST111 : Hid (∀ (ua : Option Addr) (uc : Nat), ∀ (va2 : Option Addr) (vc2 : Nat), ∀ (b9 : Nat), ∀ W : World, pst wr (x q).1 (x q).2 W (some (.slice ua (x q).1.length uc)) (some (.slice va2 (x q).2.length vc2)) (some b9) → G 1 ((((l0.setIfInBounds 5 true).setIfInBounds 11 true).setIfInBounds 13 true).setIfInBounds 12 true) ((((a0.put (some 40) (.slice ua (x q).1.length uc)).put (some 46) (.slice va2 (x q).2.length vc2)).put (some 12) (.pointer (some ⟨b9, 0, none⟩))).put (some 47) (.agg (rowV 2 (prG (.slice ua (x q).1.length uc) (.slice va2 (x q).2.length vc2))))) W) := (show ∀ (ua : Option Addr) (uc : Nat), ∀ (va2 : Option Addr) (vc2 : Nat), ∀ (b9 : Nat), ∀ W : World, pst wr (x q).1 (x q).2 W (some (.slice ua (x q).1.length uc)) (some (.slice va2 (x q).2.length vc2)) (some b9) → G 1 ((((l0.setIfInBounds 5 true).setIfInBounds 11 true).setIfInBounds 13 true).setIfInBounds 12 true) ((((a0.put (some 40) (.slice ua (x q).1.length uc)).put (some 46) (.slice va2 (x q).2.length vc2)).put (some 12) (.pointer (some ⟨b9, 0, none⟩))).put (some 47) (.agg (rowV 2 (prG (.slice ua (x q).1.length uc) (.slice va2 (x q).2.length vc2))))) W from by
            intro ua uc va2 vc2 b9 W H
            rw [HA0.out, HL0.out, HG.out]
            try simp only [Act.put, List.setIfInBounds_toArray, List.set_cons_zero, List.set_cons_succ]
            obtain ⟨V, e1, r1, z1, c1⟩ := pr_store W b9 (prG (.slice ua (x q).1.length uc) (.slice va2 (x q).2.length vc2)) (H.2.2.2 b9 rfl).2 (prG_one _ _ _ _ _ _)
            have hb9 := (H.2.2.2 b9 rfl).1
            have bV : Below wr.heap.size wr V := H.1.trans ((c1.mono H.1.size).below (by omega))
            have n1 : newBytes V wr.heap.size (.slice ua (x q).1.length uc) (x q).1 := (H.2.1 _ rfl).apart (fun j hj => c1.block j ((H.2.1 _ rfl).block j hj).2 ((H.2.1 _ rfl).notrow (H.2.2.2 b9 rfl).2 (by decide) j hj))
            have n2 : newBytes V wr.heap.size (.slice va2 (x q).2.length vc2) (x q).2 := (H.2.2.1 _ rfl).apart (fun j hj => c1.block j ((H.2.2.1 _ rfl).block j hj).2 ((H.2.2.1 _ rfl).notrow (H.2.2.2 b9 rfl).2 (by decide) j hj))
            refine take_one (i := 14) rfl (by kernel_rfl) rfl (fun K hK => ?_)
            unfold Oper.wp execOp
            simp only [Instr.storeAt, Instr.sureAddr, Sem.run_bind, Sem.run_pure, Result.andThen_ok]
            simp [Act.eval, e1, Oper.upon]
            refine hK.out _ _ bV (fun hHeld => ?_)
            clear hK K
            try simp only [Act.put, List.setIfInBounds_toArray, List.set_cons_zero, List.set_cons_succ]
            refine wpAnyH_done (by kernel_rfl) ?_ _
            refine NoPanic.normal ?_
            clear e1 H hHeld c1 z1
            go_wp2_with fail
            go_meet
            case rel => exact ⟨b9, _, _, _, _, rfl, bV, r1, hb9, n1, n2⟩)
          have ST110 : Hid (∀ (ua : Option Addr) (uc : Nat), ∀ (va2 : Option Addr) (vc2 : Nat), ∀ W : World, pst wr (x q).1 (x q).2 W (some (.slice ua (x q).1.length uc)) (some (.slice va2 (x q).2.length vc2)) none → G 2 (((l0.setIfInBounds 5 true).setIfInBounds 11 true).setIfInBounds 12 true) (((a0.put (some 40) (.slice ua (x q).1.length uc)).put (some 46) (.slice va2 (x q).2.length vc2)).put (some 47) (.agg (rowV 2 (prG (.slice ua (x q).1.length uc) (.slice va2 (x q).2.length vc2))))) W) := (show ∀ (ua : Option Addr) (uc : Nat), ∀ (va2 : Option Addr) (vc2 : Nat), ∀ W : World, pst wr (x q).1 (x q).2 W (some (.slice ua (x q).1.length uc)) (some (.slice va2 (x q).2.length vc2)) none → G 2 (((l0.setIfInBounds 5 true).setIfInBounds 11 true).setIfInBounds 12 true) (((a0.put (some 40) (.slice ua (x q).1.length uc)).put (some 46) (.slice va2 (x q).2.length vc2)).put (some 47) (.agg (rowV 2 (prG (.slice ua (x q).1.length uc) (.slice va2 (x q).2.length vc2))))) W from by
            intro ua uc va2 vc2 W H
            rw [HA0.out, HL0.out, HG.out]
            try simp only [Act.put, List.setIfInBounds_toArray, List.set_cons_zero, List.set_cons_succ]
            refine take_one (i := 13) rfl (by kernel_rfl) rfl (fun K hK => ?_)
            refine wp_of_run (exec_allocPr rfl) ?_
            have H2 := H.box
            refine hK.out _ _ H2.1 (fun hHeld => ?_)
            try simp only [Act.put, List.setIfInBounds_toArray, List.set_cons_zero, List.set_cons_succ]
            have T := ST111.out ua uc va2 vc2 W.heap.size (W.alloc (.cells (rowV 2 prZ) 38)) H2
            rw [HA0.out, HL0.out, HG.out] at T
            try simp only [Act.put, List.setIfInBounds_toArray, List.set_cons_zero, List.set_cons_succ] at T
            exact lcongK (by kernel_rfl) T)
          have ST101 : Hid (∀ (ua : Option Addr) (uc : Nat), ∀ (b9 : Nat), ∀ W : World, pst wr (x q).1 (x q).2 W (some (.slice ua (x q).1.length uc)) none (some b9) → G 3 ((l0.setIfInBounds 5 true).setIfInBounds 13 true) ((a0.put (some 40) (.slice ua (x q).1.length uc)).put (some 12) (.pointer (some ⟨b9, 0, none⟩))) W) := (show ∀ (ua : Option Addr) (uc : Nat), ∀ (b9 : Nat), ∀ W : World, pst wr (x q).1 (x q).2 W (some (.slice ua (x q).1.length uc)) none (some b9) → G 3 ((l0.setIfInBounds 5 true).setIfInBounds 13 true) ((a0.put (some 40) (.slice ua (x q).1.length uc)).put (some 12) (.pointer (some ⟨b9, 0, none⟩))) W from by
            intro ua uc b9 W H
            rw [HA0.out, HL0.out, HG.out]
            try simp only [Act.put, List.setIfInBounds_toArray, List.set_cons_zero, List.set_cons_succ]
            refine take_one (i := 11) rfl (by kernel_rfl) rfl (fun K hK => ?_)
            go_simp
            refine Calls.mono (CLV.out W H.1) ?_
            rintro e W2 ⟨u, rfl, hn, hb⟩
            obtain ⟨va2, vc2, rfl⟩ := hn.slen
            have H2 := H.val hb hn
            refine hK.out _ _ H2.1 (fun hHeld => ?_)
            try simp only [Act.put, List.setIfInBounds_toArray, List.set_cons_zero, List.set_cons_succ]
            refine take_op (i := 12) (v := .agg (rowV 2 (prG (.slice ua (x q).1.length uc) (.slice va2 (x q).2.length vc2)))) rfl (by kernel_rfl) (by kernel_rfl) (by kernel_rfl) (fun _ _ _ h => h) rfl hHeld (fun wz hz => exec_build2 38 0 1 (.tmp 40) (.tmp 46) (.slice ua (x q).1.length uc) (.slice va2 (x q).2.length vc2) rfl rfl rfl (build_pr ua va2 (x q).1.length uc (x q).2.length vc2 wz)) ?_
            try simp only [Act.put, List.setIfInBounds_toArray, List.set_cons_zero, List.set_cons_succ]
            have T := ST111.out ua uc va2 vc2 b9 W2 H2
            rw [HA0.out, HL0.out, HG.out] at T
            try simp only [Act.put, List.setIfInBounds_toArray, List.set_cons_zero, List.set_cons_succ] at T
            exact lcongK (by kernel_rfl) T)
          have ST100 : Hid (∀ (ua : Option Addr) (uc : Nat), ∀ W : World, pst wr (x q).1 (x q).2 W (some (.slice ua (x q).1.length uc)) none none → G 4 (l0.setIfInBounds 5 true) (a0.put (some 40) (.slice ua (x q).1.length uc)) W) := (show ∀ (ua : Option Addr) (uc : Nat), ∀ W : World, pst wr (x q).1 (x q).2 W (some (.slice ua (x q).1.length uc)) none none → G 4 (l0.setIfInBounds 5 true) (a0.put (some 40) (.slice ua (x q).1.length uc)) W from by
            intro ua uc W H
            rw [HA0.out, HL0.out, HG.out]
            try simp only [Act.put, List.setIfInBounds_toArray, List.set_cons_zero, List.set_cons_succ]
            refine take_pair (i := 11) (j := 13) rfl rfl (by kernel_rfl) rfl rfl (fun K hK => ?_) (fun K hK => ?_)
            · go_simp
              refine Calls.mono (CLV.out W H.1) ?_
              rintro e W2 ⟨u, rfl, hn, hb⟩
              obtain ⟨va2, vc2, rfl⟩ := hn.slen
              have H2 := H.val hb hn
              refine hK.out _ _ H2.1 (fun hHeld => ?_)
              try simp only [Act.put, List.setIfInBounds_toArray, List.set_cons_zero, List.set_cons_succ]
              refine take_op (i := 12) (v := .agg (rowV 2 (prG (.slice ua (x q).1.length uc) (.slice va2 (x q).2.length vc2)))) rfl (by kernel_rfl) (by kernel_rfl) (by kernel_rfl) (fun _ _ _ h => h) rfl hHeld (fun wz hz => exec_build2 38 0 1 (.tmp 40) (.tmp 46) (.slice ua (x q).1.length uc) (.slice va2 (x q).2.length vc2) rfl rfl rfl (build_pr ua va2 (x q).1.length uc (x q).2.length vc2 wz)) ?_
              try simp only [Act.put, List.setIfInBounds_toArray, List.set_cons_zero, List.set_cons_succ]
              have T := ST110.out ua uc va2 vc2 W2 H2
              rw [HA0.out, HL0.out, HG.out] at T
              try simp only [Act.put, List.setIfInBounds_toArray, List.set_cons_zero, List.set_cons_succ] at T
              exact lcongK (by kernel_rfl) T
            · refine wp_of_run (exec_allocPr rfl) ?_
              have H2 := H.box
              refine hK.out _ _ H2.1 (fun hHeld => ?_)
              try simp only [Act.put, List.setIfInBounds_toArray, List.set_cons_zero, List.set_cons_succ]
              have T := ST101.out ua uc W.heap.size (W.alloc (.cells (rowV 2 prZ) 38)) H2
              rw [HA0.out, HL0.out, HG.out] at T
              try simp only [Act.put, List.setIfInBounds_toArray, List.set_cons_zero, List.set_cons_succ] at T
              exact lcongK (by kernel_rfl) T)
          have ST001 : Hid (∀ (b9 : Nat), ∀ W : World, pst wr (x q).1 (x q).2 W none none (some b9) → G 4 (l0.setIfInBounds 13 true) (a0.put (some 12) (.pointer (some ⟨b9, 0, none⟩))) W) := (show ∀ (b9 : Nat), ∀ W : World, pst wr (x q).1 (x q).2 W none none (some b9) → G 4 (l0.setIfInBounds 13 true) (a0.put (some 12) (.pointer (some ⟨b9, 0, none⟩))) W from by
            intro b9 W H
            rw [HA0.out, HL0.out, HG.out]
            try simp only [Act.put, List.setIfInBounds_toArray, List.set_cons_zero, List.set_cons_succ]
            refine take_one (i := 5) rfl (by kernel_rfl) rfl (fun K hK => ?_)
            go_simp
            refine Calls.mono (CLK.out W H.1) ?_
            rintro e W2 ⟨u, rfl, hn, hb⟩
            obtain ⟨ua, uc, rfl⟩ := hn.slen
            have H2 := H.key hb hn
            refine hK.out _ _ H2.1 (fun hHeld => ?_)
            try simp only [Act.put, List.setIfInBounds_toArray, List.set_cons_zero, List.set_cons_succ]
            have T := ST101.out ua uc b9 W2 H2
            rw [HA0.out, HL0.out, HG.out] at T
            try simp only [Act.put, List.setIfInBounds_toArray, List.set_cons_zero, List.set_cons_succ] at T
            exact lcongK (by kernel_rfl) T)
          have ST000 : Hid (∀ W : World, pst wr (x q).1 (x q).2 W none none none → G 5 l0 a0 W) := (show ∀ W : World, pst wr (x q).1 (x q).2 W none none none → G 5 l0 a0 W from by
            intro W H
            rw [HA0.out, HL0.out, HG.out]
            try simp only [Act.put, List.setIfInBounds_toArray, List.set_cons_zero, List.set_cons_succ]
            refine take_pair (i := 5) (j := 13) rfl rfl (by kernel_rfl) rfl rfl (fun K hK => ?_) (fun K hK => ?_)
            · go_simp
              refine Calls.mono (CLK.out W H.1) ?_
              rintro e W2 ⟨u, rfl, hn, hb⟩
              obtain ⟨ua, uc, rfl⟩ := hn.slen
              have H2 := H.key hb hn
              refine hK.out _ _ H2.1 (fun hHeld => ?_)
              try simp only [Act.put, List.setIfInBounds_toArray, List.set_cons_zero, List.set_cons_succ]
              have T := ST100.out ua uc W2 H2
              rw [HA0.out, HL0.out, HG.out] at T
              try simp only [Act.put, List.setIfInBounds_toArray, List.set_cons_zero, List.set_cons_succ] at T
              exact lcongK (by kernel_rfl) T
            · refine wp_of_run (exec_allocPr rfl) ?_
              have H2 := H.box
              refine hK.out _ _ H2.1 (fun hHeld => ?_)
              try simp only [Act.put, List.setIfInBounds_toArray, List.set_cons_zero, List.set_cons_succ]
              have T := ST001.out W.heap.size (W.alloc (.cells (rowV 2 prZ) 38)) H2
              rw [HA0.out, HL0.out, HG.out] at T
              try simp only [Act.put, List.setIfInBounds_toArray, List.set_cons_zero, List.set_cons_succ] at T
              exact lcongK (by kernel_rfl) T)
          exact ST000.out W H
        case rest =>
          obtain ⟨b9, ua, uc, va2, vc2, rfl, bV, r9, hb9, n1, n2⟩ := hcut
          rename World => V
          have hbut := HB.out
          have r8 := HR8.out
          have hos := HOS.out
          obtain ⟨z02, z23, z36, hsb⟩ := HSZ.out
          have sbut := hbut.size
          have sV := bV.size
          have r8V : V.rowIs w3.heap.size 29 2 (seG n (.slice oa k oc)) := bV.row r8 (by omega)
          have l9 : ∀ j, j < 2 → V.cell? ⟨b9, 0 + j, none⟩ = some ((prG (.slice ua (x q).1.length uc) (.slice va2 (x q).2.length vc2)) j) := fun j hj => by rw [Nat.zero_add]; exact r9.cell hj
          have c8 : V.cell? ⟨w3.heap.size, 1, none⟩ = some (.slice oa k oc) := r8V.cell (i := 1) (by omega)
          have HJ : Hid (∀ s, (JJ 12 (fun w' => w'.cell? ⟨w3.heap.size, 1, none⟩ = some (.slice oa k oc) ∧ ∀ j, j < 2 → w'.cell? ⟨b9, 0 + j, none⟩ = some (prG (.slice ua (x q).1.length uc) (.slice va2 (x q).2.length vc2) j)) 12 (fun w' => w'.cell? ⟨w3.heap.size, 1, none⟩ = some (.slice oa k oc) ∧ ∀ j, j < 2 → w'.cell? ⟨b9, 0 + j, none⟩ = some (prG (.slice ua (x q).1.length uc) (.slice va2 (x q).2.length vc2) j))) s V.drew) := (show ∀ s, (JJ 12 (fun w' => w'.cell? ⟨w3.heap.size, 1, none⟩ = some (.slice oa k oc) ∧ ∀ j, j < 2 → w'.cell? ⟨b9, 0 + j, none⟩ = some (prG (.slice ua (x q).1.length uc) (.slice va2 (x q).2.length vc2) j)) 12 (fun w' => w'.cell? ⟨w3.heap.size, 1, none⟩ = some (.slice oa k oc) ∧ ∀ j, j < 2 → w'.cell? ⟨b9, 0 + j, none⟩ = some (prG (.slice ua (x q).1.length uc) (.slice va2 (x q).2.length vc2) j))) s V.drew from JJ_all ⟨c8, l9⟩ ⟨c8, l9⟩)
          obtain ⟨fa1, fa2, fa3, fa4, fa5⟩ := FACT.out wr hbut
          have bwV : Below w.heap.size w V := fa1.trans (bV.mono fa1.size)
          have hnsV : newSums V w2.heap.size (.slice sa n sc) (leavesTo x n) := fa4.below bV (Nat.le_refl _)
          have hll := leavesTo_len x n
          have XP := path_k frNone (.pointer none) [] 0 (leavesTo x n) (.slice sa n sc) (q : Int) V.drew ⟨by omega, by omega⟩ (bkNone _ _ _) (hnsV.is.below (Below.refl V.heap.size V).drew (Nat.le_refl _)) (fun _ _ _ h => h.elim) (by rw [hll]; omega) ((HP.out V bwV).2.2.below (Below.refl V.heap.size V).drew (HP.out V bwV).2.2.1) (fun h => h.elim) (by rw [hll]; simp; omega) (by omega)
          have HV : Hid (V.heap.size = V.drew.heap.size ∧ wr.heap.size ≤ V.heap.size ∧ w6.heap.size ≤ wr.heap.size) := (show _ ∧ _ ∧ _ from ⟨rfl, sV, sbut⟩)
          have RV : Hid (V.drew.rowIs w3.heap.size 29 2 (seG n (.slice oa k oc)) ∧ V.drew.rowIs b9 38 2 (prG (.slice ua (x q).1.length uc) (.slice va2 (x q).2.length vc2)) ∧ Below wr.heap.size wr V.drew) := (show _ ∧ _ ∧ _ from ⟨r8V, r9, bV.trans ((Below.refl V.heap.size V).drew.mono sV)⟩)
          have N12 : Hid (newBytes V.drew wr.heap.size (.slice ua (x q).1.length uc) (x q).1 ∧ newBytes V.drew wr.heap.size (.slice va2 (x q).2.length vc2) (x q).2) := (show _ ∧ _ from ⟨n1.below (Below.refl V.heap.size V).drew (Nat.le_refl _), n2.below (Below.refl V.heap.size V).drew (Nat.le_refl _)⟩)
          clear n1 n2 r8V l9 c8 fa1 fa2 fa3 fa4 fa5 bwV hnsV hll hos r8 hbut r9 bV z02 hsb
          go_upto_region 10 with fail
          refine wp_region_noPanic ?_
          refine wp_region_T (JJ 12 (fun w' => w'.cell? ⟨w3.heap.size, 1, none⟩ = some (.slice oa k oc) ∧ ∀ j, j < 2 → w'.cell? ⟨b9, 0 + j, none⟩ = some (prG (.slice ua (x q).1.length uc) (.slice va2 (x q).2.length vc2) j)) 12 (fun w' => w'.cell? ⟨w3.heap.size, 1, none⟩ = some (.slice oa k oc) ∧ ∀ j, j < 2 → w'.cell? ⟨b9, 0 + j, none⟩ = some (prG (.slice ua (x q).1.length uc) (.slice va2 (x q).2.length vc2) j))) (by kernel_rfl) ?_
          generalize V.drew = V0 at HJ XP HV RV N12 ⊢
          refine take_opT (i := 0) (v := ?vu0) 12 rfl (by kernel_rfl) (by kernel_rfl) (by kernel_rfl) (by kernel_rfl) (by kernel_rfl) (JJ_free rfl rfl) (fun _ _ _ h => h) rfl HJ.out ?yu0 ?ru0
          case yu0 => (intro wz hz0; have hz := hz0.1 rfl; go_simp; first | done | with_reducible rfl)
          try simp only [Act.put, List.setIfInBounds_toArray, List.set_cons_zero, List.set_cons_succ]
          refine take_opT (i := 1) (v := ?vu1) 12 rfl (by kernel_rfl) (by kernel_rfl) (by kernel_rfl) (by kernel_rfl) (by kernel_rfl) (JJ_free rfl rfl) (fun _ _ _ h => h) rfl HJ.out ?yu1 ?ru1
          case yu1 => (intro wz hz0; have hz := hz0.1 rfl; have hz1 := hz.1; go_simp; first | done | with_reducible rfl)
          try simp only [Act.put, List.setIfInBounds_toArray, List.set_cons_zero, List.set_cons_succ]
          refine take_opT (i := 2) (v := ?vu2) 12 rfl (by kernel_rfl) (by kernel_rfl) (by kernel_rfl) (by kernel_rfl) (by kernel_rfl) (JJ_free rfl rfl) (fun _ _ _ h => h) rfl HJ.out ?yu2 ?ru2
          case yu2 => (intro wz hz0; have hz := hz0.1 rfl; go_simp; first | done | with_reducible rfl)
          try simp only [Act.put, List.setIfInBounds_toArray, List.set_cons_zero, List.set_cons_succ]
          refine take_loadT (i := 3) 12 rfl (by kernel_rfl) (by kernel_rfl) (by kernel_rfl) (by kernel_rfl) (by kernel_rfl) (JJ_free rfl rfl) 38 _ rfl b9 0 2 (prG (.slice ua (x q).1.length uc) (.slice va2 (x q).2.length vc2)) rfl _ Tryd.underlying38 rfl (by kernel_rfl) (fun _ _ _ h => h) rfl HJ.out (fun wz hz => (hz.1 rfl).2) ?_
          try simp only [Act.put, List.setIfInBounds_toArray, List.set_cons_zero, List.set_cons_succ]
          refine take_opT (i := 4) (v := ?vu4) 12 rfl (by kernel_rfl) (by kernel_rfl) (by kernel_rfl) (by kernel_rfl) (by kernel_rfl) (JJ_free rfl rfl) (fun _ _ _ h => h) rfl HJ.out ?yu4 ?ru4
          case yu4 => (intro wz hz0; have hz := hz0.1 rfl; go_simp; first | done | with_reducible rfl)
          try simp only [Act.put, List.setIfInBounds_toArray, List.set_cons_zero, List.set_cons_succ]
          refine take_opT (i := 5) (v := ?vu5) 12 rfl (by kernel_rfl) (by kernel_rfl) (by kernel_rfl) (by kernel_rfl) (by kernel_rfl) (JJ_free rfl rfl) (fun _ _ _ h => h) rfl HJ.out ?yu5 ?ru5
          case yu5 => (intro wz hz0; have hz := hz0.1 rfl; go_simp; first | done | with_reducible rfl)
          try simp only [Act.put, List.setIfInBounds_toArray, List.set_cons_zero, List.set_cons_succ]
          refine take_opT (i := 6) (v := ?vu6) 12 rfl (by kernel_rfl) (by kernel_rfl) (by kernel_rfl) (by kernel_rfl) (by kernel_rfl) (JJ_free rfl rfl) (fun _ _ _ h => h) rfl HJ.out ?yu6 ?ru6
          case yu6 => (intro wz hz0; have hz := hz0.1 rfl; go_simp; first | done | with_reducible rfl)
          try simp only [Act.put, List.setIfInBounds_toArray, List.set_cons_zero, List.set_cons_succ]
          refine take_oneT (i := 7) rfl (by kernel_rfl) rfl (fun K hK => ?_)
          go_simp
          refine Calls.mono XP ?_
          rintro e V1 ⟨pv, Fi, rfl, hps, _, _, _, fP⟩
          have b01 := frNone_below fP
          clear XP fP
          have hsp : ∃ pa pc, pv = .slice pa (pathI (leavesTo x n) q).length pc := by
            obtain ⟨_, pa, pc, e, _⟩ := hps.is
            exact ⟨pa, pc, e⟩
          obtain ⟨pa, pc, rfl⟩ := hsp
          obtain ⟨zd, sV, sw⟩ := HV.out
          have s01 := b01.size
          obtain ⟨rr8, rr9, bw0⟩ := RV.out
          have q8 : V1.rowIs w3.heap.size 29 2 (seG n (.slice oa k oc)) := b01.row rr8 (by omega)
          have q9 : V1.rowIs b9 38 2 (prG (.slice ua (x q).1.length uc) (.slice va2 (x q).2.length vc2)) := b01.row rr9 rr9.lt
          refine hK.out _ _ (heldJ_all ⟨q8.cell (i := 1) (by omega), fun j hj => by rw [Nat.zero_add]; exact q9.cell hj⟩ ⟨q8.cell (i := 1) (by omega), fun j hj => by rw [Nat.zero_add]; exact q9.cell hj⟩) ?_
          clear hK K
          try simp only [Act.put, List.setIfInBounds_toArray, List.set_cons_zero, List.set_cons_succ]
          have HJ1 : Hid (∀ s, (JJ 12 (fun w' => w'.cell? ⟨w3.heap.size, 1, none⟩ = some (.slice oa k oc) ∧ ∀ j, j < 2 → w'.cell? ⟨b9, 0 + j, none⟩ = some (prG (.slice ua (x q).1.length uc) (.slice va2 (x q).2.length vc2) j)) 12 (fun w' => w'.cell? ⟨w3.heap.size, 1, none⟩ = some (.slice oa k oc) ∧ ∀ j, j < 2 → w'.cell? ⟨b9, 0 + j, none⟩ = some (prG (.slice ua (x q).1.length uc) (.slice va2 (x q).2.length vc2) j))) s V1) := (show ∀ s, (JJ 12 (fun w' => w'.cell? ⟨w3.heap.size, 1, none⟩ = some (.slice oa k oc) ∧ ∀ j, j < 2 → w'.cell? ⟨b9, 0 + j, none⟩ = some (prG (.slice ua (x q).1.length uc) (.slice va2 (x q).2.length vc2) j)) 12 (fun w' => w'.cell? ⟨w3.heap.size, 1, none⟩ = some (.slice oa k oc) ∧ ∀ j, j < 2 → w'.cell? ⟨b9, 0 + j, none⟩ = some (prG (.slice ua (x q).1.length uc) (.slice va2 (x q).2.length vc2) j))) s V1 from JJ_all ⟨q8.cell (i := 1) (by omega), fun j hj => by rw [Nat.zero_add]; exact q9.cell hj⟩ ⟨q8.cell (i := 1) (by omega), fun j hj => by rw [Nat.zero_add]; exact q9.cell hj⟩)
          refine take_opT (i := 8) (v := .agg (rowV 4 (spG q (.slice ua (x q).1.length uc) (.slice va2 (x q).2.length vc2) (.slice pa (pathI (leavesTo x n) q).length pc)))) 12 rfl (by kernel_rfl) (by kernel_rfl) (by kernel_rfl) (by kernel_rfl) (by kernel_rfl) (JJ_free rfl rfl) (fun _ _ _ h => h) rfl HJ1.out (fun wz hz => exec_build3' 41 0 1 2 (.tmp 50) (.tmp 51) (.tmp 55) (.int .i64 q) (.agg (rowV 2 (prG (.slice ua (x q).1.length uc) (.slice va2 (x q).2.length vc2)))) (.slice pa (pathI (leavesTo x n) q).length pc) rfl rfl rfl rfl (build_sp q ua va2 pa (x q).1.length uc (x q).2.length vc2 (pathI (leavesTo x n) q).length pc wz)) ?_
          try simp only [Act.put, List.setIfInBounds_toArray, List.set_cons_zero, List.set_cons_succ]
          obtain ⟨V2, hV2⟩ : ∃ V2, V2 = V1.alloc (.cells (rowV 4 (spG q (.slice ua (x q).1.length uc) (.slice va2 (x q).2.length vc2) (.slice pa (pathI (leavesTo x n) q).length pc))) 41) := ⟨_, rfl⟩
          have b12 : Below V1.heap.size V1 V2 := by rw [hV2]; exact (Below.refl _ _).alloc (Nat.le_refl _) _
          have z2 : V2.heap.size = V1.heap.size + 1 := by rw [hV2]; simp
          have rN : V2.rowIs V1.heap.size 41 4 (spG q (.slice ua (x q).1.length uc) (.slice va2 (x q).2.length vc2) (.slice pa (pathI (leavesTo x n) q).length pc)) := by rw [hV2]; exact rowIs_box _ _ _ _
          have q8' : V2.rowIs w3.heap.size 29 2 (seG n (.slice oa k oc)) := b12.row q8 q8.lt
          have q9' : V2.rowIs b9 38 2 (prG (.slice ua (x q).1.length uc) (.slice va2 (x q).2.length vc2)) := b12.row q9 q9.lt
          refine take_oneT (i := 9) rfl (by kernel_rfl) rfl (fun K hK => ?_)
          refine wp_of_run (exec_bslice1' 27 1 0 (.tmp 56) (.agg (rowV 4 (spG q (.slice ua (x q).1.length uc) (.slice va2 (x q).2.length vc2) (.slice pa (pathI (leavesTo x n) q).length pc)))) rfl rfl (build_sps (spG q (.slice ua (x q).1.length uc) (.slice va2 (x q).2.length vc2) (.slice pa (pathI (leavesTo x n) q).length pc)) V1)) ?_
          rw [← hV2]
          refine hK.out _ _ (heldJ_all ⟨q8'.cell (i := 1) (by omega), fun j hj => by rw [Nat.zero_add]; exact q9'.cell hj⟩ ⟨q8'.cell (i := 1) (by omega), fun j hj => by rw [Nat.zero_add]; exact q9'.cell hj⟩) ?_
          clear hK K hV2
          try simp only [Act.put, List.setIfInBounds_toArray, List.set_cons_zero, List.set_cons_succ]
          have b02 : Below V0.heap.size V0 V2 := b01.trans (b12.mono s01)
          have bw2 : Below wr.heap.size wr V2 := bw0.trans (b02.mono (by omega))
          obtain ⟨m1, m2⟩ := N12.out
          have hosb := HOS.out.block
          have hyk' := hyk
          have SF0 : ∀ z, keeps V2 w3.heap.size (.slice oa k oc) z → spotIn2 z (spG q (.slice ua (x q).1.length uc) (.slice va2 (x q).2.length vc2) (.slice pa (pathI (leavesTo x n) q).length pc)) (y k) := fun z hz => by
            obtain ⟨z36a, z36b, z36c, _⟩ := HSZ.out
            have e1 : newBytes V2 wr.heap.size (.slice ua (x q).1.length uc) (x q).1 := m1.below b02 (Nat.le_refl _)
            have e2 : newBytes V2 wr.heap.size (.slice va2 (x q).2.length vc2) (x q).2 := m2.below b02 (Nat.le_refl _)
            have e3 : newSums V2 V0.heap.size (.slice pa (pathI (leavesTo x n) q).length pc) (pathI (leavesTo x n) q) := hps.below b12 (Nat.le_refl _)
            have far : ∀ j, wr.heap.size ≤ j → j < V2.heap.size → z.heap[j]? = V2.heap[j]? := fun j h1 h2 => hz.2 j h2 (fun e => by have := (hosb j e).2; omega) (by omega)
            rw [hyk']
            refine ⟨_, _, _, rfl, Or.inl (e1.apart fun j hj => far j (e1.block j hj).1 (e1.block j hj).2).is, Or.inl (e2.apart fun j hj => far j (e2.block j hj).1 (e2.block j hj).2).is, (e3.far fun j hj => far j (by have := (e3.block j hj).1; omega) (e3.block j hj).2).is, ⟨by show -9223372036854775808 ≤ (q : Int); omega, by show (q : Int) ≤ 9223372036854775807; omega⟩, (e1.apart fun j hj => far j (e1.block j hj).1 (e1.block j hj).2).softE, (e2.apart fun j hj => far j (e2.block j hj).1 (e2.block j hj).2).softE, newSums.softS (e3.far fun j hj => far j (by have := (e3.block j hj).1; omega) (e3.block j hj).2)⟩
          have SF : spotFar2 V2 w3.heap.size (.slice oa k oc) (spG q (.slice ua (x q).1.length uc) (.slice va2 (x q).2.length vc2) (.slice pa (pathI (leavesTo x n) q).length pc)) (y k) := ⟨SF0, fun i h1 h4 c hc => by
            obtain ⟨z36a, z36b, z36c, _⟩ := HSZ.out
            have e1 : newBytes V2 wr.heap.size (.slice ua (x q).1.length uc) (x q).1 := m1.below b02 (Nat.le_refl _)
            have e2 : newBytes V2 wr.heap.size (.slice va2 (x q).2.length vc2) (x q).2 := m2.below b02 (Nat.le_refl _)
            have e3 : newSums V2 V0.heap.size (.slice pa (pathI (leavesTo x n) q).length pc) (pathI (leavesTo x n) q) := hps.below b12 (Nat.le_refl _)
            have hc' : wr.heap.size ≤ c ∧ c < V2.heap.size := by
              have : i = 1 ∨ i = 2 ∨ i = 3 := by omega
              rcases this with rfl | rfl | rfl
              · exact e1.block c hc
              · exact e2.block c hc
              · have := e3.block c hc; omega
            refine ⟨by omega, hc'.2, fun e => by have := (hosb c e).2; omega⟩⟩
          have HO2 : ownSpots2 V2 w6.heap.size w3.heap.size (.slice oa k oc) k y := HOS.out.below bw2 (Nat.le_refl _)
          obtain ⟨v', V3, hr, ho3, hg3, hat3⟩ := spots_append2 V2 w6.heap.size w3.heap.size (.slice oa k oc) k y HO2 V1.heap.size (spG q (.slice ua (x q).1.length uc) (.slice va2 (x q).2.length vc2) (.slice pa (pathI (leavesTo x n) q).length pc)) rN SF (by have := HQK.out; omega) (by omega)
          have HAT : Hid (v'.ownBlock = (Value.slice oa k oc).ownBlock ∨ v'.ownBlock = some V2.heap.size) := hat3
          have n8 : ∀ (j : Nat), (Value.slice oa k oc).ownBlock = some j → w6.heap.size ≤ j ∧ j < wr.heap.size := hosb
          have g3 := hg3.size
          have q8'' : V3.rowIs w3.heap.size 29 2 (seG n (.slice oa k oc)) := World.rowIs.of_block q8' (hg3.block _ q8'.lt (fun e => by have := (n8 _ e.symm).1; omega))
          have q9'' : V3.rowIs b9 38 2 (prG (.slice ua (x q).1.length uc) (.slice va2 (x q).2.length vc2)) := World.rowIs.of_block q9' (hg3.block _ q9'.lt (fun e => by have := (n8 _ e.symm).2; omega))
          refine take_oneT (i := 10) rfl (by kernel_rfl) rfl (fun K hK => ?_)
          refine wp_append_run (.tmp 49) (.tmp 57) 27 rfl rfl rfl hr ?_
          refine hK.out _ _ (heldJ_all ⟨q8''.cell (i := 1) (by omega), fun j hj => by rw [Nat.zero_add]; exact q9''.cell hj⟩ ⟨q8''.cell (i := 1) (by omega), fun j hj => by rw [Nat.zero_add]; exact q9''.cell hj⟩) ?_
          clear hK K
          try simp only [Act.put, List.setIfInBounds_toArray, List.set_cons_zero, List.set_cons_succ]
          have hsv : ∃ na nc, v' = .slice na (k + 1) nc := by
            obtain ⟨na, nc, e, _⟩ := ho3.is
            exact ⟨na, nc, e⟩
          obtain ⟨na, nc, rfl⟩ := hsv
          refine take_oneT (i := 11) rfl (by kernel_rfl) rfl (fun K hK => ?_)
          go_simp
          refine hK.out _ _ (heldJ_all ⟨q8''.cell (i := 1) (by omega), fun j hj => by rw [Nat.zero_add]; exact q9''.cell hj⟩ ⟨q8''.cell (i := 1) (by omega), fun j hj => by rw [Nat.zero_add]; exact q9''.cell hj⟩) ?_
          clear hK K
          try simp only [Act.put, List.setIfInBounds_toArray, List.set_cons_zero, List.set_cons_succ]
          have c3 := q8''.cell (i := 1) (by omega)
          have f3 := q8''.frozen 1
          refine take_oneT (i := 12) rfl (by kernel_rfl) rfl (fun K hK => ?_)
          go_simp
          refine hK.out _ _ (heldJ_none rfl rfl) ?_
          clear hK K c3 f3
          try simp only [Act.put, List.setIfInBounds_toArray, List.set_cons_zero, List.set_cons_succ]
          refine doneT (by kernel_rfl) ?_ _
          refine NoPanic.normal ?_
          have NX : Hid (∀ V4, V4 = V3.setCell ⟨w3.heap.size, 1, none⟩ (.slice na (k + 1) nc) → shL2 w6 w3.heap.size n (k + 1) y V4) := (show _ from fun V4 h4 => by
            obtain ⟨zz1, zz2, zz3, _⟩ := HSZ.out
            have hb := HB.out
            have bt : But V3.heap.size w3.heap.size V3 V4 := by
              rw [h4]
              exact but_setCells (b := w3.heap.size) [.slice na (k + 1) nc] 1 (But.refl _ _ _)
            have z4 := bt.size
            have r4 : V4.rowIs w3.heap.size 29 2 (seG n (.slice na (k + 1) nc)) := by
              rw [h4]
              refine (q8''.set 1 (.slice na (k + 1) nc)).congr fun i hi => ?_
              have : i = 0 ∨ i = 1 := by omega
              rcases this with rfl | rfl <;> rfl
            refine ⟨⟨bt.os.trans (hg3.os.trans (bw2.os.trans hb.os)), bt.tape.trans (hg3.tape.trans (bw2.tape.trans hb.tape)), bt.output.trans (hg3.output.trans (bw2.output.trans hb.output)), by have := hb.size; have := bw2.size; omega, fun j hj hn => ?_⟩, _, r4, ho3.same (by omega) (by omega) fun j hj hn => bt.block j hj (by omega)⟩
            have h1 := hb.size
            have h2 := bw2.size
            exact (bt.block j (by omega) hn).trans ((hg3.block j (by omega) (fun e => by have := (n8 _ e.symm).1; omega)).trans ((bw2.block j (by omega)).trans (hb.block j hj hn))))
          obtain ⟨V4, hV4⟩ : ∃ V4, V4 = V3.setCell ⟨w3.heap.size, 1, none⟩ (.slice na (k + 1) nc) := ⟨_, rfl⟩
          rw [← hV4]
          have NX4 : Hid (shL2 w6 w3.heap.size n (k + 1) y V4) := (show shL2 w6 w3.heap.size n (k + 1) y V4 from NX.out V4 hV4)
          clear NX hV4 ho3 hat3 hg3 q8'' q9'' hr SF SF0 HO2 q8 q9 q8' q9' rN b12 b01 b02 bw2 bw0 rr8 rr9 m1 m2 hyk' hyk hps n8 hosb HAT HJ1
          go_wp2_with fail
          go_light
          exact ⟨⟨k + 1, by omega, by have := HQK.out; go_num, NX4.out⟩, by have := HQK.out; simp [intOf]; omega⟩
      · have p1 : ¬ (q : Int) ≤ la := by rw [HQK.out]; exact fun h => hlt ((HYQ.out.1 k).2 h)
        obtain rfl : k = m := by omega
        obtain ⟨fa1, _, _, _, fa5⟩ := FACT.out wr hbut
        obtain ⟨z02, z23, z36, _⟩ := HSZ.out
        have sbut := hbut.size
        have l8 : ∀ j, j < 2 → wr.cell? ⟨w3.heap.size, 0 + j, none⟩ = some (seG n (.slice oa k oc) j) := fun j hj => by rw [Nat.zero_add]; exact r8.cell hj
        have HOSS : Hid (ownSpots2 wr w6.heap.size w3.heap.size (.slice oa k oc) k y) := (show ownSpots2 wr w6.heap.size w3.heap.size (.slice oa k oc) k y from hos)
        have FI : Hid (∀ V, But wr.heap.size w.heap.size wr V → show2Post n x key w (.returned (.agg (rowV 2 (seG n (.slice oa k oc))))) V) := (show _ from fun V hV => by
          have sV := hV.size
          have hbV : Below w.heap.size w V := fa1.trans ((hV.mono fa1.size).below (Nat.le_refl _))
          exact DONE.out V _ hbV ⟨_, _, by omega, ownSpots2.same HOSS.out (w' := V) (by omega) hV.size (fun j hj hn => hV.block j hj (by omega))⟩)
        clear fa1 hbut r8 hos
        go_wp2_with (first | (refine wpList_load_w 29 (.tmp 8) rfl rfl w3.heap.size 0 2 (seG n (.slice oa k oc)) rfl _ Tryd.underlying29 rfl hiSe l8 ?_) | (refine wpList_store_row rfl 29 _ _ rfl rfl w.heap.size 0 2 (seG n (.slice oa k oc)) rfl rfl hiSe (seG_one _ _ _ _) _ _ _ fa5 (by omega) ?_; intro w9 r9 hz9 hb9))
        exact bodyPost_ret (results_cell_seg rfl _ _ w.heap.size 29 2 (seG n (.slice oa k oc)) _ rfl Tryd.underlying29 rfl hiSe (r9.congr fun i hi => by rw [if_pos (by omega), Nat.sub_zero])) rfl (by exact FI.out w9 hb9)
end Go.Proofs.YtkgegihkhdgdoaaDoor

/- A copy of a row of sums; clear of a row of sums. -/
namespace Go.Proofs.YtkgegihkhdgdoaaDoor
set_option linter.unusedSimpArgs false
set_option linter.unusedVariables false
open Go.RowKit Go.Deep

theorem zero_cells32 (n : Nat) : (Builtin.zeroCells (Value.agg (rowV 32 (fun _ => .int .u8 0))).cells n).toList = List.replicate (n * 32) (.int .u8 0) := by
  have e : (Value.agg (rowV 32 (fun _ => .int .u8 0))).cells = rowV 32 (fun _ => .int .u8 0) := rfl
  rw [e]
  unfold Builtin.zeroCells
  rw [rowV_size]
  apply List.ext_getElem
  · simp
  · intro i h1 h2
    have h3 : i % 32 < 32 := Nat.mod_lt _ (by omega)
    have h4 := rowV_get 32 (fun _ => Value.int .u8 0) (i % 32) h3
    have h5 : (rowV 32 (fun _ => Value.int .u8 0))[i % 32]! = .int .u8 0 := by
      rw [getElem!_def, h4]
    simp [h5]
end Go.Proofs.YtkgegihkhdgdoaaDoor

/- clear of what is shown. -/
namespace Go.Proofs.YtkgegihkhdgdoaaDoor
set_option linter.unusedSimpArgs false
set_option linter.unusedVariables false
open Go.RowKit Go.Deep

/-- nothing has turned but what stands in blocks above b, g and c aside; and that may still be written over. -/
def Cl (b g c : Nat) (w w' : World) : Prop := w'.os = w.os ∧ w'.tape = w.tape ∧ w'.output = w.output ∧ w'.heap.size = w.heap.size ∧ (∀ j, (j ≤ b ∨ j = g ∨ j = c) → w'.heap[j]? = w.heap[j]?) ∧ ∀ p o n, w.there p o n → w'.there p o n
theorem Cl.refl (b g c : Nat) (w : World) : Cl b g c w w := ⟨rfl, rfl, rfl, rfl, fun _ _ => rfl, fun _ _ _ h => h⟩
theorem Cl.trans {b g c : Nat} {w w' w'' : World} (h : Cl b g c w w') (k : Cl b g c w' w'') : Cl b g c w w'' :=
  ⟨k.1.trans h.1, k.2.1.trans h.2.1, k.2.2.1.trans h.2.2.1, k.2.2.2.1.trans h.2.2.2.1, fun j hj => (k.2.2.2.2.1 j hj).trans (h.2.2.2.2.1 j hj), fun p o n ht => k.2.2.2.2.2 p o n (h.2.2.2.2.2 p o n ht)⟩
theorem Cl.below {b g c B : Nat} {w w' : World} (h : Cl b g c w w') (hB : B ≤ b + 1) : Below B w w' :=
  ⟨h.1, h.2.1, h.2.2.1, Nat.le_of_eq h.2.2.2.1.symm, fun j hj => h.2.2.2.2.1 j (Or.inl (by omega))⟩
theorem Cl.row {b g c : Nat} {w w' : World} (h : Cl b g c w w') {t : TypeId} {n : Nat} {f : Nat → Value} (hr : w.rowIs c t n f) : w'.rowIs c t n f := World.rowIs.of_block hr (h.2.2.2.2.1 c (Or.inr (Or.inr rfl)))
theorem Cl.cell {b g c : Nat} {w w' : World} (h : Cl b g c w w') (i : Nat) : w'.cell? ⟨g, i, none⟩ = w.cell? ⟨g, i, none⟩ := by
  have e := h.2.2.2.2.1 g (Or.inr (Or.inl rfl))
  unfold World.cell?; rw [e]
theorem Cl.softE {b g c : Nat} {w w' : World} (h : Cl b g c w w') {u : Value} (hs : softE w u) : softE w' u := fun pb o n k e => h.2.2.2.2.2 pb o n (hs pb o n k e)
theorem Cl.softS {b g c : Nat} {w w' : World} (h : Cl b g c w w') {u : Value} (hs : softS w u) : softS w' u := fun pb o n k e => h.2.2.2.2.2 pb o (n * 32) (hs pb o n k e)
/-- clear(key). -/
theorem clear_e {b g c : Nat} (w : World) (u : Value) (x : Option Addr) (k y : Nat) (hu : u = .slice x k y) (hx : 0 < k → ∃ pb po, x = some ⟨pb, po, none⟩) (hs : Go.Proofs.YtkgegihkhdgdoaaDoor.softE w u) (ho : ∀ j, u.ownBlock = some j → b < j ∧ j ≠ g ∧ j ≠ c) :
    ∃ w', (Builtin.clear_ #[23] 0 #[u]).run Tryd.prog w = .ok (.tuple #[]) w' ∧ Cl b g c w w' := by
  obtain ⟨w', h1, h2, h3, h4, h5, h6, h7⟩ := soft_clear w u x k y hu hx hs
  exact ⟨w', h1, h3, h4, h5, h2, fun j hj => h6 j (fun e => by have := ho j e; omega), h7⟩
/-- clear(path). -/
theorem clear_s {b g c : Nat} (w : World) (u : Value) (x : Option Addr) (k y : Nat) (hu : u = .slice x k y) (hx : 0 < k → ∃ pb po, x = some ⟨pb, po, none⟩) (hs : Go.Proofs.YtkgegihkhdgdoaaDoor.softS w u) (ho : ∀ j, u.ownBlock = some j → b < j ∧ j ≠ g ∧ j ≠ c) :
    ∃ w', (Builtin.clear_ #[39] 0 #[u]).run Tryd.prog w = .ok (.tuple #[]) w' ∧ Cl b g c w w' := by
  by_cases h0 : 0 < k
  · obtain ⟨pb, po, rfl⟩ := hx h0
    have ht := hs pb po k y hu
    subst hu
    have hst := run_storeCells_cells (P := Tryd.prog) pb po (List.replicate (k * 32) (.int .u8 0)) 0 w (fun j hj => by
      have hj' : j < k * 32 := by simpa using hj
      exact (ht j hj').1) (fun j hj => by
      have hj' : j < k * 32 := by simpa using hj
      exact (ht j hj').2) (by intro v hv'; rw [List.eq_of_mem_replicate hv']; rfl)
    have hb : But w.heap.size pb w (w.setCells pb po (List.replicate (k * 32) (.int .u8 0))) := but_setCells _ _ (But.refl _ _ _)
    have hp := ho pb rfl
    refine ⟨w.setCells pb po (List.replicate (k * 32) (.int .u8 0)), ?_, hb.os, hb.tape, hb.output, size_setCells _ _ _ _, fun j hj => ?_, fun p o n h => World.there_setCells h _ _ _⟩
    · obtain ⟨m, hm'⟩ : ∃ m, k = m + 1 := ⟨k - 1, by omega⟩
      rw [hm'] at hst ⊢
      have zc := zero_cells32 (m + 1)
      have zv := zero_s32
      generalize Value.agg (rowV 32 (fun _ => .int .u8 0)) = z at zc zv
      generalize List.replicate ((m + 1) * 32) (Value.int .u8 0) = R at zc hst ⊢
      simp at hst
      simp [Builtin.clear_, run_underlying Tryd.underlying39, zv, zc, hst]
    · by_cases hl : j < w.heap.size
      · exact hb.block j hl (fun e => by omega)
      · rw [Array.getElem?_eq_none (by rw [size_setCells]; omega), Array.getElem?_eq_none (by omega)]
  · obtain rfl : k = 0 := by omega
    subst hu
    exact ⟨w, by cases x <;> simp [Builtin.clear_, run_underlying Tryd.underlying39], Cl.refl _ _ _ _⟩
/-- a spot that may be written over. -/
def spotC (w : World) (b g c i : Nat) : Prop := ∃ (ka va pa : Option Addr) (kn kc vn vc pn pc : Nat),
  w.cell? ⟨g, i * 4 + 1, none⟩ = some (.slice ka kn kc) ∧ w.cell? ⟨g, i * 4 + 2, none⟩ = some (.slice va vn vc) ∧ w.cell? ⟨g, i * 4 + 3, none⟩ = some (.slice pa pn pc) ∧
  softE w (.slice ka kn kc) ∧ softE w (.slice va vn vc) ∧ softS w (.slice pa pn pc) ∧
  ((0 < kn → ∃ pb po, ka = some ⟨pb, po, none⟩) ∧ (0 < vn → ∃ pb po, va = some ⟨pb, po, none⟩) ∧ (0 < pn → ∃ pb po, pa = some ⟨pb, po, none⟩)) ∧
  (∀ j, (Value.slice ka kn kc).ownBlock = some j → b < j ∧ j ≠ g ∧ j ≠ c) ∧ (∀ j, (Value.slice va vn vc).ownBlock = some j → b < j ∧ j ≠ g ∧ j ≠ c) ∧ ∀ j, (Value.slice pa pn pc).ownBlock = some j → b < j ∧ j ≠ g ∧ j ≠ c
theorem any_shape {w : World} {v : Value} {l : List Int} (h : anyBytes w v l) : ∃ a n c, v = .slice a n c ∧ (0 < n → ∃ pb po, a = some ⟨pb, po, none⟩) := by
  rcases h with (⟨rfl, _⟩ | ⟨pb, po, cap, rfl, _⟩) | ⟨⟨a, rfl⟩, _⟩
  · exact ⟨_, _, _, rfl, fun h => absurd h (by decide)⟩
  · exact ⟨_, _, _, rfl, fun _ => ⟨pb, po, rfl⟩⟩
  · exact ⟨_, _, _, rfl, fun h => absurd h (by decide)⟩
theorem sums_shape {w : World} {v : Value} {L : List (List Int)} (h : sumsAt w v L) : ∃ a n c, v = .slice a n c ∧ (0 < n → ∃ pb po, a = some ⟨pb, po, none⟩) := by
  obtain ⟨_, a, c, rfl, h⟩ := h
  refine ⟨a, _, c, rfl, fun hn => ?_⟩
  obtain ⟨_, _, hc⟩ := h
  obtain ⟨pb, po, e, _⟩ := hc hn
  exact ⟨pb, po, e⟩
/-- the spots of one's own may be written over. -/
theorem ownSpots2.clr {w : World} {B b c : Nat} {v : Value} {k : Nat} {y : Nat → Sp} (h : ownSpots2 w B b v k y) (hk : 0 < k) (hc : w.heap.size ≤ c) : ∃ g cap, v = .slice (some ⟨g, 0, none⟩) k cap ∧ g < w.heap.size ∧ ∀ i, i < k → spotC w b g c i := by
  obtain ⟨U, hU, ho, hy⟩ := h
  obtain ⟨a, cap, rfl, hcap, hm, hg⟩ := ownsRow_slice ho
  obtain ⟨g, rfl, hlt, _, hcell⟩ := hg hk
  refine ⟨g, cap, rfl, hlt, fun i hi => ?_⟩
  obtain ⟨u, hu, hf⟩ := hy i hi
  have hq := fun j hj => hcell _ _ (c4s_get U i j _ hu hj)
  have hb := hf.2
  obtain ⟨kc, vc, pc, rfl, h1, h2, h3, h4, s1, s2, s3⟩ := hf.now
  obtain ⟨ka, kn, kcap, rfl, k1⟩ := any_shape h1
  obtain ⟨va, vn, vcap, rfl, v1⟩ := any_shape h2
  obtain ⟨pa, pn, pcap, rfl, p1⟩ := sums_shape h3
  have own : ∀ i, 1 ≤ i → i < 4 → ∀ j, (spG (y _).at_ (.slice ka kn kcap) (.slice va vn vcap) (.slice pa pn pcap) i).ownBlock = some j → b < j ∧ j ≠ g ∧ j ≠ c := fun i h1 h4 j hj => by
    obtain ⟨q1, q2, q3⟩ := hb i h1 h4 j hj
    exact ⟨q1, fun e => q3 (by rw [e]; rfl), by omega⟩
  exact ⟨ka, va, pa, kn, kcap, vn, vcap, pn, pcap, hq 1 (by omega), hq 2 (by omega), hq 3 (by omega), s1, s2, s3, ⟨k1, v1, p1⟩, own 1 (by omega) (by omega), own 2 (by omega) (by omega), own 3 (by omega) (by omega)⟩
theorem spotC.cl {w w' : World} {b g c i : Nat} (h : spotC w b g c i) (hc : Cl b g c w w') : spotC w' b g c i := by
  obtain ⟨ka, va, pa, kn, kc, vn, vc, pn, pc, h1, h2, h3, s1, s2, s3, h4⟩ := h
  exact ⟨ka, va, pa, kn, kc, vn, vc, pn, pc, (hc.cell _).trans h1, (hc.cell _).trans h2, (hc.cell _).trans h3, hc.softE s1, hc.softE s2, hc.softS s3, h4⟩
end Go.Proofs.YtkgegihkhdgdoaaDoor

/- What the document shows, plain. -/
namespace Go.Proofs.YtkgegihkhdgdoaaDoor
set_option linter.unusedVariables false

/-- ahead of the key, behind it: the document's two questions at place i. -/
def aheadB (x : Nat → Pr) (n : Nat) (key : List Int) (i : Nat) : Bool := decide (cmpI (x i).1 key < 0) && (decide (i + 1 = n) || decide (0 < cmpI (x (i + 1)).1 key))
def behindB (x : Nat → Pr) (n : Nat) (key : List Int) (i : Nat) : Bool := decide (0 < cmpI (x i).1 key) && (decide (i = 0) || decide (cmpI (x (i - 1)).1 key < 0))
/-- where the key stands, or -1. -/
def thereP (n : Nat) (x : Nat → Pr) (key : List Int) (t : Int) : Prop := (∃ i, i < n ∧ (x i).1 = key ∧ t = (i : Int)) ∨ ((∀ j, j < n → ¬ (x j).1 = key) ∧ t = -1)
def shownB (x : Nat → Pr) (n : Nat) (key : List Int) (t : Int) (i : Nat) : Bool := decide ((i : Int) = t) || (decide (t < 0) && (aheadB x n key i || behindB x n key i))
theorem shown_is {x : Nat → Pr} {n p : Nat} {key : List Int} {t : Int} (hm : mayP x n) (hp : posAt x n key p) (ht : thereP n x key t) (i : Nat) (hi : i < n) :
    shownB x n key t i = true ↔ shF x n key p ≤ i ∧ i < shF x n key p + shM x n key p := by
  obtain ⟨hpn, h1, h2⟩ := hp
  have hm1 := shM_lt x n key p (i - shF x n key p)
  unfold shF arL at *
  rcases ht with ⟨i0, hi0, hk0, rfl⟩ | ⟨hno, rfl⟩
  · obtain ⟨rfl, ha⟩ := pos_key hm ⟨hpn, h1, h2⟩ i0 hi0 hk0
    rw [if_pos ha] at hm1 ⊢
    rw [if_pos ha] at hm1
    unfold shownB
    rw [show decide ((i0 : Int) < 0) = false from decide_eq_false (by omega), Bool.false_and, Bool.or_false, decide_eq_true_iff]
    constructor
    · intro h
      obtain rfl : i = i0 := by omega
      have := hm1.2 (by omega)
      omega
    · rintro ⟨h3, h4⟩
      have := hm1.1 (by omega)
      omega
  · have ha : isAt x n key p = false := by
      rw [Bool.eq_false_iff]
      intro h
      simp only [isAt, Bool.and_eq_true, decide_eq_true_eq] at h
      exact hno p h.1 (cmpI_zero _ _ h.2)
    have ha' : ¬ isAt x n key p = true := by rw [ha]; decide
    rw [if_neg ha'] at hm1 ⊢
    rw [if_neg ha'] at hm1
    have hne : ∀ j, j < n → cmpI (x j).1 key ≠ 0 := fun j hj h => hno j hj (cmpI_zero _ _ h)
    have e0 : shownB x n key (-1) i = true ↔ (aheadB x n key i = true ∨ behindB x n key i = true) := by
      unfold shownB
      rw [show decide ((i : Int) = -1) = false from decide_eq_false (by omega), show decide ((-1 : Int) < 0) = true from rfl, Bool.false_or, Bool.true_and, Bool.or_eq_true]
    have e1 : aheadB x n key i = true ↔ i + 1 = p := by
      unfold aheadB
      simp only [Bool.and_eq_true, Bool.or_eq_true, decide_eq_true_eq]
      constructor
      · rintro ⟨h3, h4⟩
        have hip : i < p := by
          rcases Nat.lt_or_ge i p with h | h
          · exact h
          · have := h2 i h hi; omega
        rcases h4 with h4 | h4
        · omega
        · rcases Nat.lt_or_ge (i + 1) p with h | h
          · have := h1 _ h; omega
          · omega
      · intro h
        refine ⟨h1 i (by omega), ?_⟩
        by_cases hn : i + 1 = n
        · exact .inl hn
        · right
          have h3 := h2 (i + 1) (by omega) (by omega)
          have h4 := hne (i + 1) (by omega)
          omega
    have e2 : behindB x n key i = true ↔ i = p := by
      unfold behindB
      simp only [Bool.and_eq_true, Bool.or_eq_true, decide_eq_true_eq]
      constructor
      · rintro ⟨h3, h4⟩
        have hip : p ≤ i := by
          rcases Nat.lt_or_ge i p with h | h
          · have := h1 i h; omega
          · exact h
        rcases h4 with h4 | h4
        · omega
        · rcases Nat.lt_or_ge (i - 1) p with h | h
          · omega
          · have := h2 _ h (by omega); omega
      · rintro rfl
        have h3 := h2 i (Nat.le_refl _) hi
        have h4 := hne i hi
        refine ⟨by omega, ?_⟩
        by_cases h0 : i = 0
        · exact .inl h0
        · exact .inr (h1 (i - 1) (by omega))
    rw [e0, e1, e2]
    constructor
    · intro h
      have := hm1.2 (by omega)
      omega
    · rintro ⟨h3, h4⟩
      have := hm1.1 (by omega)
      omega
end Go.Proofs.YtkgegihkhdgdoaaDoor

/- The document's leaf of a pair, and whole. -/
namespace Go.Proofs.YtkgegihkhdgdoaaDoor
set_option linter.unusedSimpArgs false
set_option linter.unusedVariables false
open Go.RowKit Go.Deep

set_option maxHeartbeats 2000000 in
set_option maxRecDepth 100000 in
theorem rleaf_any (kc vc : Value) (x : Pr) (w : World) (h1 : anyBytes w kc x.1) (h2 : anyBytes w vc x.2) (hx : x.1.length + x.2.length ≤ 1000000) :
    Calls Tryd.prog 52 #[.agg #[kc, vc]] w fun e w' => e = .returned (sumV (leafS x)) ∧ Below w.heap.size w w' := by
  have hz32 := zero_s32
  obtain ⟨w1, hw1⟩ : ∃ w1, w1 = (w.alloc (.cells #[kc, vc] 38)).alloc (.cells (rowV 32 (fun _ => .int .u8 0)) 32) := ⟨_, rfl⟩
  have b1 : Below w.heap.size w w1 := by rw [hw1]; exact ((Below.refl _ _).alloc (Nat.le_refl _) _).alloc (by simp) _
  have z1 : w1.heap.size = w.heap.size + 2 := by rw [hw1]; simp
  have rz : w1.rowIs (w.heap.size + 1) 32 32 (fun _ => .int .u8 0) := by
    have r := rowIs_box (w.alloc (.cells #[kc, vc] 38)) 32 32 (fun _ => .int .u8 0)
    rw [World.size_alloc] at r; rw [hw1]; exact r
  have hb0 : w1.heap[w.heap.size]? = some (.cells #[kc, vc] 38) := by rw [hw1, blk_alloc_lt _ _ _ (by simp), blk_alloc_new]
  have c0 : w1.cell? ⟨w.heap.size, 0, none⟩ = some kc := by rw [cell_of_row _ _ _ _ _ _ hb0]; rfl
  have c1 : w1.cell? ⟨w.heap.size, 1, none⟩ = some vc := by rw [cell_of_row _ _ _ _ _ _ hb0]; rfl
  obtain ⟨w2, hw2⟩ : ∃ w2, w2 = w1.alloc (.cells #[kc, vc] 23) := ⟨_, rfl⟩
  have b2 : Below w1.heap.size w1 w2 := by rw [hw2]; exact (Below.refl _ _).alloc (Nat.le_refl _) _
  have z2 : w2.heap.size = w1.heap.size + 1 := by rw [hw2]; simp
  have b02 : Below w.heap.size w w2 := b1.trans (b2.mono (by omega))
  have hp : isParts w2 (.slice (some ⟨w1.heap.size, 0, none⟩) 2 2) 2 (prPs x) := by rw [hw2]; exact parts_two w1 kc vc x (h1.below b1 (Nat.le_refl _)) (h2.below b1 (Nat.le_refl _))
  have X := rof_any 4 2 _ (prPs x) w2 hp.any (prPs_light x hx)
  have X' : Calls Tryd.prog 72 #[.int .i64 4, .slice (some ⟨w1.heap.size, 0, none⟩) 2 2] w2 fun e w' => e = .returned (.agg (rowV 32 (arrV (leafS x)))) ∧ Below w2.heap.size w2 w' := X
  have HX : Hid (∀ w3, Below w2.heap.size w2 w3 → w3.rowIs (w.heap.size + 1) 32 32 (fun _ => .int .u8 0) ∧ ∀ w4, But w3.heap.size (w.heap.size + 1) w3 w4 → w4.heap.size = w3.heap.size → Below w.heap.size w w4) := (show _ from fun w3 b3 => by
    have b13 := b2.trans (b3.mono (by omega))
    refine ⟨b13.row rz (by omega), fun w4 b4 z4 => ?_⟩
    have b03 := b1.trans (b13.mono (by omega))
    exact b03.trans ((b4.mono b03.size).below (by omega)))
  obtain ⟨ka, kcap, rfl, _⟩ := h1.slice
  obtain ⟨va, vcap, rfl, _⟩ := h2.slice
  clear X h1 h2 hp b1 b2 b02 z1 z2 rz hb0 hx
  unfold sumV
  go_enter Tryd.func52, Tryd.ntmps52
  go_upto_region 1 with fail
  rw [← hw1]
  clear hw1
  go_wp2_with fail
  rw [← hw2]
  clear hw2 c0 c1
  refine X'.mono ?_
  rintro e w3 ⟨rfl, f3⟩
  obtain ⟨r3, K3⟩ := HX.out w3 f3
  have HK3 : Hid _ := K3
  clear X' HX f3 K3
  go_wp2_with (refine wpList_store_row rfl 32 _ _ rfl rfl (w.heap.size + 1) 0 32 (arrV (leafS x)) rfl rfl hi32' (fun _ _ => rfl) _ _ _ r3 (by omega) ?_; intro w4 r4 hz4 hb4)
  exact bodyPost_ret (results_cell_seg rfl _ _ (w.heap.size + 1) 32 32 (arrV (leafS x)) _ rfl Tryd.underlying32 rfl hi32' (r4.congr fun i hi => by rw [if_pos (by omega), Nat.sub_zero])) rfl ⟨rfl, HK3.out w4 hb4 hz4⟩
set_option maxHeartbeats 4000000 in
set_option maxRecDepth 100000 in
theorem rwhole_any (count : Int) (s : List Int) (w : World) (h0 : 0 ≤ count) (h63 : count ≤ 9223372036854775807) (hs : isSum s) :
    Calls Tryd.prog 41 #[.int .i64 count, .agg (rowV 32 (arrV s))] w fun e w' => e = .returned (sumV (krootS count s)) ∧ Below w.heap.size w w' := by
  have hz32 := zero_s32
  obtain ⟨w1, hw1⟩ : ∃ w1, w1 = (w.alloc (.cells (rowV 32 (arrV s)) 32)).alloc (.cells (rowV 32 (fun _ => .int .u8 0)) 32) := ⟨_, rfl⟩
  have b1 : Below w.heap.size w w1 := by rw [hw1]; exact ((Below.refl _ _).alloc (Nat.le_refl _) _).alloc (by simp) _
  have z1 : w1.heap.size = w.heap.size + 2 := by rw [hw1]; simp
  have rs : w1.rowIs w.heap.size 32 32 (arrV s) := by
    have r := rowIs_box w 32 32 (arrV s)
    rw [hw1]; exact ((Below.refl (w.alloc (.cells (rowV 32 (arrV s)) 32)).heap.size _).alloc (Nat.le_refl _) _).row r (by simp)
  have rz : w1.rowIs (w.heap.size + 1) 32 32 (fun _ => .int .u8 0) := by
    have r := rowIs_box (w.alloc (.cells (rowV 32 (arrV s)) 32)) 32 32 (fun _ => .int .u8 0)
    rw [World.size_alloc] at r; rw [hw1]; exact r
  have hwu : IntKind.wrap .u64 count = count := wrapU63 count h0 h63
  have FACT : Hid (∀ wz, Below w1.heap.size w1 wz → Below w.heap.size w wz ∧ wz.rowIs w.heap.size 32 32 (arrV s) ∧ wz.rowIs (w.heap.size + 1) 32 32 (fun _ => .int .u8 0)) := (show _ from fun wz hz => by
    have hz' : Below w.heap.size w wz := b1.trans (hz.mono (by omega))
    exact ⟨hz', hz.row rs (by omega), hz.row rz (by omega)⟩)
  have Z1 : Hid (w1.heap.size = w.heap.size + 2) := (show w1.heap.size = w.heap.size + 2 from z1)
  clear b1 z1 rs rz
  unfold sumV
  go_enter Tryd.func41, Tryd.ntmps41
  go_upto_region 1 with fail
  rw [← hw1]
  clear hw1
  refine wp_region_noPanic ?_
  refine wp_region_held_drew (S := fun w' => True) (by kernel_rfl) trivial (fun hHeld => ?_)
  refine take_op (i := 0) (v := ?va0) rfl (by kernel_rfl) (by kernel_rfl) (by kernel_rfl) (fun _ _ _ h => h) rfl hHeld ?ya0 ?ra0
  case ya0 => (intro wz hz; go_simp; first | done | with_reducible rfl)
  try simp only [Act.put, List.setIfInBounds_toArray, List.set_cons_zero, List.set_cons_succ]
  refine take_op (i := 1) (v := ?va1) rfl (by kernel_rfl) (by kernel_rfl) (by kernel_rfl) (fun _ _ _ h => h) rfl hHeld ?ya1 ?ra1
  case ya1 => (intro wz hz; go_simp; first | done | with_reducible rfl)
  try simp only [Act.put, List.setIfInBounds_toArray, List.set_cons_zero, List.set_cons_succ]
  refine take_op (i := 3) (v := ?va3) rfl (by kernel_rfl) (by kernel_rfl) (by kernel_rfl) (fun _ _ _ h => h) rfl hHeld ?ya3 ?ra3
  case ya3 => (intro wz hz; go_simp; first | done | with_reducible rfl)
  try simp only [Act.put, List.setIfInBounds_toArray, List.set_cons_zero, List.set_cons_succ]
  refine take_one (i := 2) rfl (by kernel_rfl) rfl (fun K hK => ?_)
  have XN := rnumber_any count h0 (by omega) w1.drew
  go_simp
  refine Calls.mono XN ?_
  rintro e w3 ⟨nv, rfl, n3, b3⟩
  have b13 : Below w1.heap.size w1 w3 := ((Below.refl w1.heap.size w1).drew).trans (b3.mono (Below.refl w1.heap.size w1).drew.size)
  have hn3 := n3.is
  obtain ⟨na, nc, rfl, _⟩ := hn3.slice
  refine hK.out _ _ trivial (fun hHeld => ?_)
  clear hK K XN b3 n3
  try simp only [Act.put, List.setIfInBounds_toArray, List.set_cons_zero, List.set_cons_succ]
  refine take_one (i := 4) rfl (by kernel_rfl) rfl (fun K hK => ?_)
  refine wp_of_run (exec_bslice2' 130 2 0 1 (.tmp 7) (.tmp 8) (.slice na (numB count).length nc) (.slice (some ⟨w.heap.size, 0, none⟩) 32 32) rfl rfl rfl (build_parts2 _ _ _ _ _ _ w3)) ?_
  obtain ⟨w4, hw4⟩ : ∃ w4, w4 = w3.alloc (.cells #[.slice na (numB count).length nc, .slice (some ⟨w.heap.size, 0, none⟩) 32 32] 23) := ⟨_, rfl⟩
  have b34 : Below w3.heap.size w3 w4 := by rw [hw4]; exact (Below.refl _ _).alloc (Nat.le_refl _) _
  have z4 : w4.heap.size = w3.heap.size + 1 := by rw [hw4]; simp
  have hp4 : isParts w4 (.slice (some ⟨w3.heap.size, 0, none⟩) 2 2) 2 (kroot count s) := by
    have hpp := parts_two w3 _ _ (numB count, s) (Or.inl hn3) (Or.inl (row_bytes (FACT.out w3 b13).2.1 hs))
    rw [hw4]; exact hpp
  have b14 : Below w1.heap.size w1 w4 := b13.trans (b34.mono b13.size)
  obtain ⟨b04, _, rz4⟩ := FACT.out w4 b14
  have X := rof_any 5 2 _ (kroot count s) w4 hp4.any (kroot_light count s hs)
  have X' : Calls Tryd.prog 72 #[.int .i64 5, .slice (some ⟨w3.heap.size, 0, none⟩) 2 2] w4 fun e w' => e = .returned (.agg (rowV 32 (arrV (krootS count s)))) ∧ Below w4.heap.size w4 w' := X
  have s13 := b13.size
  rw [← hw4]
  refine hK.out _ _ trivial (fun hHeld => ?_)
  clear hK K hw4 X hn3 hp4 b13 b34 b14
  try simp only [Act.put, List.setIfInBounds_toArray, List.set_cons_zero, List.set_cons_succ]
  refine take_one (i := 5) rfl (by kernel_rfl) rfl (fun K hK => ?_)
  go_simp
  refine Calls.mono X' ?_
  rintro e w5 ⟨rfl, f5⟩
  have s4 := f5.size
  have rz5 : w5.rowIs (w.heap.size + 1) 32 32 (fun _ => .int .u8 0) := f5.row rz4 (by have := Z1.out; omega)
  have b05 : Below w.heap.size w w5 := b04.trans (f5.mono b04.size)
  refine hK.out _ _ trivial (fun hHeld => ?_)
  clear hK K X' rz4
  try simp only [Act.put, List.setIfInBounds_toArray, List.set_cons_zero, List.set_cons_succ]
  obtain ⟨r6, z6, bu6⟩ := stow32T_row w5 (w.heap.size + 1) (krootS count s) rz5
  have hst := stow32T_run w5 (w.heap.size + 1) (krootS count s) rz5
  generalize w5.setCells (w.heap.size + 1) 0 (rowV 32 (arrV (krootS count s))).toList = w6 at r6 z6 bu6 hst
  have DONE : Hid (Below w.heap.size w w6) := (show _ from b05.trans ((bu6.mono b05.size).below (by omega)))
  refine take_one (i := 6) rfl (by kernel_rfl) rfl (fun K hK => ?_)
  unfold Oper.wp execOp
  simp only [Instr.storeAt, Instr.sureAddr, Sem.run_bind, Sem.run_pure, Result.andThen_ok]
  simp [Act.eval, hst, Oper.upon]
  refine hK.out _ _ trivial (fun hHeld => ?_)
  clear hK K hst bu6 z6 f5 b04 b05 rz5
  try simp only [Act.put, List.setIfInBounds_toArray, List.set_cons_zero, List.set_cons_succ]
  refine wpAnyH_done (by kernel_rfl) ?_ _
  refine NoPanic.normal ?_
  have R6 : Hid (w6.rowIs (w.heap.size + 1) 32 32 (arrV (krootS count s))) := (show w6.rowIs (w.heap.size + 1) 32 32 (arrV (krootS count s)) from r6)
  clear r6
  go_wp2
  exact bodyPost_ret (results_cell_seg rfl _ _ (w.heap.size + 1) 32 32 (arrV (krootS count s)) _ rfl Tryd.underlying32 rfl hi32' R6.out) rfl ⟨rfl, DONE.out⟩
end Go.Proofs.YtkgegihkhdgdoaaDoor

/- The document's leaves of pairs, and root. -/
namespace Go.Proofs.YtkgegihkhdgdoaaDoor
set_option linter.unusedSimpArgs false
set_option linter.unusedVariables false
open Go.RowKit Go.Deep

set_option maxHeartbeats 4000000 in
set_option maxRecDepth 100000 in
theorem rleaves_any (n : Nat) (v : Value) (x : Nat → Pr) (w : World) (hp : pairsAt w v n x) (hn : n ≤ 1000) (hx : ∀ i, i < n → (x i).1.length + (x i).2.length ≤ 1000000) :
    Calls Tryd.prog 43 #[v] w fun e w' => ∃ s, e = .returned s ∧ newSums w' w.heap.size s (leavesTo x n) ∧ Below w.heap.size w w' := by
  obtain ⟨a, cap, hv, hnc, hcm, _⟩ := (id hp : pairsAt w v n x)
  have hnm : (n : Int) ≤ 1000 := by omega
  have HP : Hid (pairsAt w v n x) := (show pairsAt w v n x from hp)
  have HX : Hid (∀ i, i < n → (x i).1.length + (x i).2.length ≤ 1000000) := (show _ from hx)
  subst hv
  have hn0 : (0 : Int) ≤ (n : Int) := by omega
  have hs0 : newSums w w.heap.size (.slice none 0 0) (leavesTo x 0) := newSums.nil _ _
  have HS0 : Hid (newSums w w.heap.size (.slice none 0 0) (leavesTo x 0)) := hs0
  clear hp hnc hcm hx hs0
  go_enter Tryd.func43, Tryd.ntmps43
  go_wp2_with fail
  go_loopw [3, 4] (fun vv i wr => ∃ (q : Nat) (oa : Option Addr) (oc : Nat), q ≤ n ∧ vv = .slice oa q oc ∧ i = .int .i64 (q : Int) ∧ newSums wr w.heap.size (.slice oa q oc) (leavesTo x q) ∧ Below w.heap.size w wr) (fun _ i _ => n - (intOf i).toNat)
  case atStart => exact ⟨0, none, 0, by omega, rfl, rfl, HS0.out, Below.refl _ _⟩
  case round =>
    obtain ⟨q, oa, oc, hqn, rfl, rfl, hos, hbr⟩ := hrel
    have q0 : (0 : Int) ≤ (q : Int) := by omega
    have HBR : Hid (Below w.heap.size w wr) := (show Below w.heap.size w wr from hbr)
    have HOS : Hid (newSums wr w.heap.size (.slice oa q oc) (leavesTo x q)) := (show _ from hos)
    clear hos
    by_cases hlt : q < n
    · have q1 : (q : Int) < (n : Int) := by omega
      obtain ⟨g, o, cap', e, hg, _, _, hcell⟩ := HP.out.at (by omega)
      injection e with e1 e2 e3
      subst e1
      subst e3
      obtain ⟨ka, kcap, va, vcap, H⟩ := hcell q hlt
      have hc2 : ∀ j, j < 2 → wr.cell? ⟨g, o + q * 2 + j, none⟩ = some (prG (.slice ka (x q).1.length kcap) (.slice va (x q).2.length vcap) j) := fun j hj => by
        have : j = 0 ∨ j = 1 := by omega
        rcases this with rfl | rfl
        · exact (H wr hbr).1
        · exact (H wr hbr).2.1
      have X : Calls Tryd.prog 52 #[.agg (rowV 2 (prG (.slice ka (x q).1.length kcap) (.slice va (x q).2.length vcap)))] wr fun e w' => e = .returned (.agg (rowV 32 (arrV (leafS (x q))))) ∧ Below wr.heap.size wr w' := rleaf_any _ _ (x q) wr (H wr hbr).2.2.1 (H wr hbr).2.2.2 (HX.out q hlt)
      have hll : (leavesTo x q).length = q := leavesTo_len x q
      have STEP : Hid (∀ w3, Below wr.heap.size wr w3 → ∃ a c' w4, (Builtin.append_ #[39, 39] 39 #[.slice oa q oc, .slice (some ⟨w3.heap.size, 0, none⟩) 1 1]).run Tryd.prog (w3.alloc (.cells (rowV 32 (arrV (leafS (x q)))) 32)) = .ok (.slice a (q + 1) c') w4 ∧ newSums w4 w.heap.size (.slice a (q + 1) c') (leavesTo x (q + 1)) ∧ Below w.heap.size w w4) := (show _ from fun w3 b3 => by
        have hw := HBR.out.size
        have h3 := b3.size
        have hns3 : newSums w3 w.heap.size (.slice oa q oc) (leavesTo x q) := HOS.out.below b3 (Nat.le_refl _)
        obtain ⟨a, c', w4, hr, hn4, hg, hat⟩ := sums_one_more w3 w.heap.size _ _ (leafS (x q)) (leafS_sum _) hns3 (by omega) (by rw [hll]; omega)
        rw [hll] at hr hn4
        exact ⟨a, c', w4, hr, by rw [leavesTo_succ]; exact hn4, (HBR.out.trans (b3.mono HBR.out.size)).trans (below_grown hg (fun k hk => (hns3.block k hk).1) (by omega))⟩)
      have hbl := fun wz => build_one (arrV (leafS (x q))) wz
      clear hcell H hg hbr hll
      go_wp2_with (first | (refine wpList_load_seg rfl 38 _ rfl g (o + q * 2) 2 (prG (.slice ka (x q).1.length kcap) (.slice va (x q).2.length vcap)) rfl _ Tryd.underlying38 rfl hiPr hc2 ?_))
      refine X.mono ?_
      rintro e w3 ⟨rfl, b3⟩
      obtain ⟨a, c', w4, hr, hS⟩ := STEP.out w3 b3
      have HS4 : Hid (newSums w4 w.heap.size (.slice a (q + 1) c') (leavesTo x (q + 1)) ∧ Below w.heap.size w w4) := (show _ ∧ _ from hS)
      clear X STEP b3 hS hc2
      go_wp2_with (first | (refine wpList_build_run (v := .agg (rowV 32 (arrV (leafS (x q))))) rfl 39 1 0 (.tmp 16) rfl rfl (hbl w3) ?_; clear hbl) | (at_builtin; refine wpList_append_run rfl _ _ _ rfl rfl rfl hr ?_))
      go_light
      exact ⟨⟨q + 1, a, c', by omega, rfl, by go_num, HS4.out.1, HS4.out.2⟩, by simp [intOf]; omega⟩
    · obtain rfl : q = n := by omega
      have q1 : ¬ (q : Int) < (q : Int) := by omega
      clear hbr
      go_wp2
      go_ret
      exact ⟨_, rfl, HOS.out, HBR.out⟩
set_option maxHeartbeats 4000000 in
set_option maxRecDepth 100000 in
/-- the root of pairs. -/
theorem rkroot_any (n : Nat) (v : Value) (x : Nat → Pr) (w : World) (hp : pairsAt w v n x) (hn : n ≤ 1000) (hx : ∀ i, i < n → (x i).1.length + (x i).2.length ≤ 1000000) :
    Calls Tryd.prog 16 #[v] w fun e w' => e = .returned (sumV (krootS (n : Int) (rootS (leavesTo x n)))) ∧ Below w.heap.size w w' := by
  have hz32 := zero_s32
  obtain ⟨a, cap, hv, hnc, hcm, _⟩ := (id hp : pairsAt w v n x)
  subst hv
  obtain ⟨w1, hw1⟩ : ∃ w1, w1 = w.alloc (.cells (rowV 32 (fun _ => .int .u8 0)) 32) := ⟨_, rfl⟩
  have b1 : Below w.heap.size w w1 := by rw [hw1]; exact (Below.refl _ _).alloc (Nat.le_refl _) _
  have r1 : w1.rowIs w.heap.size 32 32 (fun _ => .int .u8 0) := by rw [hw1]; exact rowIs_box _ _ _ _
  have XL := rleaves_any n (.slice a n cap) x w1 (hp.below b1 (Nat.le_refl _)) hn hx
  have H1 : Hid (Below w.heap.size w w1 ∧ w1.rowIs w.heap.size 32 32 (fun _ => .int .u8 0) ∧ n ≤ 1000) := (show _ ∧ _ ∧ _ from ⟨b1, r1, hn⟩)
  have hn1 : (n : Int) ≤ 1000 := by omega
  have hn0 : (0 : Int) ≤ (n : Int) := by omega
  clear hp hx hnc hcm b1 r1 hn
  unfold sumV
  go_enter Tryd.func16, Tryd.ntmps16
  go_upto_region 1 with fail
  rw [← hw1]
  clear hw1
  go_wp2_with fail
  refine XL.mono ?_
  rintro e w2 ⟨s, rfl, hs, b2⟩
  have XR := rroot_any 1000 (leavesTo x n) s w2 (by rw [leavesTo_len]; exact H1.out.2.2) (Nat.le_refl _) hs.is
  have B2 : Hid (Below w1.heap.size w1 w2) := (show _ from b2)
  obtain ⟨sa, sc, hse⟩ : ∃ sa sc, s = .slice sa (leavesTo x n).length sc := by obtain ⟨a, c, e, _⟩ := ownsRow_slice hs.2; exact ⟨a, c, e⟩
  subst hse
  unfold sumV at XR
  clear XL hs b2
  go_wp2_with fail
  refine XR.mono ?_
  rintro e w3 ⟨rfl, b3⟩
  have B3 : Hid (Below w1.heap.size w1 w3) := (show _ from B2.out.trans (b3.mono B2.out.size))
  have XW := rwhole_any (n : Int) (rootS (leavesTo x n)) w3 hn0 (by omega) (rootS_sum (fun l hl => by
    obtain ⟨i, _, rfl⟩ := List.mem_map.1 hl
    exact leafS_sum _))
  unfold sumV at XW
  clear XR b3
  go_wp2_with fail
  refine XW.mono ?_
  rintro e w4 ⟨rfl, b4⟩
  have b14 : Below w1.heap.size w1 w4 := B3.out.trans (b4.mono B3.out.size)
  have r4 : w4.rowIs w.heap.size 32 32 (fun _ => .int .u8 0) := b14.row H1.out.2.1 H1.out.2.1.lt
  have B4 : Hid (Below w.heap.size w w4) := (show _ from H1.out.1.trans (b14.mono H1.out.1.size))
  clear XW b4 b14
  go_wp2_with (refine wpList_store_row rfl 32 _ _ rfl rfl w.heap.size 0 32 (arrV (krootS (n : Int) (rootS (leavesTo x n)))) rfl rfl hi32' (fun _ _ => rfl) _ _ _ r4 (by omega) ?_; intro w5 r5 z5 b5)
  exact bodyPost_ret (results_cell_seg rfl _ _ w.heap.size 32 32 (arrV (krootS (n : Int) (rootS (leavesTo x n)))) _ rfl Tryd.underlying32 rfl hi32' (r5.congr fun i hi => by rw [if_pos (by omega), Nat.sub_zero])) rfl ⟨rfl, B4.out.trans ((b5.mono B4.out.size).below (Nat.le_refl _))⟩
end Go.Proofs.YtkgegihkhdgdoaaDoor

/- rows of pairs of one's own. -/
namespace Go.Proofs.YtkgegihkhdgdoaaDoor
set_option linter.unusedSimpArgs false
set_option linter.unusedVariables false
open Go.RowKit Go.Deep

def c2 (u : Nat → Value) : List Value := [u 0, u 1]
theorem c2_get (u : Nat → Value) (j : Nat) (hj : j < 2) : (c2 u)[j]? = some (u j) := by
  match j, hj with
  | 0, _ => rfl
  | 1, _ => rfl
theorem c2s_get : ∀ (U : List (Nat → Value)) (i j : Nat) (u : Nat → Value), U[i]? = some u → j < 2 → (U.flatMap c2)[i * 2 + j]? = some (u j)
  | [], i, j, u, h, _ => by simp at h
  | y :: N, 0, j, u, h, hj => by
    have e : y = u := by simpa using h
    subst e
    rw [List.flatMap_cons, Nat.zero_mul, Nat.zero_add, List.getElem?_append_left (by rw [show (c2 y).length = 2 from rfl]; exact hj)]
    exact c2_get _ _ hj
  | y :: N, i + 1, j, u, h, hj => by
    rw [List.flatMap_cons, List.getElem?_append_right (by rw [show (c2 y).length = 2 from rfl]; omega), show (c2 y).length = 2 from rfl, show (i + 1) * 2 + j - 2 = i * 2 + j by omega]
    exact c2s_get N i j u (by simpa using h) hj
/-- one pair's cells hold it. -/
def pairIn (w : World) (u : Nat → Value) (s : Pr) : Prop := ∃ kc vc, u = prG kc vc ∧ anyBytes w kc s.1 ∧ anyBytes w vc s.2
/-- .. and go on to hold it while no block from B on turns but v's own. -/
def pairFar (w : World) (B : Nat) (v : Value) (u : Nat → Value) (s : Pr) : Prop := ∀ w', (w.heap.size ≤ w'.heap.size ∧ ∀ j, j < w.heap.size → ¬ v.ownBlock = some j → B ≤ j → w'.heap[j]? = w.heap[j]?) → pairIn w' u s
theorem pairFar.now {w : World} {B : Nat} {v : Value} {u : Nat → Value} {s : Pr} (h : pairFar w B v u s) : pairIn w u s := h w ⟨Nat.le_refl _, fun _ _ _ _ => rfl⟩
theorem pairFar.below {w w' : World} {C B : Nat} {v : Value} {u : Nat → Value} {s : Pr} (h : pairFar w B v u s) (hb : Below C w w') (hC : w.heap.size ≤ C) : pairFar w' B v u s := fun z hz =>
  h z ⟨Nat.le_trans hb.size hz.1, fun j hj hn hb' => (hz.2 j (Nat.lt_of_lt_of_le hj hb.size) hn hb').trans (hb.block j (by omega))⟩
/-- v is a row of k pairs, in memory of its own from B on. -/
def ownPairs (w : World) (B : Nat) (v : Value) (k : Nat) (x : Nat → Pr) : Prop :=
  ∃ U : List (Nat → Value), U.length = k ∧ w.ownsRow B 38 2 v k (U.flatMap c2) ∧ ∀ i, i < k → ∃ u, U[i]? = some u ∧ pairFar w B v u (x i)
theorem ownPairs.nil (w : World) (B : Nat) (x : Nat → Pr) : ownPairs w B (.slice none 0 0) 0 x := ⟨[], rfl, ⟨rfl, Or.inl ⟨rfl, rfl⟩⟩, fun i hi => by omega⟩
theorem ownPairs.is {w : World} {B : Nat} {v : Value} {k : Nat} {x : Nat → Pr} (h : ownPairs w B v k x) : pairsAt w v k x := by
  obtain ⟨U, hU, ho, hy⟩ := h
  obtain ⟨a, c, rfl, hc, hm, hg⟩ := ownsRow_slice ho
  refine ⟨a, c, rfl, hc, hm, fun i hi => ?_⟩
  obtain ⟨g, rfl, hlt, _, hcell⟩ := hg (by omega)
  obtain ⟨u, hu, hf⟩ := hy i hi
  obtain ⟨kc, vc, rfl, h1, h2⟩ := hf.now
  have hq := fun j hj => hcell _ _ (c2s_get U i j _ hu hj)
  refine ⟨g, 0, kc, vc, rfl, hlt, ?_, ?_, h1, h2⟩
  · have := hq 0 (by omega); rw [Nat.zero_add]; exact this
  · have := hq 1 (by omega); rw [Nat.zero_add]; exact this
theorem ownPairs.block {w : World} {B : Nat} {v : Value} {k : Nat} {x : Nat → Pr} (h : ownPairs w B v k x) (j : Nat) (hj : v.ownBlock = some j) : B ≤ j ∧ j < w.heap.size := by
  obtain ⟨U, _, ho, _⟩ := h
  exact ownsRow_block ho j hj
theorem ownPairs.below {w w' : World} {B C : Nat} {v : Value} {k : Nat} {x : Nat → Pr} (h : ownPairs w B v k x) (hb : Below C w w') (hC : w.heap.size ≤ C) : ownPairs w' B v k x := by
  obtain ⟨U, hU, ho, hy⟩ := h
  refine ⟨U, hU, ownsRow_far ho fun j hj => hb.block j (Nat.lt_of_lt_of_le (ownsRow_block ho j hj).2 hC), fun i hi => ?_⟩
  obtain ⟨u, hu, hs⟩ := hy i hi
  exact ⟨u, hu, hs.below hb hC⟩
theorem infoPr : (Tryd.prog.info? 38).map (fun i => (i.zero, i.size, i.bytes)) = some (some (.agg (rowV 2 prZ)), 2, 48) := by kernel_rfl
theorem build_pr1 (f : Nat → Value) (w : World) : (Instr.buildSlice 22 1 #[(0, .agg (rowV 2 f))]).run Tryd.prog w = .ok (.slice (some ⟨w.heap.size, 0, none⟩) 1 1) (w.alloc (.cells (rowV 2 f) 38)) := by
  show (_ : Result Value) = _
  kernel_rfl
theorem build_b0 (w : World) : (Instr.buildSlice 23 0 #[]).run Tryd.prog w = .ok (.slice (some ⟨w.heap.size, 0, none⟩) 0 0) (w.alloc (.cells #[] 5)) := by
  show (_ : Result Value) = _
  kernel_rfl
theorem exec_bslice0' {P : Program} {o : Oper} {ev : Operand → Value} {w w' : World} {v : Value} (t : TypeId) (n : Nat) (ho : o.op = .buildSlice t n #[])
    (hr : (Instr.buildSlice t n #[]).run P w = .ok v w') : (execOp ev o).run P w = .ok (.value v) w' := by
  unfold execOp
  simp only [ho, List.map_toArray, List.map_cons, List.map_nil, Sem.run_bind, hr, Result.andThen_ok, Sem.run_pure]
theorem newBytes.zero (w : World) (B : Nat) (hB : B ≤ w.heap.size) : newBytes (w.alloc (.cells #[] 5)) B (.slice (some ⟨w.heap.size, 0, none⟩) 0 0) [] :=
  ⟨⟨rfl, Or.inr ⟨w.heap.size, 0, #[], rfl, hB, blk_alloc_new _ _, Nat.le_refl _, by unfold maxLen; omega, rfl, rfl⟩⟩, fun i => by simp⟩
/-- append of one pair to pairs of one's own. -/
theorem pairs_append (w : World) (B : Nat) (v : Value) (k : Nat) (x : Nat → Pr) (hv : ownPairs w B v k x) (b : Nat) (u : Nat → Value) (hb : w.rowIs b 38 2 u) (hu : pairFar w B v u (x k)) (hn : k < 1000000) (hB : B ≤ w.heap.size) :
    ∃ v' w', (Builtin.append_ #[22, 22] 22 #[v, .slice (some ⟨b, 0, none⟩) 1 1]).run Tryd.prog w = .ok v' w' ∧ ownPairs w' B v' (k + 1) x ∧ w.grownBy w' v.ownBlock ∧ (v'.ownBlock = v.ownBlock ∨ v'.ownBlock = some w.heap.size) := by
  obtain ⟨U, hU, ho, hy⟩ := hv
  have h4 : ∀ j, j < 2 → (u j).oneCell' = true := by
    obtain ⟨kc, vc, rfl, h1, h2⟩ := hu.now
    obtain ⟨ka, kcap, rfl, _⟩ := h1.slice
    obtain ⟨va, vcap, rfl, _⟩ := h2.slice
    exact prG_one _ _ _ _ _ _
  obtain ⟨a', c', w', hr, ho', hg, hat⟩ := row_append (P := Tryd.prog) w 22 22 38 _ 2 48 Tryd.underlying22 infoPr (by simp [Value.cells, rowV_size]) (by omega)
    B v k _ ho (.slice (some ⟨b, 0, none⟩) 1 1) 1 (c2 u) rfl
    ⟨_, _, rfl, fun _ => ⟨b, 0, rfl, fun j x hj => by
      have hl : j < 2 := (List.getElem?_eq_some_iff.1 hj).1
      rw [c2_get _ _ hl] at hj
      rw [Nat.zero_add, ← Option.some.inj hj]; exact hb.cell hl⟩⟩
    (fun x hx => by
      obtain ⟨j, hj, rfl⟩ := List.mem_iff_getElem.1 hx
      have hl : j < 2 := hj
      have := c2_get u j hl
      rw [List.getElem?_eq_getElem hj] at this
      rw [Option.some.inj this]; exact h4 j hl) (by unfold maxLen; omega) (by omega) hB
  have hfar : ∀ (u' : Nat → Value) (s : Pr), pairFar w B v u' s → pairFar w' B (.slice a' (k + 1) c') u' s := fun u' s h z hz => h z ⟨Nat.le_trans hg.size hz.1, fun j hj hn hne => by
    have h1 := hg.block j hj (fun e => hn e.symm)
    refine (hz.2 j (Nat.lt_of_lt_of_le hj hg.size) (fun e => ?_) hne).trans h1
    rcases hat with h | h
    · rw [h] at e; exact hn e
    · rw [h] at e; have := Option.some.inj e; omega⟩
  refine ⟨_, w', hr, ⟨U ++ [u], by simp [hU], ?_, fun i hi => ?_⟩, hg, hat⟩
  · rw [List.flatMap_append, show [u].flatMap c2 = c2 u from List.append_nil _]; exact ho'
  · by_cases e : i < k
    · obtain ⟨u', hu', hf⟩ := hy i e
      exact ⟨u', by rw [List.getElem?_append_left (by omega)]; exact hu', hfar _ _ hf⟩
    · obtain rfl : i = k := by omega
      exact ⟨u, by rw [List.getElem?_append_right (by omega), hU, Nat.sub_self]; rfl, hfar _ _ hu⟩
/-- the two copies of a pair's parts, how far they are: none, an empty one, the whole. -/
def pq (wr W : World) (k v : Option (Value × List Int)) : Prop :=
  Below wr.heap.size wr W ∧ (∀ u l, k = some (u, l) → newBytes W wr.heap.size u l) ∧ (∀ u l, v = some (u, l) → newBytes W wr.heap.size u l) ∧ ∀ a la b lb, k = some (a, la) → v = some (b, lb) → ∀ j, a.ownBlock = some j → ¬ b.ownBlock = some j
theorem pq.swap {wr W : World} {k v : Option (Value × List Int)} (h : pq wr W k v) : pq wr W v k := ⟨h.1, h.2.2.1, h.2.1, fun a la b lb h1 h2 j hj hb => h.2.2.2 b lb a la h2 h1 j hb hj⟩
theorem pq.make {wr W : World} {v : Option (Value × List Int)} (h : pq wr W none v) : pq wr (W.alloc (.cells #[] 5)) (some (.slice (some ⟨W.heap.size, 0, none⟩) 0 0, [])) v := by
  have hb : Below W.heap.size W (W.alloc (.cells #[] 5)) := (Below.refl _ _).alloc (Nat.le_refl _) _
  have hs := h.1.size
  refine ⟨h.1.trans (hb.mono hs), fun u l e => ?_, fun u l e => (h.2.2.1 u l e).below hb (Nat.le_refl _), fun a la b lb e1 e2 j hj hk => ?_⟩
  · have e' := Option.some.inj e
    rw [← (Prod.mk.inj e').1, ← (Prod.mk.inj e').2]
    exact newBytes.zero W _ hs
  · have e' := Option.some.inj e1
    rw [← (Prod.mk.inj e').1] at hj
    have : W.heap.size = j := by simpa [Value.ownBlock] using hj
    have := ((h.2.2.1 b lb e2).block j hk).2
    omega
theorem pq.fill {wr W : World} {u y : Value} {m : List Int} {v : Option (Value × List Int)} (h : pq wr W (some (u, [])) v) (hy : anyBytes W y m) (hm : m.length ≤ 1000000) : ∃ u' W', (Builtin.append_ #[23, 23] 23 #[u, y]).run Tryd.prog W = .ok u' W' ∧ pq wr W' (some (u', m)) v := by
  have hn := h.2.1 u [] rfl
  obtain ⟨u', W', hr, hn', hg, hat⟩ := any_append_run W wr.heap.size u y [] m hn hy (by simp; omega) h.1.size
  have hb := below_grown hg (fun k hk => (hn.block k hk).1) h.1.size
  refine ⟨u', W', hr, h.1.trans hb, fun a l e => ?_, fun b lb e => ?_, fun a la b lb e1 e2 j hj hk => ?_⟩
  · have e' := Option.some.inj e
    rw [← (Prod.mk.inj e').1, ← (Prod.mk.inj e').2]
    rw [List.nil_append] at hn'; exact hn'
  · have h1 := h.2.2.1 b lb e
    exact h1.apart fun j hj => hg.block j (h1.block j hj).2 (fun e' => h.2.2.2 u [] b lb rfl e j e'.symm hj)
  · have e' := Option.some.inj e1
    rw [← (Prod.mk.inj e').1] at hj
    have h1 := h.2.2.1 b lb e2
    rcases hat with ha | ha
    · rw [ha] at hj; exact h.2.2.2 u [] b lb rfl e2 j hj hk
    · rw [ha] at hj; have := Option.some.inj hj; have := (h1.block j hk).2; omega
end Go.Proofs.YtkgegihkhdgdoaaDoor

/- The document's copy of pairs. -/
namespace Go.Proofs.YtkgegihkhdgdoaaDoor
set_option linter.unusedSimpArgs false
set_option linter.unusedVariables false
open Go.RowKit Go.Deep

set_option maxHeartbeats 8000000 in
set_option maxRecDepth 100000 in
theorem rpairs_any (n : Nat) (v : Value) (x : Nat → Pr) (w : World) (hp : pairsAt w v n x) (hn : n ≤ 1000) (hx : ∀ i, i < n → (x i).1.length + (x i).2.length ≤ 1000000) :
    Calls Tryd.prog 11 #[v] w fun e w' => ∃ u, e = .returned u ∧ ownPairs w' w.heap.size u n x ∧ Below w.heap.size w w' := by
  obtain ⟨a, cap, hv, hnc, hcm, _⟩ := (id hp : pairsAt w v n x)
  have hnm : (n : Int) ≤ 1000 := by omega
  have HP : Hid (pairsAt w v n x) := (show pairsAt w v n x from hp)
  have HX : Hid (∀ i, i < n → (x i).1.length + (x i).2.length ≤ 1000000) := (show _ from hx)
  subst hv
  have hn0 : (0 : Int) ≤ (n : Int) := by omega
  clear hp hnc hcm hx
  go_enter Tryd.func11, Tryd.ntmps11
  go_wp2_with fail
  go_loopw [3, 4] (fun vv i wr => ∃ (q : Nat) (oa : Option Addr) (oc : Nat), q ≤ n ∧ vv = .slice oa q oc ∧ i = .int .i64 (q : Int) ∧ ownPairs wr w.heap.size (.slice oa q oc) q x ∧ Below w.heap.size w wr) (fun _ i _ => n - (intOf i).toNat)
  case atStart => exact ⟨0, none, 0, by omega, rfl, rfl, ownPairs.nil _ _ _, Below.refl _ _⟩
  case round =>
    obtain ⟨q, oa, oc, hqn, rfl, rfl, hos, hbr⟩ := hrel
    have q0 : (0 : Int) ≤ (q : Int) := by omega
    have HBR : Hid (Below w.heap.size w wr) := (show Below w.heap.size w wr from hbr)
    have HOS : Hid (ownPairs wr w.heap.size (.slice oa q oc) q x) := (show _ from hos)
    clear hos
    by_cases hlt : q < n
    · have q1 : (q : Int) < (n : Int) := by omega
      obtain ⟨g, o, cap', e, hg, _, _, hcell⟩ := HP.out.at (by omega)
      injection e with e1 e2 e3
      subst e1
      subst e3
      obtain ⟨ka, kcap, va, vcap, H⟩ := hcell q hlt
      have FC : Hid (∀ wz, Below w.heap.size w wz → wz.cell? ⟨g, o + q * 2, none⟩ = some (.slice ka (x q).1.length kcap) ∧ wz.cell? ⟨g, o + q * 2 + 1, none⟩ = some (.slice va (x q).2.length vcap)) := (show _ from fun wz hz => ⟨(H wz hz).1, (H wz hz).2.1⟩)
      have FA : Hid (∀ wz, Below w.heap.size w wz → anyBytes wz (.slice ka (x q).1.length kcap) (x q).1 ∧ anyBytes wz (.slice va (x q).2.length vcap) (x q).2) := (show _ from fun wz hz => ⟨(H wz hz).2.2.1, (H wz hz).2.2.2⟩)
      have HXQ : Hid ((x q).1.length + (x q).2.length ≤ 1000000) := (show _ from HX.out q hlt)
      clear hcell H hbr hg
      go_upto_region 5 with fail
      have BD : Below wr.heap.size wr wr.drew := (Below.refl _ _).drew
      have H : pq wr wr.drew none none := ⟨BD, (fun u l h => by cases h), (fun u l h => by cases h), fun a la b lb h => by cases h⟩
      refine wp_region_noPanic ?_
      refine wp_region_held_drew (S := fun w' => Below w.heap.size w w') (by kernel_rfl) (HBR.out.trans (BD.mono HBR.out.size)) (fun hHeld => ?_)
      clear BD
      generalize wr.drew = W at hHeld H ⊢
      refine take_op (i := 0) (v := ?va0) rfl (by kernel_rfl) (by kernel_rfl) (by kernel_rfl) (fun _ _ _ h => h) rfl hHeld ?ya0 ?ra0
      case ya0 => (intro wz hz; go_simp; first | done | with_reducible rfl)
      try simp only [Act.put, List.setIfInBounds_toArray, List.set_cons_zero, List.set_cons_succ]
      refine take_op (i := 2) (v := ?va2) rfl (by kernel_rfl) (by kernel_rfl) (by kernel_rfl) (fun _ _ _ h => h) rfl hHeld ?ya2 ?ra2
      case ya2 => (intro wz hz; go_simp; first | done | with_reducible rfl)
      try simp only [Act.put, List.setIfInBounds_toArray, List.set_cons_zero, List.set_cons_succ]
      refine take_op (i := 3) (v := ?va3) rfl (by kernel_rfl) (by kernel_rfl) (by kernel_rfl) (fun _ _ _ h => h) rfl hHeld ?ya3 ?ra3
      case ya3 => (intro wz hz; go_simp; first | done | with_reducible rfl)
      try simp only [Act.put, List.setIfInBounds_toArray, List.set_cons_zero, List.set_cons_succ]
      refine take_op (i := 4) (v := ?va4) rfl (by kernel_rfl) (by kernel_rfl) (by kernel_rfl) (fun _ _ _ h => h) rfl hHeld ?ya4 ?ra4
      case ya4 => (intro wz hz; go_simp; first | done | with_reducible rfl)
      try simp only [Act.put, List.setIfInBounds_toArray, List.set_cons_zero, List.set_cons_succ]
      refine take_op (i := 5) (v := ?va5) rfl (by kernel_rfl) (by kernel_rfl) (by kernel_rfl) (fun _ _ _ h => h) rfl hHeld ?ya5 ?ra5
      case ya5 => (intro wz hz; go_simp; first | done | with_reducible rfl)
      try simp only [Act.put, List.setIfInBounds_toArray, List.set_cons_zero, List.set_cons_succ]
      refine take_op (i := 6) (v := ?va6) rfl (by kernel_rfl) (by kernel_rfl) (by kernel_rfl) (fun _ _ _ h => h) rfl hHeld ?ya6 ?ra6
      case ya6 => (intro wz hz; have hcz := (FC.out wz hz).1; go_simp; first | done | with_reducible rfl)
      try simp only [Act.put, List.setIfInBounds_toArray, List.set_cons_zero, List.set_cons_succ]
      refine take_op (i := 9) (v := ?va9) rfl (by kernel_rfl) (by kernel_rfl) (by kernel_rfl) (fun _ _ _ h => h) rfl hHeld ?ya9 ?ra9
      case ya9 => (intro wz hz; go_simp; first | done | with_reducible rfl)
      try simp only [Act.put, List.setIfInBounds_toArray, List.set_cons_zero, List.set_cons_succ]
      refine take_op (i := 10) (v := ?va10) rfl (by kernel_rfl) (by kernel_rfl) (by kernel_rfl) (fun _ _ _ h => h) rfl hHeld ?ya10 ?ra10
      case ya10 => (intro wz hz; go_simp; first | done | with_reducible rfl)
      try simp only [Act.put, List.setIfInBounds_toArray, List.set_cons_zero, List.set_cons_succ]
      refine take_op (i := 11) (v := ?va11) rfl (by kernel_rfl) (by kernel_rfl) (by kernel_rfl) (fun _ _ _ h => h) rfl hHeld ?ya11 ?ra11
      case ya11 => (intro wz hz; go_simp; first | done | with_reducible rfl)
      try simp only [Act.put, List.setIfInBounds_toArray, List.set_cons_zero, List.set_cons_succ]
      refine take_op (i := 12) (v := ?va12) rfl (by kernel_rfl) (by kernel_rfl) (by kernel_rfl) (fun _ _ _ h => h) rfl hHeld ?ya12 ?ra12
      case ya12 => (intro wz hz; go_simp; first | done | with_reducible rfl)
      try simp only [Act.put, List.setIfInBounds_toArray, List.set_cons_zero, List.set_cons_succ]
      refine take_op (i := 13) (v := ?va13) rfl (by kernel_rfl) (by kernel_rfl) (by kernel_rfl) (fun _ _ _ h => h) rfl hHeld ?ya13 ?ra13
      case ya13 => (intro wz hz; have hcz := (FC.out wz hz).2; go_simp; first | done | with_reducible rfl)
      try simp only [Act.put, List.setIfInBounds_toArray, List.set_cons_zero, List.set_cons_succ]
      refine regionKK (fun G hG => ?_)
      refine actKK (p := fun a => G 8 _ a W) (fun a0 ha0 => ?_)
      refine listKK (p := fun l => G 8 l a0 W) (fun l0 hl0 => ?_)
      have HG : Hid _ := hG
      have HA0 : Hid _ := ha0
      have HL0 : Hid _ := hl0
      clear hG ha0 hl0 hHeld
      have ST22 : Hid (∀ (p1 : Nat), ∀ (ua : Option Addr) (uc : Nat), ∀ (p2 : Nat), ∀ (va2 : Option Addr) (vc2 : Nat), ∀ W : World, pq wr W (some ((.slice ua (x q).1.length uc), (x q).1)) (some ((.slice va2 (x q).2.length vc2), (x q).2)) → G 4 ((((l0.setIfInBounds 1 true).setIfInBounds 7 true).setIfInBounds 8 true).setIfInBounds 14 true) ((((a0.put (some 12) (.slice (some ⟨p1, 0, none⟩) 0 0)).put (some 18) (.slice ua (x q).1.length uc)).put (some 19) (.slice (some ⟨p2, 0, none⟩) 0 0)).put (some 25) (.slice va2 (x q).2.length vc2)) W) := (show ∀ (p1 : Nat), ∀ (ua : Option Addr) (uc : Nat), ∀ (p2 : Nat), ∀ (va2 : Option Addr) (vc2 : Nat), ∀ W : World, pq wr W (some ((.slice ua (x q).1.length uc), (x q).1)) (some ((.slice va2 (x q).2.length vc2), (x q).2)) → G 4 ((((l0.setIfInBounds 1 true).setIfInBounds 7 true).setIfInBounds 8 true).setIfInBounds 14 true) ((((a0.put (some 12) (.slice (some ⟨p1, 0, none⟩) 0 0)).put (some 18) (.slice ua (x q).1.length uc)).put (some 19) (.slice (some ⟨p2, 0, none⟩) 0 0)).put (some 25) (.slice va2 (x q).2.length vc2)) W from by
        intro p1 ua uc p2 va2 vc2 W H
        rw [HA0.out, HL0.out, HG.out]
        try simp only [Act.put, List.setIfInBounds_toArray, List.set_cons_zero, List.set_cons_succ]
        have hHeld : Below w.heap.size w W := HBR.out.trans (H.1.mono HBR.out.size)
        refine take_op (i := 15) (v := .agg (rowV 2 (prG (.slice ua (x q).1.length uc) (.slice va2 (x q).2.length vc2)))) rfl (by kernel_rfl) (by kernel_rfl) (by kernel_rfl) (fun _ _ _ h => h) rfl hHeld (fun wz hz => exec_build2 38 0 1 (.tmp 18) (.tmp 25) (.slice ua (x q).1.length uc) (.slice va2 (x q).2.length vc2) rfl rfl rfl (build_pr ua va2 (x q).1.length uc (x q).2.length vc2 wz)) ?_
        try simp only [Act.put, List.setIfInBounds_toArray, List.set_cons_zero, List.set_cons_succ]
        refine take_one (i := 16) rfl (by kernel_rfl) rfl (fun K hK => ?_)
        refine wp_of_run (exec_bslice1' 22 1 0 (.tmp 26) (.agg (rowV 2 (prG (.slice ua (x q).1.length uc) (.slice va2 (x q).2.length vc2)))) rfl rfl (build_pr1 (prG (.slice ua (x q).1.length uc) (.slice va2 (x q).2.length vc2)) W)) ?_
        obtain ⟨W2, hW2⟩ : ∃ W2, W2 = W.alloc (.cells (rowV 2 (prG (.slice ua (x q).1.length uc) (.slice va2 (x q).2.length vc2))) 38) := ⟨_, rfl⟩
        have b12 : Below W.heap.size W W2 := by rw [hW2]; exact (Below.refl _ _).alloc (Nat.le_refl _) _
        have rN : W2.rowIs W.heap.size 38 2 (prG (.slice ua (x q).1.length uc) (.slice va2 (x q).2.length vc2)) := by rw [hW2]; exact rowIs_box _ _ _ _
        rw [← hW2]
        clear hW2
        have bw2 : Below wr.heap.size wr W2 := H.1.trans (b12.mono H.1.size)
        have bww : Below w.heap.size w W2 := HBR.out.trans (bw2.mono HBR.out.size)
        refine hK.out _ _ bww (fun hHeld2 => ?_)
        clear hK K
        try simp only [Act.put, List.setIfInBounds_toArray, List.set_cons_zero, List.set_cons_succ]
        have HO2 : ownPairs W2 w.heap.size (.slice oa q oc) q x := HOS.out.below bw2 (Nat.le_refl _)
        have e1 : newBytes W2 wr.heap.size (.slice ua (x q).1.length uc) (x q).1 := (H.2.1 _ _ rfl).below b12 (Nat.le_refl _)
        have e2 : newBytes W2 wr.heap.size (.slice va2 (x q).2.length vc2) (x q).2 := (H.2.2.1 _ _ rfl).below b12 (Nat.le_refl _)
        have PF : pairFar W2 w.heap.size (.slice oa q oc) (prG (.slice ua (x q).1.length uc) (.slice va2 (x q).2.length vc2)) (x q) := fun z hz => by
          have hs := HBR.out.size
          have far : ∀ j, wr.heap.size ≤ j → j < W2.heap.size → z.heap[j]? = W2.heap[j]? := fun j h1 h2 => hz.2 j h2 (fun e => by have := (HOS.out.block j e).2; omega) (by omega)
          exact ⟨_, _, rfl, Or.inl (e1.apart fun j hj => far j (e1.block j hj).1 (e1.block j hj).2).is, Or.inl (e2.apart fun j hj => far j (e2.block j hj).1 (e2.block j hj).2).is⟩
        obtain ⟨v', V3, hr, ho3, hg3, hat3⟩ := pairs_append W2 w.heap.size (.slice oa q oc) q x HO2 W.heap.size (prG (.slice ua (x q).1.length uc) (.slice va2 (x q).2.length vc2)) rN PF (by omega) bww.size
        have b3 : Below w.heap.size w V3 := bww.trans (below_grown hg3 (fun k hk => (HO2.block k hk).1) bww.size)
        refine take_one (i := 17) rfl (by kernel_rfl) rfl (fun K hK => ?_)
        refine wp_append_run (.tmp 11) (.tmp 27) 22 rfl rfl rfl hr ?_
        refine hK.out _ _ b3 (fun hHeld3 => ?_)
        clear hK K
        try simp only [Act.put, List.setIfInBounds_toArray, List.set_cons_zero, List.set_cons_succ]
        have hsv : ∃ na nc, v' = .slice na (q + 1) nc := by
          obtain ⟨na, nc, e, _⟩ := ho3.is
          exact ⟨na, nc, e⟩
        obtain ⟨na, nc, rfl⟩ := hsv
        refine take_op (i := 18) (v := ?vz) rfl (by kernel_rfl) (by kernel_rfl) (by kernel_rfl) (fun _ _ _ h => h) rfl hHeld3 ?yz ?rz
        case yz => (intro wz hz; go_simp; first | done | with_reducible rfl)
        try simp only [Act.put, List.setIfInBounds_toArray, List.set_cons_zero, List.set_cons_succ]
        refine wpAnyH_done (by kernel_rfl) ?_ _
        refine NoPanic.normal ?_
        have FIN : Hid (ownPairs V3 w.heap.size (.slice na (q + 1) nc) (q + 1) x ∧ Below w.heap.size w V3) := (show _ ∧ _ from ⟨ho3, b3⟩)
        clear hHeld hHeld2 hHeld3 H b12 rN bw2 bww HO2 e1 e2 PF hr ho3 hg3 hat3 b3
        go_wp2
        exact ⟨⟨q + 1, na, nc, by omega, rfl, by go_num, FIN.out.1, FIN.out.2⟩, by simp [intOf]; omega⟩)
      have ST21 : Hid (∀ (p1 : Nat), ∀ (ua : Option Addr) (uc : Nat), ∀ (p2 : Nat), ∀ W : World, pq wr W (some ((.slice ua (x q).1.length uc), (x q).1)) (some ((.slice (some ⟨p2, 0, none⟩) 0 0), [])) → G 5 (((l0.setIfInBounds 1 true).setIfInBounds 7 true).setIfInBounds 8 true) (((a0.put (some 12) (.slice (some ⟨p1, 0, none⟩) 0 0)).put (some 18) (.slice ua (x q).1.length uc)).put (some 19) (.slice (some ⟨p2, 0, none⟩) 0 0)) W) := (show ∀ (p1 : Nat), ∀ (ua : Option Addr) (uc : Nat), ∀ (p2 : Nat), ∀ W : World, pq wr W (some ((.slice ua (x q).1.length uc), (x q).1)) (some ((.slice (some ⟨p2, 0, none⟩) 0 0), [])) → G 5 (((l0.setIfInBounds 1 true).setIfInBounds 7 true).setIfInBounds 8 true) (((a0.put (some 12) (.slice (some ⟨p1, 0, none⟩) 0 0)).put (some 18) (.slice ua (x q).1.length uc)).put (some 19) (.slice (some ⟨p2, 0, none⟩) 0 0)) W from by
        intro p1 ua uc p2 W H
        rw [HA0.out, HL0.out, HG.out]
        try simp only [Act.put, List.setIfInBounds_toArray, List.set_cons_zero, List.set_cons_succ]
        refine take_one (i := 14) rfl (by kernel_rfl) rfl (fun K hK => ?_)
        obtain ⟨u, W2, hr, H2⟩ := H.swap.fill (FA.out W (HBR.out.trans (H.1.mono HBR.out.size))).2 (by have := HXQ.out; omega)
        replace H2 := H2.swap
        obtain ⟨va2, vc2, rfl⟩ := (H2.2.2.1 _ _ rfl).slen
        refine wp_append_run (.tmp 19) (.tmp 24) 23 rfl rfl rfl hr ?_
        refine hK.out _ _ (HBR.out.trans (H2.1.mono HBR.out.size)) (fun hHeld => ?_)
        try simp only [Act.put, List.setIfInBounds_toArray, List.set_cons_zero, List.set_cons_succ]
        have T := ST22.out p1 ua uc p2 va2 vc2 W2 H2
        rw [HA0.out, HL0.out, HG.out] at T
        try simp only [Act.put, List.setIfInBounds_toArray, List.set_cons_zero, List.set_cons_succ] at T
        exact lcongK (by kernel_rfl) T)
      have ST20 : Hid (∀ (p1 : Nat), ∀ (ua : Option Addr) (uc : Nat), ∀ W : World, pq wr W (some ((.slice ua (x q).1.length uc), (x q).1)) none → G 6 ((l0.setIfInBounds 1 true).setIfInBounds 7 true) ((a0.put (some 12) (.slice (some ⟨p1, 0, none⟩) 0 0)).put (some 18) (.slice ua (x q).1.length uc)) W) := (show ∀ (p1 : Nat), ∀ (ua : Option Addr) (uc : Nat), ∀ W : World, pq wr W (some ((.slice ua (x q).1.length uc), (x q).1)) none → G 6 ((l0.setIfInBounds 1 true).setIfInBounds 7 true) ((a0.put (some 12) (.slice (some ⟨p1, 0, none⟩) 0 0)).put (some 18) (.slice ua (x q).1.length uc)) W from by
        intro p1 ua uc W H
        rw [HA0.out, HL0.out, HG.out]
        try simp only [Act.put, List.setIfInBounds_toArray, List.set_cons_zero, List.set_cons_succ]
        refine take_one (i := 8) rfl (by kernel_rfl) rfl (fun K hK => ?_)
        refine wp_of_run (exec_bslice0' 23 0 rfl (build_b0 W)) ?_
        have H2 := (H.swap.make).swap
        refine hK.out _ _ (HBR.out.trans (H2.1.mono HBR.out.size)) (fun hHeld => ?_)
        try simp only [Act.put, List.setIfInBounds_toArray, List.set_cons_zero, List.set_cons_succ]
        have T := ST21.out p1 ua uc W.heap.size (W.alloc (.cells #[] 5)) H2
        rw [HA0.out, HL0.out, HG.out] at T
        try simp only [Act.put, List.setIfInBounds_toArray, List.set_cons_zero, List.set_cons_succ] at T
        exact lcongK (by kernel_rfl) T)
      have ST11 : Hid (∀ (p1 : Nat), ∀ (p2 : Nat), ∀ W : World, pq wr W (some ((.slice (some ⟨p1, 0, none⟩) 0 0), [])) (some ((.slice (some ⟨p2, 0, none⟩) 0 0), [])) → G 6 ((l0.setIfInBounds 1 true).setIfInBounds 8 true) ((a0.put (some 12) (.slice (some ⟨p1, 0, none⟩) 0 0)).put (some 19) (.slice (some ⟨p2, 0, none⟩) 0 0)) W) := (show ∀ (p1 : Nat), ∀ (p2 : Nat), ∀ W : World, pq wr W (some ((.slice (some ⟨p1, 0, none⟩) 0 0), [])) (some ((.slice (some ⟨p2, 0, none⟩) 0 0), [])) → G 6 ((l0.setIfInBounds 1 true).setIfInBounds 8 true) ((a0.put (some 12) (.slice (some ⟨p1, 0, none⟩) 0 0)).put (some 19) (.slice (some ⟨p2, 0, none⟩) 0 0)) W from by
        intro p1 p2 W H
        rw [HA0.out, HL0.out, HG.out]
        try simp only [Act.put, List.setIfInBounds_toArray, List.set_cons_zero, List.set_cons_succ]
        refine take_one (i := 7) rfl (by kernel_rfl) rfl (fun K hK => ?_)
        obtain ⟨u, W2, hr, H2⟩ := H.fill (FA.out W (HBR.out.trans (H.1.mono HBR.out.size))).1 (by have := HXQ.out; omega)
        obtain ⟨ua, uc, rfl⟩ := (H2.2.1 _ _ rfl).slen
        refine wp_append_run (.tmp 12) (.tmp 17) 23 rfl rfl rfl hr ?_
        refine hK.out _ _ (HBR.out.trans (H2.1.mono HBR.out.size)) (fun hHeld => ?_)
        try simp only [Act.put, List.setIfInBounds_toArray, List.set_cons_zero, List.set_cons_succ]
        have T := ST21.out p1 ua uc p2 W2 H2
        rw [HA0.out, HL0.out, HG.out] at T
        try simp only [Act.put, List.setIfInBounds_toArray, List.set_cons_zero, List.set_cons_succ] at T
        exact lcongK (by kernel_rfl) T)
      have ST10 : Hid (∀ (p1 : Nat), ∀ W : World, pq wr W (some ((.slice (some ⟨p1, 0, none⟩) 0 0), [])) none → G 7 (l0.setIfInBounds 1 true) (a0.put (some 12) (.slice (some ⟨p1, 0, none⟩) 0 0)) W) := (show ∀ (p1 : Nat), ∀ W : World, pq wr W (some ((.slice (some ⟨p1, 0, none⟩) 0 0), [])) none → G 7 (l0.setIfInBounds 1 true) (a0.put (some 12) (.slice (some ⟨p1, 0, none⟩) 0 0)) W from by
        intro p1 W H
        rw [HA0.out, HL0.out, HG.out]
        try simp only [Act.put, List.setIfInBounds_toArray, List.set_cons_zero, List.set_cons_succ]
        refine take_pair (i := 7) (j := 8) rfl rfl (by kernel_rfl) rfl rfl (fun K hK => ?_) (fun K hK => ?_)
        · obtain ⟨u, W2, hr, H2⟩ := H.fill (FA.out W (HBR.out.trans (H.1.mono HBR.out.size))).1 (by have := HXQ.out; omega)
          obtain ⟨ua, uc, rfl⟩ := (H2.2.1 _ _ rfl).slen
          refine wp_append_run (.tmp 12) (.tmp 17) 23 rfl rfl rfl hr ?_
          refine hK.out _ _ (HBR.out.trans (H2.1.mono HBR.out.size)) (fun hHeld => ?_)
          try simp only [Act.put, List.setIfInBounds_toArray, List.set_cons_zero, List.set_cons_succ]
          have T := ST20.out p1 ua uc W2 H2
          rw [HA0.out, HL0.out, HG.out] at T
          try simp only [Act.put, List.setIfInBounds_toArray, List.set_cons_zero, List.set_cons_succ] at T
          exact lcongK (by kernel_rfl) T
        · refine wp_of_run (exec_bslice0' 23 0 rfl (build_b0 W)) ?_
          have H2 := (H.swap.make).swap
          refine hK.out _ _ (HBR.out.trans (H2.1.mono HBR.out.size)) (fun hHeld => ?_)
          try simp only [Act.put, List.setIfInBounds_toArray, List.set_cons_zero, List.set_cons_succ]
          have T := ST11.out p1 W.heap.size (W.alloc (.cells #[] 5)) H2
          rw [HA0.out, HL0.out, HG.out] at T
          try simp only [Act.put, List.setIfInBounds_toArray, List.set_cons_zero, List.set_cons_succ] at T
          exact lcongK (by kernel_rfl) T)
      have ST01 : Hid (∀ (p2 : Nat), ∀ W : World, pq wr W none (some ((.slice (some ⟨p2, 0, none⟩) 0 0), [])) → G 7 (l0.setIfInBounds 8 true) (a0.put (some 19) (.slice (some ⟨p2, 0, none⟩) 0 0)) W) := (show ∀ (p2 : Nat), ∀ W : World, pq wr W none (some ((.slice (some ⟨p2, 0, none⟩) 0 0), [])) → G 7 (l0.setIfInBounds 8 true) (a0.put (some 19) (.slice (some ⟨p2, 0, none⟩) 0 0)) W from by
        intro p2 W H
        rw [HA0.out, HL0.out, HG.out]
        try simp only [Act.put, List.setIfInBounds_toArray, List.set_cons_zero, List.set_cons_succ]
        refine take_one (i := 1) rfl (by kernel_rfl) rfl (fun K hK => ?_)
        refine wp_of_run (exec_bslice0' 23 0 rfl (build_b0 W)) ?_
        have H2 := H.make
        refine hK.out _ _ (HBR.out.trans (H2.1.mono HBR.out.size)) (fun hHeld => ?_)
        try simp only [Act.put, List.setIfInBounds_toArray, List.set_cons_zero, List.set_cons_succ]
        have T := ST11.out W.heap.size p2 (W.alloc (.cells #[] 5)) H2
        rw [HA0.out, HL0.out, HG.out] at T
        try simp only [Act.put, List.setIfInBounds_toArray, List.set_cons_zero, List.set_cons_succ] at T
        exact lcongK (by kernel_rfl) T)
      have ST00 : Hid (∀ W : World, pq wr W none none → G 8 l0 a0 W) := (show ∀ W : World, pq wr W none none → G 8 l0 a0 W from by
        intro W H
        rw [HA0.out, HL0.out, HG.out]
        try simp only [Act.put, List.setIfInBounds_toArray, List.set_cons_zero, List.set_cons_succ]
        refine take_pair (i := 1) (j := 8) rfl rfl (by kernel_rfl) rfl rfl (fun K hK => ?_) (fun K hK => ?_)
        · refine wp_of_run (exec_bslice0' 23 0 rfl (build_b0 W)) ?_
          have H2 := H.make
          refine hK.out _ _ (HBR.out.trans (H2.1.mono HBR.out.size)) (fun hHeld => ?_)
          try simp only [Act.put, List.setIfInBounds_toArray, List.set_cons_zero, List.set_cons_succ]
          have T := ST10.out W.heap.size (W.alloc (.cells #[] 5)) H2
          rw [HA0.out, HL0.out, HG.out] at T
          try simp only [Act.put, List.setIfInBounds_toArray, List.set_cons_zero, List.set_cons_succ] at T
          exact lcongK (by kernel_rfl) T
        · refine wp_of_run (exec_bslice0' 23 0 rfl (build_b0 W)) ?_
          have H2 := (H.swap.make).swap
          refine hK.out _ _ (HBR.out.trans (H2.1.mono HBR.out.size)) (fun hHeld => ?_)
          try simp only [Act.put, List.setIfInBounds_toArray, List.set_cons_zero, List.set_cons_succ]
          have T := ST01.out W.heap.size (W.alloc (.cells #[] 5)) H2
          rw [HA0.out, HL0.out, HG.out] at T
          try simp only [Act.put, List.setIfInBounds_toArray, List.set_cons_zero, List.set_cons_succ] at T
          exact lcongK (by kernel_rfl) T)
      exact ST00.out W H
    · obtain rfl : q = n := by omega
      have q1 : ¬ (q : Int) < (q : Int) := by omega
      clear hbr
      go_wp2
      go_ret
      exact ⟨_, rfl, HOS.out, HBR.out⟩
end Go.Proofs.YtkgegihkhdgdoaaDoor

/- The document's copy of what is shown. -/
namespace Go.Proofs.YtkgegihkhdgdoaaDoor
set_option linter.unusedSimpArgs false
set_option linter.unusedVariables false
open Go.RowKit Go.Deep

theorem ownPairs.one {w : World} {B : Nat} {v : Value} {x : Nat → Pr} (h : ownPairs w B v 1 x) : ∃ g c ka kcap va vcap, v = .slice (some ⟨g, 0, none⟩) 1 c ∧ B ≤ g ∧ g < w.heap.size ∧ (∀ j, j < 2 → w.cell? ⟨g, 0 + j, none⟩ = some (prG (.slice ka (x 0).1.length kcap) (.slice va (x 0).2.length vcap) j)) ∧ pairFar w B v (prG (.slice ka (x 0).1.length kcap) (.slice va (x 0).2.length vcap)) (x 0) := by
  obtain ⟨U, hU, ho, hy⟩ := id h
  obtain ⟨u, hu, hf⟩ := hy 0 (by omega)
  obtain ⟨kc, vc, rfl, h1, h2⟩ := hf.now
  obtain ⟨ka, kcap, rfl, _⟩ := h1.slice
  obtain ⟨va, vcap, rfl, _⟩ := h2.slice
  obtain ⟨a, c, rfl, hc, hm, hg⟩ := ownsRow_slice ho
  obtain ⟨g, rfl, hlt, _, hcell⟩ := hg (by omega)
  refine ⟨g, c, ka, kcap, va, vcap, rfl, (h.block g rfl).1, hlt, fun j hj => ?_, hf⟩
  have := hcell _ _ (c2s_get U 0 j _ hu hj)
  rw [Nat.zero_mul, Nat.zero_add] at this
  rw [Nat.zero_add]; exact this
/-- the loop of Copy: box b8 holds the copy so far. -/
def cpL (w3 : World) (b8 : Nat) (cnt : Int) (q : Nat) (y : Nat → Sp) (wr : World) : Prop := But w3.heap.size b8 w3 wr ∧ ∃ oa oc, wr.rowIs b8 29 2 (seG cnt (.slice oa q oc)) ∧ ownSpots wr w3.heap.size b8 (.slice oa q oc) q y
end Go.Proofs.YtkgegihkhdgdoaaDoor

/- Bytes as strings, in their order. Plain mathematics. -/
namespace Go.Proofs.YtkgegihkhdgdoaaDoor
set_option linter.unusedVariables false

theorem u8_lt (a b : Int) (ha : 0 ≤ a ∧ a ≤ 255) (hb : 0 ≤ b ∧ b ≤ 255) : (UInt8.ofNat a.toNat < UInt8.ofNat b.toNat) ↔ a < b := by
  rw [UInt8.lt_iff_toNat_lt, UInt8.toNat_ofNat', UInt8.toNat_ofNat']; omega
theorem u8_eq (a b : Int) (ha : 0 ≤ a ∧ a ≤ 255) (hb : 0 ≤ b ∧ b ≤ 255) : (UInt8.ofNat a.toNat = UInt8.ofNat b.toNat) ↔ a = b := by
  rw [← UInt8.toNat_inj, UInt8.toNat_ofNat', UInt8.toNat_ofNat']; omega
theorem bytesLess_cmp : ∀ (x y : List Int), (∀ b ∈ x, 0 ≤ b ∧ b ≤ 255) → (∀ b ∈ y, 0 ≤ b ∧ b ≤ 255) → Op.bytesLess (x.map fun n => UInt8.ofNat n.toNat) (y.map fun n => UInt8.ofNat n.toNat) = decide (cmpI x y < 0)
  | [], [], _, _ => rfl
  | [], _ :: _, _, _ => rfl
  | _ :: _, [], _, _ => rfl
  | a :: x, b :: y, hx, hy => by
    have ha := hx a (by simp)
    have hb := hy b (by simp)
    rw [List.map_cons, List.map_cons, Op.bytesLess, cmpI, bytesLess_cmp x y (fun c hc => hx c (by simp [hc])) (fun c hc => hy c (by simp [hc]))]
    by_cases h : a < b
    · rw [if_pos h, decide_eq_true ((u8_lt a b ha hb).2 h)]; rfl
    · rw [if_neg h, decide_eq_false (fun e => h ((u8_lt a b ha hb).1 e)), Bool.false_or]
      by_cases h' : b < a
      · have e : (UInt8.ofNat a.toNat == UInt8.ofNat b.toNat) = false := by
          rw [beq_eq_false_iff_ne]; intro e; have := (u8_eq a b ha hb).1 e; omega
        rw [if_pos h', e]; rfl
      · have e : (UInt8.ofNat a.toNat == UInt8.ofNat b.toNat) = true := by
          rw [beq_iff_eq]; exact (u8_eq a b ha hb).2 (by omega)
        rw [if_neg h', e, Bool.true_and]
theorem mem_byte {l : List Int} (h : ∀ i, 0 ≤ l.getD i 0 ∧ l.getD i 0 ≤ 255) : ∀ b ∈ l, 0 ≤ b ∧ b ≤ 255 := fun b hb => by
  obtain ⟨i, hi, rfl⟩ := List.getElem_of_mem hb
  have := h i
  rw [List.getD_eq_getElem?_getD, List.getElem?_eq_getElem hi] at this
  exact this
theorem less_cmp {w w' : World} {v u : Value} {l k : List Int} (hv : anyBytes w v l) (hu : anyBytes w' u k) : Op.bytesLess (strOf l).toList (strOf k).toList = decide (cmpI l k < 0) := by
  have e : ∀ l : List Int, (strOf l).toList = l.map fun n => UInt8.ofNat n.toNat := fun l => by rw [Go.Lib.toList_data]; simp [strOf]
  rw [e, e, bytesLess_cmp l k (mem_byte hv.byte) (mem_byte hu.byte)]
theorem beq_cmp {w w' : World} {v u : Value} {l k : List Int} (hv : anyBytes w v l) (hu : anyBytes w' u k) : ((strOf l).toList == (strOf k).toList) = decide (cmpI l k = 0) := by
  rw [str_beq]
  refine decide_eq_decide.mpr ⟨fun h => ?_, fun h => by rw [cmpI_zero _ _ h]⟩
  rw [strOf_inj hv.byte hu.byte h]; exact cmpI_self _
end Go.Proofs.YtkgegihkhdgdoaaDoor

/- The document's May and Find; the laws' alike. -/
namespace Go.Proofs.YtkgegihkhdgdoaaDoor
set_option linter.unusedSimpArgs false
set_option linter.unusedVariables false
open Go.RowKit Go.Deep

theorem conv_drew {w W : World} (hb : Below w.heap.size w W) {v : Value} {l : List Int} (h : ∀ wz, Below w.heap.size w wz → anyBytes wz v l) : ∀ n, (convert 23 9 v).run Tryd.prog (W.drewN n) = .ok (.string (strOf l)) (W.drewN n) := fun n => convK (W.drewN n) _ _ (h _ (hb.drewN n))
theorem beq_not {a b : ByteArray} (h : (a.toList == b.toList) = false) : ¬ a.toList = b.toList := fun e => by rw [beq_eq_false_iff_ne] at h; exact h e
set_option maxHeartbeats 4000000 in
set_option maxRecDepth 100000 in
theorem rmay_any (n : Nat) (v : Value) (x : Nat → Pr) (w : World) (hp : pairsAt w v n x) :
    Calls Tryd.prog 14 #[v] w fun e w' => e = .returned (.bool (mayB x n)) ∧ Below w.heap.size w w' := by
  have hnm : (n : Int) ≤ 9223372036854775807 := by
    obtain ⟨_, cap, _, h2, h3, _⟩ := hp; unfold maxLen at h3; omega
  have HP : Hid (pairsAt w v n x) := (show pairsAt w v n x from hp)
  have hsl : ∃ a cap, v = .slice a n cap := by
    obtain ⟨a, cap, e, _⟩ := hp; exact ⟨a, cap, e⟩
  obtain ⟨va, vc, rfl⟩ := hsl
  clear hp
  have hn0 : (0 : Int) ≤ (n : Int) := by omega
  go_enter Tryd.func14, Tryd.ntmps14
  go_wp2_with fail
  go_loopw [3] (fun i wr => ∃ j : Nat, (j + 1 ≤ n ∨ j = 0) ∧ i = .int .i64 ((j : Int) + 1) ∧ (∀ i, i + 1 < j + 1 → cmpI (x i).1 (x (i + 1)).1 < 0) ∧ Below w.heap.size w wr) (fun i _ => n - (intOf i).toNat)
  case atStart => exact ⟨0, Or.inr rfl, rfl, fun i hi => by omega, Below.refl _ _⟩
  case round =>
    obtain ⟨j, hj, rfl, hall, hb⟩ := hrel
    have p0 : (0 : Int) ≤ (j : Int) := by omega
    have HB : Hid (Below w.heap.size w wr) := (show Below w.heap.size w wr from hb)
    by_cases hlt : j + 1 < n
    · have p1 : (j : Int) + 1 < (n : Int) := by omega
      obtain ⟨g, o, cap, e, hg, _, _, hc⟩ := HP.out.at (by omega)
      injection e with ea _ ec
      subst ea
      subst ec
      obtain ⟨ka, kcap, va1, vcap1, H1⟩ := hc j (by omega)
      obtain ⟨kb, kbcap, va2, vcap2, H2⟩ := hc (j + 1) hlt
      have hjn : j < n := by omega
      have p2 : (j : Int) < (n : Int) := by omega
      have hj0 : (0 : Int) ≤ (j : Int) + 1 := by omega
      have hw1 : IntKind.wrap .i64 (j : Int) = (j : Int) := IntWalk.i64_in _ ⟨by omega, by omega⟩
      have hw2 : IntKind.wrap .i64 ((j : Int) + 1) = (j : Int) + 1 := IntWalk.i64_in _ ⟨by omega, by omega⟩
      have HALL : Hid (∀ i, i + 1 < j + 1 → cmpI (x i).1 (x (i + 1)).1 < 0) := (show _ from hall)
      have s0 := (H1 wr hb).1
      have r0 := (H2 wr hb).1
      have v1 := conv_drew hb (fun wz hz => (H1 wz hz).2.2.1)
      have v2 := conv_drew hb (fun wz hz => (H2 wz hz).2.2.1)
      have L1 := less_cmp (H1 wr hb).2.2.1 (H2 wr hb).2.2.1
      clear H1 H2 hc hall hg
      generalize hA : strOf (x j).1 = A at v1 L1
      generalize hB : strOf (x (j + 1)).1 = B at v2 L1
      clear hA hB hb
      by_cases h0 : cmpI (x j).1 (x (j + 1)).1 < 0
      · rw [decide_eq_true h0] at L1
        have hG : ∀ ty, (binOp .geq ty (.string A) (.string B)) = pure (.bool false) := fun ty => by simp [binOp, Op.stringOp, L1]
        have NX : Hid (∀ i, i + 1 < j + 1 + 1 → cmpI (x i).1 (x (i + 1)).1 < 0) := (show ∀ i, i + 1 < j + 1 + 1 → cmpI (x i).1 (x (i + 1)).1 < 0 from fun i hi => by
          by_cases e : i = j
          · rw [e]; exact h0
          · exact HALL.out i (by omega))
        clear h0
        go_upto_region 4 with fail
        go_quiet (fail)
        go_wp2
        go_light
        exact ⟨⟨j + 1, Or.inl (by omega), by go_num, NX.out, HB.out.drewN _⟩, by simp [intOf]; omega⟩
      · rw [decide_eq_false h0] at L1
        have hG : ∀ ty, (binOp .geq ty (.string A) (.string B)) = pure (.bool true) := fun ty => by simp [binOp, Op.stringOp, L1]
        have EV : Hid (mayB x n = false) := (show mayB x n = false from Bool.eq_false_iff.2 fun e => h0 ((mayB_is x n).1 e j hlt))
        clear h0
        go_upto_region 4 with fail
        go_quiet (fail)
        go_wp2
        go_ret
        exact ⟨by rw [EV.out]; rfl, HB.out.drewN _⟩
    · have p1 : ¬ (j : Int) + 1 < (n : Int) := by omega
      have EV : Hid (mayB x n = true) := (show mayB x n = true from (mayB_is x n).2 fun i hi => hall i (by omega))
      clear hall hb
      go_wp2
      go_ret
      exact ⟨by rw [EV.out]; rfl, HB.out⟩
def findP (n : Nat) (x : Nat → Pr) (key : List Int) (e : Ending) : Prop :=
  (∃ i, i < n ∧ (x i).1 = key ∧ (∀ j, j < i → ¬ (x j).1 = key) ∧ e = .returned (.int .i64 (i : Int))) ∨ ((∀ j, j < n → ¬ (x j).1 = key) ∧ e = .returned (.int .i64 (-1)))
set_option maxHeartbeats 4000000 in
set_option maxRecDepth 100000 in
theorem rfind_any (n : Nat) (v tv : Value) (x : Nat → Pr) (key : List Int) (w : World) (hp : pairsAt w v n x) (hk : anyBytes w tv key) :
    Calls Tryd.prog 45 #[v, tv] w fun e w' => findP n x key e ∧ Below w.heap.size w w' := by
  obtain ⟨a, cap, hv, hnc, hcm, _⟩ := (id hp : pairsAt w v n x)
  have hnm : (n : Int) ≤ 9223372036854775807 := by unfold maxLen at hcm; omega
  have HP : Hid (pairsAt w v n x) := (show pairsAt w v n x from hp)
  have HK : Hid (anyBytes w tv key) := (show anyBytes w tv key from hk)
  obtain ⟨ta, tcap, rfl, _⟩ := hk.slice
  subst hv
  have hn0 : (0 : Int) ≤ (n : Int) := by omega
  clear hp hk hnc hcm
  go_enter Tryd.func45, Tryd.ntmps45
  go_wp2_with fail
  go_loopw [5] (fun i wr => ∃ k : Nat, k ≤ n ∧ i = .int .i64 (k : Int) ∧ (∀ j, j < k → ¬ (x j).1 = key) ∧ Below w.heap.size w wr) (fun i _ => n - (intOf i).toNat)
  case atStart => exact ⟨0, by omega, rfl, fun j hj => by omega, Below.refl _ _⟩
  case round =>
    obtain ⟨k, hkn, rfl, hne, hb⟩ := hrel
    have p0 : (0 : Int) ≤ (k : Int) := by omega
    have HNE : Hid (∀ j, j < k → ¬ (x j).1 = key) := (show ∀ j, j < k → ¬ (x j).1 = key from hne)
    have HB : Hid (Below w.heap.size w wr) := (show Below w.heap.size w wr from hb)
    clear hne
    by_cases hlt : k < n
    · have p1 : (k : Int) < (n : Int) := by omega
      obtain ⟨g, o, cap', e, hg, _, _, hcell⟩ := HP.out.at (by omega)
      injection e with e1 e2 e3
      subst e1
      subst e3
      obtain ⟨ka, kcap, va, vcap, H⟩ := hcell k hlt
      have s0 := (H wr hb).1
      have v1 := conv_drew hb (fun wz hz => (H wz hz).2.2.1)
      have v2 := conv_drew hb (fun wz hz => HK.out.below hz (Nat.le_refl _))
      have E1 : ((strOf (x k).1).toList == (strOf key).toList) = decide ((x k).1 = key) := by
        rw [str_beq]; exact decide_eq_decide.mpr (strOf_eq (H wr hb).2.2.1 HK.out)
      clear H hcell hg
      generalize hA : strOf (x k).1 = A at v1 E1
      generalize hB : strOf key = B at v2 E1
      clear hA hB hb
      by_cases h0 : (x k).1 = key
      · rw [decide_eq_true h0] at E1
        have hG : ∀ ty, (binOp .eql ty (.string A) (.string B)) = pure (.bool true) := fun ty => by simp [binOp, Op.stringOp, E1]
        have FI : Hid (findP n x key (.returned (.int .i64 (k : Int)))) := (show _ from Or.inl ⟨k, hlt, h0, HNE.out, rfl⟩)
        clear h0
        go_upto_region 4 with fail
        go_quiet (fail)
        go_wp2
        go_ret
        exact ⟨FI.out, HB.out.drewN _⟩
      · rw [decide_eq_false h0] at E1
        have E2 := beq_not E1
        have hG : ∀ ty, (binOp .eql ty (.string A) (.string B)) = pure (.bool false) := fun ty => by simp [binOp, Op.stringOp, E1]
        have NX : Hid (∀ j, j < k + 1 → ¬ (x j).1 = key) := (show ∀ j, j < k + 1 → ¬ (x j).1 = key from fun j hj => by
          by_cases e : j = k
          · rw [e]; exact h0
          · exact HNE.out j (by omega))
        clear h0
        go_upto_region 4 with fail
        go_quiet (fail)
        go_wp2
        go_light
        exact ⟨⟨k + 1, by omega, by go_num, NX.out, HB.out.drewN _⟩, by simp [intOf]; omega⟩
    · obtain rfl : k = n := by omega
      have p1 : ¬ (k : Int) < (k : Int) := by omega
      have FI : Hid (findP k x key (.returned (.int .i64 (-1)))) := (show _ from Or.inr ⟨HNE.out, rfl⟩)
      clear hb
      go_wp2
      go_ret
      exact ⟨FI.out, HB.out⟩
end Go.Proofs.YtkgegihkhdgdoaaDoor

/- How long a path is. -/
namespace Go.Proofs.YtkgegihkhdgdoaaDoor
open Go.RowKit Go.Deep

theorem wayI_there {n p : Nat} (h : p < n) : wayI (n : Int) (p : Int) = wayL n p := by
  unfold wayI
  rw [if_pos (by simp [thereB]; omega), Int.toNat_natCast, Int.toNat_natCast]
theorem pathI_len {L : List (List Int)} {p : Nat} (h : p < L.length) (hL : L.length ≤ 1000) : (pathI L (p : Int)).length ≤ 63 := by
  rw [pathI_there h, pathS_len, ← wayI_there h]
  exact wayI_len _ _ (by omega)
end Go.Proofs.YtkgegihkhdgdoaaDoor

/- The document's There. -/
namespace Go.Proofs.YtkgegihkhdgdoaaDoor
set_option linter.unusedSimpArgs false
set_option linter.unusedVariables false
open Go.RowKit Go.Deep

theorem rthere_any (n at_ : Int) (w : World) : Calls Tryd.prog 76 #[.int .i64 n, .int .i64 at_] w fun e w' => e = .returned (.bool (thereB n at_)) ∧ w' = w := by
  by_cases h0 : 0 ≤ at_
  · have h0' : -1 < at_ := by omega
    by_cases h1 : at_ < n
    · have E : Hid (thereB n at_ = true) := (show thereB n at_ = true from by simp [thereB, h0, h1])
      go_enter Tryd.func76, Tryd.ntmps76
      go_wp2
      go_ret
      exact ⟨by rw [E.out]; rfl, rfl⟩
    · have E : Hid (thereB n at_ = false) := (show thereB n at_ = false from by simp [thereB, h1])
      go_enter Tryd.func76, Tryd.ntmps76
      go_wp2
      go_ret
      exact ⟨by rw [E.out]; rfl, rfl⟩
  · have h0' : ¬ -1 < at_ := by omega
    have E : Hid (thereB n at_ = false) := (show thereB n at_ = false from by simp [thereB, h0])
    go_enter Tryd.func76, Tryd.ntmps76
    go_wp2
    go_ret
    exact ⟨by rw [E.out]; rfl, rfl⟩
end Go.Proofs.YtkgegihkhdgdoaaDoor
