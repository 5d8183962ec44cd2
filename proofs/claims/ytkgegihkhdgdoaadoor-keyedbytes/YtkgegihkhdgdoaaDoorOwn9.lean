import Derived.Test.YtkgegihkhdgdoaaDoorOwn3
import Derived.Test.YtkgegihkhdgdoaaDoorOwn4
import Derived.Test.YtkgegihkhdgdoaaDoorOwn5
import Derived.Test.YtkgegihkhdgdoaaDoorOwn7
set_option linter.unusedVariables false
set_option linter.unusedSimpArgs false
/- keyed.Show, without a book. -/
namespace Go.Proofs.YtkgegihkhdgdoaaDoor
set_option linter.unusedSimpArgs false
set_option linter.unusedVariables false
open Go.RowKit Go.Deep

theorem newBytes.notrow {w : World} {B b n : Nat} {v : Value} {l : List Int} {t : TypeId} {f : Nat → Value} (h : newBytes w B v l) (hr : w.rowIs b t n f) (ht : t ≠ 5) : ∀ k, v.ownBlock = some k → k ≠ b := by
  obtain ⟨⟨_, h | ⟨g, cap, cur, rfl, hB, hbk, _⟩⟩, _⟩ := h
  · intro k hk; rw [h.1] at hk; cases hk
  · intro k hk e
    have : g = k := by simpa [Value.ownBlock] using hk
    subst this; subst e
    rw [rowIs_block hr] at hbk
    injection hbk with e1
    injection e1 with _ e2
    exact ht e2
theorem exec_build3' {P : Program} {o : Oper} {ev : Operand → Value} {w w' : World} {v : Value} (t : TypeId) (i j k : Nat) (x y z : Operand) (a b c : Value) (ho : o.op = .build t #[(i, x), (j, y), (k, z)]) (hx : ev x = a) (hy : ev y = b) (hz : ev z = c)
    (hr : (Instr.build t #[(i, a), (j, b), (k, c)]).run P w = .ok v w') : (execOp ev o).run P w = .ok (.value v) w' := by
  unfold execOp
  simp only [ho, List.map_toArray, List.map_cons, List.map_nil, hx, hy, hz, Sem.run_bind, hr, Result.andThen_ok, Sem.run_pure]
def frNone : Nat → Prop := fun _ => False
theorem frNone_below {w w' : World} (h : Fr frNone w w') : Below w.heap.size w w' := h.below (fun _ h => h.elim) (Nat.le_refl _)
theorem bkNone (w : World) (N : List Nt) (c : Int) : bkAt (.pointer none) w frNone N c := Or.inl ⟨rfl, fun _ h => h.elim⟩
/-- the loop of Show: box b8 holds what is shown so far. -/
def shL (w6 : World) (b8 : Nat) (n k : Nat) (y : Nat → Sp) (wr : World) : Prop := But w6.heap.size b8 w6 wr ∧ ∃ sv, wr.rowIs b8 29 2 (seG n sv) ∧ ownSpots wr w6.heap.size b8 sv k y
set_option maxHeartbeats 8000000 in
set_option maxRecDepth 100000 in
theorem show_nil (n : Nat) (v tv : Value) (x : Nat → Pr) (key : List Int) (w : World) (hp : pairsAt w v n x) (hkey : anyBytes w tv key) (ht : tabIs w) (hn : n ≤ 1000) (hx : ∀ i, i < n → (x i).1.length + (x i).2.length ≤ 1000000) :
    Calls Tryd.prog 12 #[.pointer none, v, tv] w fun e w' => showPost n x key w e w' := by
  have hzse := zero_se
  have hb0' := build_se0
  have hb1' := build_se1
  obtain ⟨a, cap, hv, hnc, hcm, _⟩ := (id hp : pairsAt w v n x)
  obtain ⟨w1, hw1⟩ : ∃ w1, w1 = w.alloc (.cells (rowV 2 (seG 0 (.slice none 0 0))) 29) := ⟨_, rfl⟩
  have b1 : Below w.heap.size w w1 := by rw [hw1]; exact (Below.refl _ _).alloc (Nat.le_refl _) _
  have z1 : w1.heap.size = w.heap.size + 1 := by rw [hw1]; simp
  have r1 : w1.rowIs w.heap.size 29 2 (seG 0 (.slice none 0 0)) := by rw [hw1]; exact rowIs_box _ _ _ _
  have XM := may_any n v x w1 (hp.below b1 (Nat.le_refl _))
  have HP : Hid (∀ wz, Below w.heap.size w wz → pairsAt wz v n x ∧ anyBytes wz tv key ∧ tabIs wz) := (show _ from fun wz hz => ⟨hp.below hz (Nat.le_refl _), hkey.below hz (Nat.le_refl _), ht.below hz ht.1⟩)
  have HQ : Hid (n ≤ 1000 ∧ (∀ i, i < n → (x i).1.length + (x i).2.length ≤ 1000000) ∧ Below w.heap.size w w1 ∧ w1.heap.size = w.heap.size + 1 ∧ w1.rowIs w.heap.size 29 2 (seG 0 (.slice none 0 0)) ∧ 1 < w.heap.size) := (show _ from ⟨hn, hx, b1, z1, r1, ht.1⟩)
  have hn0 : (0 : Int) ≤ (n : Int) := by omega
  have hn1 : (n : Int) ≤ 1000 := by omega
  obtain ⟨ta, tcap, rfl, _⟩ := hkey.slice
  subst hv
  clear hp hkey ht hn hx b1 z1 r1 hnc hcm
  go_enter Tryd.func12, Tryd.ntmps12
  go_upto_region 1 with fail
  rw [← hw1]
  clear hw1
  go_wp2_with fail
  refine XM.mono ?_
  rintro e w2 ⟨rfl, hb2⟩
  clear XM
  obtain ⟨hn, hx, b1, z1, r1, h00⟩ := HQ.out
  have r2 : w2.rowIs w.heap.size 29 2 (seG 0 (.slice none 0 0)) := hb2.row r1 (by omega)
  have b02 : Below w.heap.size w w2 := b1.trans (hb2.mono (by omega))
  have s2 := hb2.size
  cases hmb : mayB x n with
  | false =>
    have MB : Hid (mayB x n = false) := (show mayB x n = false from hmb)
    have B02 : Hid (Below w.heap.size w w2 ∧ w.heap.size < w2.heap.size) := (show _ ∧ _ from ⟨b02, by omega⟩)
    clear hmb HP HQ hb2 b02 b1 z1 r1 h00 s2 hx
    go_wp2_with (first | (refine wpList_store_row rfl 29 _ _ rfl rfl w.heap.size 0 2 (seG 0 (.slice none 0 0)) rfl rfl hiSe (seG_one _ _ _ _) _ _ _ r2 (by omega) ?_; intro w6 r7 hz6 hb6))
    exact bodyPost_ret (results_cell_seg rfl _ _ w.heap.size 29 2 (seG 0 (.slice none 0 0)) _ rfl Tryd.underlying29 rfl hiSe (r7.congr fun i hi => by rw [if_pos (by omega), Nat.sub_zero])) rfl (by
      exact ⟨Or.inl ⟨MB.out, rfl⟩, B02.out.1.trans (hb6.mono (by have := B02.out.2; omega) |>.below (by omega))⟩)
  | true =>
    have hmp := (mayB_is x n).1 hmb
    have MB : Hid (mayB x n = true) := (show mayB x n = true from hmb)
    have XLV := leaves_k frNone w2.heap.size (.pointer none) [] 0 n (.slice a n cap) x w2 (bkNone _ _ _) (fun _ h => h.elim) (Nat.le_refl _) (fun wz hz => ⟨(HP.out wz (b02.trans (hz.mono (by omega)))).1, (HP.out wz (b02.trans (hz.mono (by omega)))).2.2⟩) (by omega) hx (fun h => h.elim) (by simp) (by omega)
    have B02 : Hid (Below w.heap.size w w2 ∧ w.heap.size < w2.heap.size ∧ w2.rowIs w.heap.size 29 2 (seG 0 (.slice none 0 0))) := (show _ ∧ _ ∧ _ from ⟨b02, by omega, r2⟩)
    have HMP : Hid (mayP x n) := (show mayP x n from hmp)
    clear hmb hmp hb2 b02 b1 z1 r1 r2 s2 hx
    go_wp2_with fail
    refine XLV.mono ?_
    rintro e w3 ⟨s, rfl, hns, _, _, _, _, f23⟩
    have b23 := frNone_below f23
    obtain ⟨b02, s2, r2⟩ := B02.out
    have s3 := b23.size
    obtain ⟨w4, hw4⟩ : ∃ w4, w4 = w3.alloc (.cells (rowV 2 (seG 0 (.slice none 0 0))) 29) := ⟨_, rfl⟩
    have r4 : w4.rowIs w3.heap.size 29 2 (seG 0 (.slice none 0 0)) := by rw [hw4]; exact rowIs_box _ _ _ _
    have b4 : Below w3.heap.size w3 w4 := by rw [hw4]; exact (Below.refl _ _).alloc (Nat.le_refl _) _
    have z4 : w4.heap.size = w3.heap.size + 1 := by rw [hw4]; simp
    have hsl : ∃ sa sc, s = .slice sa (leavesTo x n).length sc := by
      obtain ⟨_, sa, sc, e, _⟩ := hns.is
      exact ⟨sa, sc, e⟩
    have hll := leavesTo_len x n
    rw [hll] at hsl
    obtain ⟨sa, sc, rfl⟩ := hsl
    clear XLV f23
    go_upto_region 5 with (first | (rw [← hw4]; clear hw4; refine wpList_store_row rfl 29 _ _ rfl rfl w3.heap.size 0 2 (seG n (.slice none 0 0)) rfl rfl hiSe (seG_one _ _ _ _) _ _ _ r4 (by omega) ?_; intro w5 r5 hz5 hb5))
    have b35 : Below w3.heap.size w3 w5 := b4.trans ((hb5.mono (by omega)).below (by omega))
    have b25 : Below w2.heap.size w2 w5 := b23.trans (b35.mono (by omega))
    have b05 : Below w.heap.size w w5 := b02.trans (b25.mono (by omega))
    have XA := around_any n (.slice a n cap) _ x key w5 (HP.out w5 b05).1 (HP.out w5 b05).2.1 HMP.out hn
    have r5' : w5.rowIs w3.heap.size 29 2 (seG n (.slice none 0 0)) := r5.congr fun i hi => by rw [if_pos (by omega), Nat.sub_zero]
    go_wp2_with fail
    refine XA.mono ?_
    rintro e w6 ⟨p, hpos, rfl, b56⟩
    clear XA
    rw [arF_shF]
    have s5 := b35.size
    have s6 := b56.size
    have b06 : Below w.heap.size w w6 := b05.trans (b56.mono (by omega))
    have r6 : w6.rowIs w3.heap.size 29 2 (seG n (.slice none 0 0)) := b56.row r5' (by omega)
    have hns6 : newSums w6 w2.heap.size (.slice sa n sc) (leavesTo x n) := (hns.below b35 (Nat.le_refl _)).below b56 (Nat.le_refl _)
    have hnsb := hns.block
    -- the loop's facts
    have FACT : Hid (∀ wr, But w6.heap.size w3.heap.size w6 wr → Below w.heap.size w wr ∧ pairsAt wr (.slice a n cap) n x ∧ tabIs wr ∧ newSums wr w2.heap.size (.slice sa n sc) (leavesTo x n) ∧ wr.rowIs w.heap.size 29 2 (seG 0 (.slice none 0 0))) := (show _ from fun wr hr => by
      have hb : Below w.heap.size w wr := b06.trans ((hr.mono (by omega)).below (by omega))
      refine ⟨hb, (HP.out wr hb).1, (HP.out wr hb).2.2, hns6.far (fun j hj => hr.block j (by have := hnsb j hj; omega) (by have := hnsb j hj; omega)), ?_⟩
      exact World.rowIs.of_block (b56.row (b25.row r2 (by omega)) (by omega)) (hr.block _ (by omega) (by omega)))
    obtain ⟨f, hf⟩ : ∃ f, f = shF x n key p := ⟨_, rfl⟩
    obtain ⟨la, hla⟩ : ∃ la, la = arL x n key p := ⟨_, rfl⟩
    obtain ⟨m, hm⟩ : ∃ m, m = shM x n key p := ⟨_, rfl⟩
    obtain ⟨y, hy⟩ : ∃ y, y = shY x n key p := ⟨_, rfl⟩
    have hml : ∀ k, k < m ↔ ((f + k : Nat) : Int) ≤ la := by rw [hm, hf, hla]; exact shM_lt x n key p
    have hlan : la < (n : Int) := by rw [hla]; exact (arL_lt x n key p).1
    have hyq : ∀ k, y k = ⟨((f + k : Nat) : Int), x (f + k), pathI (leavesTo x n) ((f + k : Nat) : Int)⟩ := by rw [hy, hf]; exact fun _ => rfl
    have DONE : Hid (∀ V sv, Below w.heap.size w V → spotsAt V sv m y → showPost n x key w (.returned (.agg (rowV 2 (seG n sv)))) V) := (show _ from fun V sv hV hs => ⟨Or.inr ⟨MB.out, p, sv, hpos, rfl, by rw [← hm, ← hy]; exact hs⟩, hV⟩)
    have S0 : Hid (shL w6 w3.heap.size n 0 y w6) := (show shL w6 w3.heap.size n 0 y w6 from ⟨But.refl _ _ _, _, r6, ownSpots.nil _ _ _ _⟩)
    have HYQ : Hid ((∀ k, k < m ↔ ((f + k : Nat) : Int) ≤ la) ∧ la < (n : Int) ∧ ∀ k, y k = ⟨((f + k : Nat) : Int), x (f + k), pathI (leavesTo x n) ((f + k : Nat) : Int)⟩) := (show _ from ⟨hml, hlan, hyq⟩)
    have HSZ : Hid (w.heap.size < w2.heap.size ∧ w2.heap.size ≤ w3.heap.size ∧ w3.heap.size < w6.heap.size ∧ (∀ j, (Value.slice sa n sc).ownBlock = some j → w2.heap.size ≤ j ∧ j < w3.heap.size)) := (show _ from ⟨by omega, by omega, by omega, hnsb⟩)
    rw [← hf, ← hla]
    clear hf hla hm hy hml hlan hyq hpos MB r6 r5' r5 hz5 hb5 b35 b25 b05 b56 b06 b02 b23 b4 z4 s2 s3 s5 s6 r2 r4 hns hns6 hnsb hll B02 HMP
    go_wp2_with fail
    go_loopw [11] (fun i wr => ∃ k : Nat, k ≤ m ∧ i = .int .i64 ((f + k : Nat) : Int) ∧ shL w6 w3.heap.size n k y wr) (fun i _ => f + m - (intOf i).toNat)
    case atStart => exact ⟨0, by omega, rfl, S0.out⟩
    case round =>
      obtain ⟨k, hkm, rfl, hbut, sv, r8, hos⟩ := hrel
      clear S0
      obtain ⟨q, hq⟩ : ∃ q, q = f + k := ⟨_, rfl⟩
      have hyk := HYQ.out.2.2 k
      rw [← hq] at hyk ⊢
      have HQK : Hid (q = f + k) := (show q = f + k from hq)
      clear hq
      have p0 : (0 : Int) ≤ (q : Int) := by omega
      have hsl : ∃ oa oc, sv = .slice oa k oc := by
        obtain ⟨oa, oc, e, _⟩ := hos.is
        exact ⟨oa, oc, e⟩
      obtain ⟨oa, oc, rfl⟩ := hsl
      by_cases hlt : k < m
      · have p1 : (q : Int) ≤ la := by rw [HQK.out]; exact (HYQ.out.1 k).1 hlt
        have hqn : q < n := by have := HYQ.out.2.1; omega
        have p2 : (q : Int) < (n : Int) := by omega
        obtain ⟨g, o, cap', e, hg, _, _, hcell⟩ := (HP.out w (Below.refl _ _)).1.at (by omega)
        injection e with e1 e2 e3
        subst e1
        subst e3
        obtain ⟨ka, kcap, va, vcap, H⟩ := hcell q hqn
        have bwr := (FACT.out wr hbut).1
        have swr := bwr.size
        have FC : Hid (∀ wz, Below wr.heap.size wr wz → wz.cell? ⟨g, o + q * 2, none⟩ = some (.slice ka (x q).1.length kcap) ∧ wz.cell? ⟨g, o + q * 2 + 1, none⟩ = some (.slice va (x q).2.length vcap)) := (show _ from fun wz hz => by
          obtain ⟨q0, q1, _⟩ := H wz (bwr.trans (hz.mono swr))
          exact ⟨q0, q1⟩)
        have hxq := HQ.out.2.1 q hqn
        have CLK : Hid (∀ W, Below wr.heap.size wr W → Calls Tryd.prog 36 #[.slice ka (x q).1.length kcap] W fun e w' => ∃ u, e = .returned u ∧ newBytes w' W.heap.size u (x q).1 ∧ Below W.heap.size W w') := (show _ from fun W hW => clone_x _ _ W (H W (bwr.trans (hW.mono swr))).2.2.1 (by omega))
        have CLV : Hid (∀ W, Below wr.heap.size wr W → Calls Tryd.prog 36 #[.slice va (x q).2.length vcap] W fun e w' => ∃ u, e = .returned u ∧ newBytes w' W.heap.size u (x q).2 ∧ Below W.heap.size W w') := (show _ from fun W hW => clone_x _ _ W (H W (bwr.trans (hW.mono swr))).2.2.2 (by omega))
        have HB : Hid (But w6.heap.size w3.heap.size w6 wr) := (show But w6.heap.size w3.heap.size w6 wr from hbut)
        have HR8 : Hid (wr.rowIs w3.heap.size 29 2 (seG n (.slice oa k oc))) := (show wr.rowIs w3.heap.size 29 2 (seG n (.slice oa k oc)) from r8)
        have HOS : Hid (ownSpots wr w6.heap.size w3.heap.size (.slice oa k oc) k y) := (show ownSpots wr w6.heap.size w3.heap.size (.slice oa k oc) k y from hos)
        clear hcell H bwr swr hxq hbut r8 hos
        go_upto_region 9 with fail
        go_cut [12] from 35 to 47 (fun p12 wx => ∃ (b9 : Nat) (ua : Option Addr) (uc : Nat) (va2 : Option Addr) (vc2 : Nat), p12 = .pointer (some ⟨b9, 0, none⟩) ∧ Below wr.heap.size wr wx ∧ wx.rowIs b9 38 2 (prG (.slice ua (x q).1.length uc) (.slice va2 (x q).2.length vc2)) ∧ wr.heap.size ≤ b9 ∧ newBytes wx wr.heap.size (.slice ua (x q).1.length uc) (x q).1 ∧ newBytes wx wr.heap.size (.slice va2 (x q).2.length vc2) (x q).2)
        case first =>
          have BD : Below wr.heap.size wr wr.drew := (Below.refl _ _).drew
          have H : pst wr (x q).1 (x q).2 wr.drew none none none := ⟨BD, (fun u h => by cases h), (fun u h => by cases h), fun b h => by cases h⟩
          refine wp_region_noPanic ?_
          refine wp_region_held_drew (S := fun w' => Below wr.heap.size wr w') (by kernel_rfl) BD (fun hHeld => ?_)
          clear BD
          generalize wr.drew = W at hHeld H ⊢
          refine take_op (i := 0) (v := ?va0) rfl (by kernel_rfl) (by kernel_rfl) (by kernel_rfl) (fun _ _ _ h => h) rfl hHeld ?ya0 ?ra0
          case ya0 => (intro wz hz; go_simp; first | done | with_reducible rfl)
          try simp only [Act.put, List.setIfInBounds_toArray, List.set_cons_zero, List.set_cons_succ]
          refine take_op (i := 1) (v := ?va1) rfl (by kernel_rfl) (by kernel_rfl) (by kernel_rfl) (fun _ _ _ h => h) rfl hHeld ?ya1 ?ra1
          case ya1 => (intro wz hz; go_simp; first | done | with_reducible rfl)
          try simp only [Act.put, List.setIfInBounds_toArray, List.set_cons_zero, List.set_cons_succ]
          refine take_op (i := 2) (v := ?va2) rfl (by kernel_rfl) (by kernel_rfl) (by kernel_rfl) (fun _ _ _ h => h) rfl hHeld ?ya2 ?ra2
          case ya2 => (intro wz hz; go_simp; first | done | with_reducible rfl)
          try simp only [Act.put, List.setIfInBounds_toArray, List.set_cons_zero, List.set_cons_succ]
          refine take_op (i := 3) (v := ?va3) rfl (by kernel_rfl) (by kernel_rfl) (by kernel_rfl) (fun _ _ _ h => h) rfl hHeld ?ya3 ?ra3
          case ya3 => (intro wz hz; go_simp; first | done | with_reducible rfl)
          try simp only [Act.put, List.setIfInBounds_toArray, List.set_cons_zero, List.set_cons_succ]
          refine take_op (i := 4) (v := ?va4) rfl (by kernel_rfl) (by kernel_rfl) (by kernel_rfl) (fun _ _ _ h => h) rfl hHeld ?ya4 ?ra4
          case ya4 => (intro wz hz; have hcz := (FC.out wz hz).1; go_simp; first | done | with_reducible rfl)
          try simp only [Act.put, List.setIfInBounds_toArray, List.set_cons_zero, List.set_cons_succ]
          refine take_op (i := 6) (v := ?va6) rfl (by kernel_rfl) (by kernel_rfl) (by kernel_rfl) (fun _ _ _ h => h) rfl hHeld ?ya6 ?ra6
          case ya6 => (intro wz hz; go_simp; first | done | with_reducible rfl)
          try simp only [Act.put, List.setIfInBounds_toArray, List.set_cons_zero, List.set_cons_succ]
          refine take_op (i := 7) (v := ?va7) rfl (by kernel_rfl) (by kernel_rfl) (by kernel_rfl) (fun _ _ _ h => h) rfl hHeld ?ya7 ?ra7
          case ya7 => (intro wz hz; go_simp; first | done | with_reducible rfl)
          try simp only [Act.put, List.setIfInBounds_toArray, List.set_cons_zero, List.set_cons_succ]
          refine take_op (i := 8) (v := ?va8) rfl (by kernel_rfl) (by kernel_rfl) (by kernel_rfl) (fun _ _ _ h => h) rfl hHeld ?ya8 ?ra8
          case ya8 => (intro wz hz; go_simp; first | done | with_reducible rfl)
          try simp only [Act.put, List.setIfInBounds_toArray, List.set_cons_zero, List.set_cons_succ]
          refine take_op (i := 9) (v := ?va9) rfl (by kernel_rfl) (by kernel_rfl) (by kernel_rfl) (fun _ _ _ h => h) rfl hHeld ?ya9 ?ra9
          case ya9 => (intro wz hz; go_simp; first | done | with_reducible rfl)
          try simp only [Act.put, List.setIfInBounds_toArray, List.set_cons_zero, List.set_cons_succ]
          refine take_op (i := 10) (v := ?va10) rfl (by kernel_rfl) (by kernel_rfl) (by kernel_rfl) (fun _ _ _ h => h) rfl hHeld ?ya10 ?ra10
          case ya10 => (intro wz hz; have hcz := (FC.out wz hz).2; go_simp; first | done | with_reducible rfl)
          try simp only [Act.put, List.setIfInBounds_toArray, List.set_cons_zero, List.set_cons_succ]
          refine regionKK (fun G hG => ?_)
          refine actKK (p := fun a => G 5 _ a W) (fun a0 ha0 => ?_)
          refine listKK (p := fun l => G 5 l a0 W) (fun l0 hl0 => ?_)
          have HG : Hid _ := hG
          have HA0 : Hid _ := ha0
          have HL0 : Hid _ := hl0
          clear hG ha0 hl0 hHeld
          have ST111 : Hid (∀ (ua : Option Addr) (uc : Nat), ∀ (va2 : Option Addr) (vc2 : Nat), ∀ (b9 : Nat), ∀ W : World, pst wr (x q).1 (x q).2 W (some (.slice ua (x q).1.length uc)) (some (.slice va2 (x q).2.length vc2)) (some b9) → G 1 ((((l0.setIfInBounds 5 true).setIfInBounds 11 true).setIfInBounds 13 true).setIfInBounds 12 true) ((((a0.put (some 40) (.slice ua (x q).1.length uc)).put (some 46) (.slice va2 (x q).2.length vc2)).put (some 12) (.pointer (some ⟨b9, 0, none⟩))).put (some 47) (.agg (rowV 2 (prG (.slice ua (x q).1.length uc) (.slice va2 (x q).2.length vc2))))) W) := (show ∀ (ua : Option Addr) (uc : Nat), ∀ (va2 : Option Addr) (vc2 : Nat), ∀ (b9 : Nat), ∀ W : World, pst wr (x q).1 (x q).2 W (some (.slice ua (x q).1.length uc)) (some (.slice va2 (x q).2.length vc2)) (some b9) → G 1 ((((l0.setIfInBounds 5 true).setIfInBounds 11 true).setIfInBounds 13 true).setIfInBounds 12 true) ((((a0.put (some 40) (.slice ua (x q).1.length uc)).put (some 46) (.slice va2 (x q).2.length vc2)).put (some 12) (.pointer (some ⟨b9, 0, none⟩))).put (some 47) (.agg (rowV 2 (prG (.slice ua (x q).1.length uc) (.slice va2 (x q).2.length vc2))))) W from by
            intro ua uc va2 vc2 b9 W H
            rw [HA0.out, HL0.out, HG.out]
            try simp only [Act.put, List.setIfInBounds_toArray, List.set_cons_zero, List.set_cons_succ]
            obtain ⟨V, e1, r1, z1, c1⟩ := pr_store W b9 (prG (.slice ua (x q).1.length uc) (.slice va2 (x q).2.length vc2)) (H.2.2.2 b9 rfl).2 (prG_one _ _ _ _ _ _)
            have hb9 := (H.2.2.2 b9 rfl).1
            have bV : Below wr.heap.size wr V := H.1.trans ((c1.mono H.1.size).below (by omega))
            have n1 : newBytes V wr.heap.size (.slice ua (x q).1.length uc) (x q).1 := (H.2.1 _ rfl).apart (fun j hj => c1.block j ((H.2.1 _ rfl).block j hj).2 ((H.2.1 _ rfl).notrow (H.2.2.2 b9 rfl).2 (by decide) j hj))
            have n2 : newBytes V wr.heap.size (.slice va2 (x q).2.length vc2) (x q).2 := (H.2.2.1 _ rfl).apart (fun j hj => c1.block j ((H.2.2.1 _ rfl).block j hj).2 ((H.2.2.1 _ rfl).notrow (H.2.2.2 b9 rfl).2 (by decide) j hj))
            refine take_one (i := 14) rfl (by kernel_rfl) rfl (fun K hK => ?_)
            unfold Oper.wp execOp
            simp only [Instr.storeAt, Instr.sureAddr, Sem.run_bind, Sem.run_pure, Result.andThen_ok]
            simp [Act.eval, e1, Oper.upon]
            refine hK.out _ _ bV (fun hHeld => ?_)
            clear hK K
            try simp only [Act.put, List.setIfInBounds_toArray, List.set_cons_zero, List.set_cons_succ]
            refine wpAnyH_done (by kernel_rfl) ?_ _
            refine NoPanic.normal ?_
            clear e1 H hHeld c1 z1
            go_wp2_with fail
            go_meet
            case rel => exact ⟨b9, _, _, _, _, rfl, bV, r1, hb9, n1, n2⟩)
          have ST110 : Hid (∀ (ua : Option Addr) (uc : Nat), ∀ (va2 : Option Addr) (vc2 : Nat), ∀ W : World, pst wr (x q).1 (x q).2 W (some (.slice ua (x q).1.length uc)) (some (.slice va2 (x q).2.length vc2)) none → G 2 (((l0.setIfInBounds 5 true).setIfInBounds 11 true).setIfInBounds 12 true) (((a0.put (some 40) (.slice ua (x q).1.length uc)).put (some 46) (.slice va2 (x q).2.length vc2)).put (some 47) (.agg (rowV 2 (prG (.slice ua (x q).1.length uc) (.slice va2 (x q).2.length vc2))))) W) := (show ∀ (ua : Option Addr) (uc : Nat), ∀ (va2 : Option Addr) (vc2 : Nat), ∀ W : World, pst wr (x q).1 (x q).2 W (some (.slice ua (x q).1.length uc)) (some (.slice va2 (x q).2.length vc2)) none → G 2 (((l0.setIfInBounds 5 true).setIfInBounds 11 true).setIfInBounds 12 true) (((a0.put (some 40) (.slice ua (x q).1.length uc)).put (some 46) (.slice va2 (x q).2.length vc2)).put (some 47) (.agg (rowV 2 (prG (.slice ua (x q).1.length uc) (.slice va2 (x q).2.length vc2))))) W from by
            intro ua uc va2 vc2 W H
            rw [HA0.out, HL0.out, HG.out]
            try simp only [Act.put, List.setIfInBounds_toArray, List.set_cons_zero, List.set_cons_succ]
            refine take_one (i := 13) rfl (by kernel_rfl) rfl (fun K hK => ?_)
            refine wp_of_run (exec_allocPr rfl) ?_
            have H2 := H.box
            refine hK.out _ _ H2.1 (fun hHeld => ?_)
            try simp only [Act.put, List.setIfInBounds_toArray, List.set_cons_zero, List.set_cons_succ]
            have T := ST111.out ua uc va2 vc2 W.heap.size (W.alloc (.cells (rowV 2 prZ) 38)) H2
            rw [HA0.out, HL0.out, HG.out] at T
            try simp only [Act.put, List.setIfInBounds_toArray, List.set_cons_zero, List.set_cons_succ] at T
            exact lcongK (by kernel_rfl) T)
          have ST101 : Hid (∀ (ua : Option Addr) (uc : Nat), ∀ (b9 : Nat), ∀ W : World, pst wr (x q).1 (x q).2 W (some (.slice ua (x q).1.length uc)) none (some b9) → G 3 ((l0.setIfInBounds 5 true).setIfInBounds 13 true) ((a0.put (some 40) (.slice ua (x q).1.length uc)).put (some 12) (.pointer (some ⟨b9, 0, none⟩))) W) := (show ∀ (ua : Option Addr) (uc : Nat), ∀ (b9 : Nat), ∀ W : World, pst wr (x q).1 (x q).2 W (some (.slice ua (x q).1.length uc)) none (some b9) → G 3 ((l0.setIfInBounds 5 true).setIfInBounds 13 true) ((a0.put (some 40) (.slice ua (x q).1.length uc)).put (some 12) (.pointer (some ⟨b9, 0, none⟩))) W from by
            intro ua uc b9 W H
            rw [HA0.out, HL0.out, HG.out]
            try simp only [Act.put, List.setIfInBounds_toArray, List.set_cons_zero, List.set_cons_succ]
            refine take_one (i := 11) rfl (by kernel_rfl) rfl (fun K hK => ?_)
            go_simp
            refine Calls.mono (CLV.out W H.1) ?_
            rintro e W2 ⟨u, rfl, hn, hb⟩
            obtain ⟨va2, vc2, rfl⟩ := hn.slen
            have H2 := H.val hb hn
            refine hK.out _ _ H2.1 (fun hHeld => ?_)
            try simp only [Act.put, List.setIfInBounds_toArray, List.set_cons_zero, List.set_cons_succ]
            refine take_op (i := 12) (v := .agg (rowV 2 (prG (.slice ua (x q).1.length uc) (.slice va2 (x q).2.length vc2)))) rfl (by kernel_rfl) (by kernel_rfl) (by kernel_rfl) (fun _ _ _ h => h) rfl hHeld (fun wz hz => exec_build2 38 0 1 (.tmp 40) (.tmp 46) (.slice ua (x q).1.length uc) (.slice va2 (x q).2.length vc2) rfl rfl rfl (build_pr ua va2 (x q).1.length uc (x q).2.length vc2 wz)) ?_
            try simp only [Act.put, List.setIfInBounds_toArray, List.set_cons_zero, List.set_cons_succ]
            have T := ST111.out ua uc va2 vc2 b9 W2 H2
            rw [HA0.out, HL0.out, HG.out] at T
            try simp only [Act.put, List.setIfInBounds_toArray, List.set_cons_zero, List.set_cons_succ] at T
            exact lcongK (by kernel_rfl) T)
          have ST100 : Hid (∀ (ua : Option Addr) (uc : Nat), ∀ W : World, pst wr (x q).1 (x q).2 W (some (.slice ua (x q).1.length uc)) none none → G 4 (l0.setIfInBounds 5 true) (a0.put (some 40) (.slice ua (x q).1.length uc)) W) := (show ∀ (ua : Option Addr) (uc : Nat), ∀ W : World, pst wr (x q).1 (x q).2 W (some (.slice ua (x q).1.length uc)) none none → G 4 (l0.setIfInBounds 5 true) (a0.put (some 40) (.slice ua (x q).1.length uc)) W from by
            intro ua uc W H
            rw [HA0.out, HL0.out, HG.out]
            try simp only [Act.put, List.setIfInBounds_toArray, List.set_cons_zero, List.set_cons_succ]
            refine take_pair (i := 11) (j := 13) rfl rfl (by kernel_rfl) rfl rfl (fun K hK => ?_) (fun K hK => ?_)
            · go_simp
              refine Calls.mono (CLV.out W H.1) ?_
              rintro e W2 ⟨u, rfl, hn, hb⟩
              obtain ⟨va2, vc2, rfl⟩ := hn.slen
              have H2 := H.val hb hn
              refine hK.out _ _ H2.1 (fun hHeld => ?_)
              try simp only [Act.put, List.setIfInBounds_toArray, List.set_cons_zero, List.set_cons_succ]
              refine take_op (i := 12) (v := .agg (rowV 2 (prG (.slice ua (x q).1.length uc) (.slice va2 (x q).2.length vc2)))) rfl (by kernel_rfl) (by kernel_rfl) (by kernel_rfl) (fun _ _ _ h => h) rfl hHeld (fun wz hz => exec_build2 38 0 1 (.tmp 40) (.tmp 46) (.slice ua (x q).1.length uc) (.slice va2 (x q).2.length vc2) rfl rfl rfl (build_pr ua va2 (x q).1.length uc (x q).2.length vc2 wz)) ?_
              try simp only [Act.put, List.setIfInBounds_toArray, List.set_cons_zero, List.set_cons_succ]
              have T := ST110.out ua uc va2 vc2 W2 H2
              rw [HA0.out, HL0.out, HG.out] at T
              try simp only [Act.put, List.setIfInBounds_toArray, List.set_cons_zero, List.set_cons_succ] at T
              exact lcongK (by kernel_rfl) T
            · refine wp_of_run (exec_allocPr rfl) ?_
              have H2 := H.box
              refine hK.out _ _ H2.1 (fun hHeld => ?_)
              try simp only [Act.put, List.setIfInBounds_toArray, List.set_cons_zero, List.set_cons_succ]
              have T := ST101.out ua uc W.heap.size (W.alloc (.cells (rowV 2 prZ) 38)) H2
              rw [HA0.out, HL0.out, HG.out] at T
              try simp only [Act.put, List.setIfInBounds_toArray, List.set_cons_zero, List.set_cons_succ] at T
              exact lcongK (by kernel_rfl) T)
          have ST001 : Hid (∀ (b9 : Nat), ∀ W : World, pst wr (x q).1 (x q).2 W none none (some b9) → G 4 (l0.setIfInBounds 13 true) (a0.put (some 12) (.pointer (some ⟨b9, 0, none⟩))) W) := (show ∀ (b9 : Nat), ∀ W : World, pst wr (x q).1 (x q).2 W none none (some b9) → G 4 (l0.setIfInBounds 13 true) (a0.put (some 12) (.pointer (some ⟨b9, 0, none⟩))) W from by
            intro b9 W H
            rw [HA0.out, HL0.out, HG.out]
            try simp only [Act.put, List.setIfInBounds_toArray, List.set_cons_zero, List.set_cons_succ]
            refine take_one (i := 5) rfl (by kernel_rfl) rfl (fun K hK => ?_)
            go_simp
            refine Calls.mono (CLK.out W H.1) ?_
            rintro e W2 ⟨u, rfl, hn, hb⟩
            obtain ⟨ua, uc, rfl⟩ := hn.slen
            have H2 := H.key hb hn
            refine hK.out _ _ H2.1 (fun hHeld => ?_)
            try simp only [Act.put, List.setIfInBounds_toArray, List.set_cons_zero, List.set_cons_succ]
            have T := ST101.out ua uc b9 W2 H2
            rw [HA0.out, HL0.out, HG.out] at T
            try simp only [Act.put, List.setIfInBounds_toArray, List.set_cons_zero, List.set_cons_succ] at T
            exact lcongK (by kernel_rfl) T)
          have ST000 : Hid (∀ W : World, pst wr (x q).1 (x q).2 W none none none → G 5 l0 a0 W) := (show ∀ W : World, pst wr (x q).1 (x q).2 W none none none → G 5 l0 a0 W from by
            intro W H
            rw [HA0.out, HL0.out, HG.out]
            try simp only [Act.put, List.setIfInBounds_toArray, List.set_cons_zero, List.set_cons_succ]
            refine take_pair (i := 5) (j := 13) rfl rfl (by kernel_rfl) rfl rfl (fun K hK => ?_) (fun K hK => ?_)
            · go_simp
              refine Calls.mono (CLK.out W H.1) ?_
              rintro e W2 ⟨u, rfl, hn, hb⟩
              obtain ⟨ua, uc, rfl⟩ := hn.slen
              have H2 := H.key hb hn
              refine hK.out _ _ H2.1 (fun hHeld => ?_)
              try simp only [Act.put, List.setIfInBounds_toArray, List.set_cons_zero, List.set_cons_succ]
              have T := ST100.out ua uc W2 H2
              rw [HA0.out, HL0.out, HG.out] at T
              try simp only [Act.put, List.setIfInBounds_toArray, List.set_cons_zero, List.set_cons_succ] at T
              exact lcongK (by kernel_rfl) T
            · refine wp_of_run (exec_allocPr rfl) ?_
              have H2 := H.box
              refine hK.out _ _ H2.1 (fun hHeld => ?_)
              try simp only [Act.put, List.setIfInBounds_toArray, List.set_cons_zero, List.set_cons_succ]
              have T := ST001.out W.heap.size (W.alloc (.cells (rowV 2 prZ) 38)) H2
              rw [HA0.out, HL0.out, HG.out] at T
              try simp only [Act.put, List.setIfInBounds_toArray, List.set_cons_zero, List.set_cons_succ] at T
              exact lcongK (by kernel_rfl) T)
          exact ST000.out W H
        case rest =>
          obtain ⟨b9, ua, uc, va2, vc2, rfl, bV, r9, hb9, n1, n2⟩ := hcut
          rename World => V
          have hbut := HB.out
          have r8 := HR8.out
          have hos := HOS.out
          obtain ⟨z02, z23, z36, hsb⟩ := HSZ.out
          have sbut := hbut.size
          have sV := bV.size
          have r8V : V.rowIs w3.heap.size 29 2 (seG n (.slice oa k oc)) := bV.row r8 (by omega)
          have l9 : ∀ j, j < 2 → V.cell? ⟨b9, 0 + j, none⟩ = some ((prG (.slice ua (x q).1.length uc) (.slice va2 (x q).2.length vc2)) j) := fun j hj => by rw [Nat.zero_add]; exact r9.cell hj
          have c8 : V.cell? ⟨w3.heap.size, 1, none⟩ = some (.slice oa k oc) := r8V.cell (i := 1) (by omega)
          have HJ : Hid (∀ s, (JJ 12 (fun w' => w'.cell? ⟨w3.heap.size, 1, none⟩ = some (.slice oa k oc) ∧ ∀ j, j < 2 → w'.cell? ⟨b9, 0 + j, none⟩ = some (prG (.slice ua (x q).1.length uc) (.slice va2 (x q).2.length vc2) j)) 12 (fun w' => w'.cell? ⟨w3.heap.size, 1, none⟩ = some (.slice oa k oc) ∧ ∀ j, j < 2 → w'.cell? ⟨b9, 0 + j, none⟩ = some (prG (.slice ua (x q).1.length uc) (.slice va2 (x q).2.length vc2) j))) s V.drew) := (show ∀ s, (JJ 12 (fun w' => w'.cell? ⟨w3.heap.size, 1, none⟩ = some (.slice oa k oc) ∧ ∀ j, j < 2 → w'.cell? ⟨b9, 0 + j, none⟩ = some (prG (.slice ua (x q).1.length uc) (.slice va2 (x q).2.length vc2) j)) 12 (fun w' => w'.cell? ⟨w3.heap.size, 1, none⟩ = some (.slice oa k oc) ∧ ∀ j, j < 2 → w'.cell? ⟨b9, 0 + j, none⟩ = some (prG (.slice ua (x q).1.length uc) (.slice va2 (x q).2.length vc2) j))) s V.drew from JJ_all ⟨c8, l9⟩ ⟨c8, l9⟩)
          obtain ⟨fa1, fa2, fa3, fa4, fa5⟩ := FACT.out wr hbut
          have bwV : Below w.heap.size w V := fa1.trans (bV.mono fa1.size)
          have hnsV : newSums V w2.heap.size (.slice sa n sc) (leavesTo x n) := fa4.below bV (Nat.le_refl _)
          have hll := leavesTo_len x n
          have XP := path_k frNone (.pointer none) [] 0 (leavesTo x n) (.slice sa n sc) (q : Int) V.drew ⟨by omega, by omega⟩ (bkNone _ _ _) (hnsV.is.below (Below.refl V.heap.size V).drew (Nat.le_refl _)) (fun _ _ _ h => h.elim) (by rw [hll]; omega) ((HP.out V bwV).2.2.below (Below.refl V.heap.size V).drew (HP.out V bwV).2.2.1) (fun h => h.elim) (by rw [hll]; simp; omega) (by omega)
          have HV : Hid (V.heap.size = V.drew.heap.size ∧ wr.heap.size ≤ V.heap.size ∧ w6.heap.size ≤ wr.heap.size) := (show _ ∧ _ ∧ _ from ⟨rfl, sV, sbut⟩)
          have RV : Hid (V.drew.rowIs w3.heap.size 29 2 (seG n (.slice oa k oc)) ∧ V.drew.rowIs b9 38 2 (prG (.slice ua (x q).1.length uc) (.slice va2 (x q).2.length vc2)) ∧ Below wr.heap.size wr V.drew) := (show _ ∧ _ ∧ _ from ⟨r8V, r9, bV.trans ((Below.refl V.heap.size V).drew.mono sV)⟩)
          have N12 : Hid (newBytes V.drew wr.heap.size (.slice ua (x q).1.length uc) (x q).1 ∧ newBytes V.drew wr.heap.size (.slice va2 (x q).2.length vc2) (x q).2) := (show _ ∧ _ from ⟨n1.below (Below.refl V.heap.size V).drew (Nat.le_refl _), n2.below (Below.refl V.heap.size V).drew (Nat.le_refl _)⟩)
          clear n1 n2 r8V l9 c8 fa1 fa2 fa3 fa4 fa5 bwV hnsV hll hos r8 hbut r9 bV z02 hsb
          go_upto_region 10 with fail
          refine wp_region_noPanic ?_
          refine wp_region_T (JJ 12 (fun w' => w'.cell? ⟨w3.heap.size, 1, none⟩ = some (.slice oa k oc) ∧ ∀ j, j < 2 → w'.cell? ⟨b9, 0 + j, none⟩ = some (prG (.slice ua (x q).1.length uc) (.slice va2 (x q).2.length vc2) j)) 12 (fun w' => w'.cell? ⟨w3.heap.size, 1, none⟩ = some (.slice oa k oc) ∧ ∀ j, j < 2 → w'.cell? ⟨b9, 0 + j, none⟩ = some (prG (.slice ua (x q).1.length uc) (.slice va2 (x q).2.length vc2) j))) (by kernel_rfl) ?_
          generalize V.drew = V0 at HJ XP HV RV N12 ⊢
          refine take_opT (i := 0) (v := ?vu0) 12 rfl (by kernel_rfl) (by kernel_rfl) (by kernel_rfl) (by kernel_rfl) (by kernel_rfl) (JJ_free rfl rfl) (fun _ _ _ h => h) rfl HJ.out ?yu0 ?ru0
          case yu0 => (intro wz hz0; have hz := hz0.1 rfl; go_simp; first | done | with_reducible rfl)
          try simp only [Act.put, List.setIfInBounds_toArray, List.set_cons_zero, List.set_cons_succ]
          refine take_opT (i := 1) (v := ?vu1) 12 rfl (by kernel_rfl) (by kernel_rfl) (by kernel_rfl) (by kernel_rfl) (by kernel_rfl) (JJ_free rfl rfl) (fun _ _ _ h => h) rfl HJ.out ?yu1 ?ru1
          case yu1 => (intro wz hz0; have hz := hz0.1 rfl; have hz1 := hz.1; go_simp; first | done | with_reducible rfl)
          try simp only [Act.put, List.setIfInBounds_toArray, List.set_cons_zero, List.set_cons_succ]
          refine take_opT (i := 2) (v := ?vu2) 12 rfl (by kernel_rfl) (by kernel_rfl) (by kernel_rfl) (by kernel_rfl) (by kernel_rfl) (JJ_free rfl rfl) (fun _ _ _ h => h) rfl HJ.out ?yu2 ?ru2
          case yu2 => (intro wz hz0; have hz := hz0.1 rfl; go_simp; first | done | with_reducible rfl)
          try simp only [Act.put, List.setIfInBounds_toArray, List.set_cons_zero, List.set_cons_succ]
          refine take_loadT (i := 3) 12 rfl (by kernel_rfl) (by kernel_rfl) (by kernel_rfl) (by kernel_rfl) (by kernel_rfl) (JJ_free rfl rfl) 38 _ rfl b9 0 2 (prG (.slice ua (x q).1.length uc) (.slice va2 (x q).2.length vc2)) rfl _ Tryd.underlying38 rfl (by kernel_rfl) (fun _ _ _ h => h) rfl HJ.out (fun wz hz => (hz.1 rfl).2) ?_
          try simp only [Act.put, List.setIfInBounds_toArray, List.set_cons_zero, List.set_cons_succ]
          refine take_opT (i := 4) (v := ?vu4) 12 rfl (by kernel_rfl) (by kernel_rfl) (by kernel_rfl) (by kernel_rfl) (by kernel_rfl) (JJ_free rfl rfl) (fun _ _ _ h => h) rfl HJ.out ?yu4 ?ru4
          case yu4 => (intro wz hz0; have hz := hz0.1 rfl; go_simp; first | done | with_reducible rfl)
          try simp only [Act.put, List.setIfInBounds_toArray, List.set_cons_zero, List.set_cons_succ]
          refine take_opT (i := 5) (v := ?vu5) 12 rfl (by kernel_rfl) (by kernel_rfl) (by kernel_rfl) (by kernel_rfl) (by kernel_rfl) (JJ_free rfl rfl) (fun _ _ _ h => h) rfl HJ.out ?yu5 ?ru5
          case yu5 => (intro wz hz0; have hz := hz0.1 rfl; go_simp; first | done | with_reducible rfl)
          try simp only [Act.put, List.setIfInBounds_toArray, List.set_cons_zero, List.set_cons_succ]
          refine take_opT (i := 6) (v := ?vu6) 12 rfl (by kernel_rfl) (by kernel_rfl) (by kernel_rfl) (by kernel_rfl) (by kernel_rfl) (JJ_free rfl rfl) (fun _ _ _ h => h) rfl HJ.out ?yu6 ?ru6
          case yu6 => (intro wz hz0; have hz := hz0.1 rfl; go_simp; first | done | with_reducible rfl)
          try simp only [Act.put, List.setIfInBounds_toArray, List.set_cons_zero, List.set_cons_succ]
          refine take_oneT (i := 7) rfl (by kernel_rfl) rfl (fun K hK => ?_)
          go_simp
          refine Calls.mono XP ?_
          rintro e V1 ⟨pv, Fi, rfl, hps, _, _, _, fP⟩
          have b01 := frNone_below fP
          clear XP fP
          have hsp : ∃ pa pc, pv = .slice pa (pathI (leavesTo x n) q).length pc := by
            obtain ⟨_, pa, pc, e, _⟩ := hps.is
            exact ⟨pa, pc, e⟩
          obtain ⟨pa, pc, rfl⟩ := hsp
          obtain ⟨zd, sV, sw⟩ := HV.out
          have s01 := b01.size
          obtain ⟨rr8, rr9, bw0⟩ := RV.out
          have q8 : V1.rowIs w3.heap.size 29 2 (seG n (.slice oa k oc)) := b01.row rr8 (by omega)
          have q9 : V1.rowIs b9 38 2 (prG (.slice ua (x q).1.length uc) (.slice va2 (x q).2.length vc2)) := b01.row rr9 rr9.lt
          refine hK.out _ _ (heldJ_all ⟨q8.cell (i := 1) (by omega), fun j hj => by rw [Nat.zero_add]; exact q9.cell hj⟩ ⟨q8.cell (i := 1) (by omega), fun j hj => by rw [Nat.zero_add]; exact q9.cell hj⟩) ?_
          clear hK K
          try simp only [Act.put, List.setIfInBounds_toArray, List.set_cons_zero, List.set_cons_succ]
          have HJ1 : Hid (∀ s, (JJ 12 (fun w' => w'.cell? ⟨w3.heap.size, 1, none⟩ = some (.slice oa k oc) ∧ ∀ j, j < 2 → w'.cell? ⟨b9, 0 + j, none⟩ = some (prG (.slice ua (x q).1.length uc) (.slice va2 (x q).2.length vc2) j)) 12 (fun w' => w'.cell? ⟨w3.heap.size, 1, none⟩ = some (.slice oa k oc) ∧ ∀ j, j < 2 → w'.cell? ⟨b9, 0 + j, none⟩ = some (prG (.slice ua (x q).1.length uc) (.slice va2 (x q).2.length vc2) j))) s V1) := (show ∀ s, (JJ 12 (fun w' => w'.cell? ⟨w3.heap.size, 1, none⟩ = some (.slice oa k oc) ∧ ∀ j, j < 2 → w'.cell? ⟨b9, 0 + j, none⟩ = some (prG (.slice ua (x q).1.length uc) (.slice va2 (x q).2.length vc2) j)) 12 (fun w' => w'.cell? ⟨w3.heap.size, 1, none⟩ = some (.slice oa k oc) ∧ ∀ j, j < 2 → w'.cell? ⟨b9, 0 + j, none⟩ = some (prG (.slice ua (x q).1.length uc) (.slice va2 (x q).2.length vc2) j))) s V1 from JJ_all ⟨q8.cell (i := 1) (by omega), fun j hj => by rw [Nat.zero_add]; exact q9.cell hj⟩ ⟨q8.cell (i := 1) (by omega), fun j hj => by rw [Nat.zero_add]; exact q9.cell hj⟩)
          refine take_opT (i := 8) (v := .agg (rowV 4 (spG q (.slice ua (x q).1.length uc) (.slice va2 (x q).2.length vc2) (.slice pa (pathI (leavesTo x n) q).length pc)))) 12 rfl (by kernel_rfl) (by kernel_rfl) (by kernel_rfl) (by kernel_rfl) (by kernel_rfl) (JJ_free rfl rfl) (fun _ _ _ h => h) rfl HJ1.out (fun wz hz => exec_build3' 41 0 1 2 (.tmp 50) (.tmp 51) (.tmp 55) (.int .i64 q) (.agg (rowV 2 (prG (.slice ua (x q).1.length uc) (.slice va2 (x q).2.length vc2)))) (.slice pa (pathI (leavesTo x n) q).length pc) rfl rfl rfl rfl (build_sp q ua va2 pa (x q).1.length uc (x q).2.length vc2 (pathI (leavesTo x n) q).length pc wz)) ?_
          try simp only [Act.put, List.setIfInBounds_toArray, List.set_cons_zero, List.set_cons_succ]
          obtain ⟨V2, hV2⟩ : ∃ V2, V2 = V1.alloc (.cells (rowV 4 (spG q (.slice ua (x q).1.length uc) (.slice va2 (x q).2.length vc2) (.slice pa (pathI (leavesTo x n) q).length pc))) 41) := ⟨_, rfl⟩
          have b12 : Below V1.heap.size V1 V2 := by rw [hV2]; exact (Below.refl _ _).alloc (Nat.le_refl _) _
          have z2 : V2.heap.size = V1.heap.size + 1 := by rw [hV2]; simp
          have rN : V2.rowIs V1.heap.size 41 4 (spG q (.slice ua (x q).1.length uc) (.slice va2 (x q).2.length vc2) (.slice pa (pathI (leavesTo x n) q).length pc)) := by rw [hV2]; exact rowIs_box _ _ _ _
          have q8' : V2.rowIs w3.heap.size 29 2 (seG n (.slice oa k oc)) := b12.row q8 q8.lt
          have q9' : V2.rowIs b9 38 2 (prG (.slice ua (x q).1.length uc) (.slice va2 (x q).2.length vc2)) := b12.row q9 q9.lt
          refine take_oneT (i := 9) rfl (by kernel_rfl) rfl (fun K hK => ?_)
          refine wp_of_run (exec_bslice1' 27 1 0 (.tmp 56) (.agg (rowV 4 (spG q (.slice ua (x q).1.length uc) (.slice va2 (x q).2.length vc2) (.slice pa (pathI (leavesTo x n) q).length pc)))) rfl rfl (build_sps (spG q (.slice ua (x q).1.length uc) (.slice va2 (x q).2.length vc2) (.slice pa (pathI (leavesTo x n) q).length pc)) V1)) ?_
          rw [← hV2]
          refine hK.out _ _ (heldJ_all ⟨q8'.cell (i := 1) (by omega), fun j hj => by rw [Nat.zero_add]; exact q9'.cell hj⟩ ⟨q8'.cell (i := 1) (by omega), fun j hj => by rw [Nat.zero_add]; exact q9'.cell hj⟩) ?_
          clear hK K hV2
          try simp only [Act.put, List.setIfInBounds_toArray, List.set_cons_zero, List.set_cons_succ]
          have b02 : Below V0.heap.size V0 V2 := b01.trans (b12.mono s01)
          have bw2 : Below wr.heap.size wr V2 := bw0.trans (b02.mono (by omega))
          obtain ⟨m1, m2⟩ := N12.out
          have hosb := HOS.out.block
          have hyk' := hyk
          have SF : spotFar V2 w3.heap.size (.slice oa k oc) (spG q (.slice ua (x q).1.length uc) (.slice va2 (x q).2.length vc2) (.slice pa (pathI (leavesTo x n) q).length pc)) (y k) := fun z hz => by
            obtain ⟨z36a, z36b, z36c, _⟩ := HSZ.out
            have e1 : newBytes V2 wr.heap.size (.slice ua (x q).1.length uc) (x q).1 := m1.below b02 (Nat.le_refl _)
            have e2 : newBytes V2 wr.heap.size (.slice va2 (x q).2.length vc2) (x q).2 := m2.below b02 (Nat.le_refl _)
            have e3 : newSums V2 V0.heap.size (.slice pa (pathI (leavesTo x n) q).length pc) (pathI (leavesTo x n) q) := hps.below b12 (Nat.le_refl _)
            have far : ∀ j, wr.heap.size ≤ j → j < V2.heap.size → z.heap[j]? = V2.heap[j]? := fun j h1 h2 => hz.2 j h2 (fun e => by have := (hosb j e).2; omega) (by omega)
            rw [hyk']
            refine ⟨_, _, _, rfl, Or.inl (e1.apart fun j hj => far j (e1.block j hj).1 (e1.block j hj).2).is, Or.inl (e2.apart fun j hj => far j (e2.block j hj).1 (e2.block j hj).2).is, (e3.far fun j hj => far j (by have := (e3.block j hj).1; omega) (e3.block j hj).2).is, ⟨by show -9223372036854775808 ≤ (q : Int); omega, by show (q : Int) ≤ 9223372036854775807; omega⟩⟩
          have HO2 : ownSpots V2 w6.heap.size w3.heap.size (.slice oa k oc) k y := HOS.out.below bw2 (Nat.le_refl _)
          obtain ⟨v', V3, hr, ho3, hg3, hat3⟩ := spots_append V2 w6.heap.size w3.heap.size (.slice oa k oc) k y HO2 V1.heap.size (spG q (.slice ua (x q).1.length uc) (.slice va2 (x q).2.length vc2) (.slice pa (pathI (leavesTo x n) q).length pc)) rN SF (by have := HQK.out; omega) (by omega)
          have HAT : Hid (v'.ownBlock = (Value.slice oa k oc).ownBlock ∨ v'.ownBlock = some V2.heap.size) := hat3
          have n8 : ∀ (j : Nat), (Value.slice oa k oc).ownBlock = some j → w6.heap.size ≤ j ∧ j < wr.heap.size := hosb
          have g3 := hg3.size
          have q8'' : V3.rowIs w3.heap.size 29 2 (seG n (.slice oa k oc)) := World.rowIs.of_block q8' (hg3.block _ q8'.lt (fun e => by have := (n8 _ e.symm).1; omega))
          have q9'' : V3.rowIs b9 38 2 (prG (.slice ua (x q).1.length uc) (.slice va2 (x q).2.length vc2)) := World.rowIs.of_block q9' (hg3.block _ q9'.lt (fun e => by have := (n8 _ e.symm).2; omega))
          refine take_oneT (i := 10) rfl (by kernel_rfl) rfl (fun K hK => ?_)
          refine wp_append_run (.tmp 49) (.tmp 57) 27 rfl rfl rfl hr ?_
          refine hK.out _ _ (heldJ_all ⟨q8''.cell (i := 1) (by omega), fun j hj => by rw [Nat.zero_add]; exact q9''.cell hj⟩ ⟨q8''.cell (i := 1) (by omega), fun j hj => by rw [Nat.zero_add]; exact q9''.cell hj⟩) ?_
          clear hK K
          try simp only [Act.put, List.setIfInBounds_toArray, List.set_cons_zero, List.set_cons_succ]
          have hsv : ∃ na nc, v' = .slice na (k + 1) nc := by
            obtain ⟨na, nc, e, _⟩ := ho3.is
            exact ⟨na, nc, e⟩
          obtain ⟨na, nc, rfl⟩ := hsv
          refine take_oneT (i := 11) rfl (by kernel_rfl) rfl (fun K hK => ?_)
          go_simp
          refine hK.out _ _ (heldJ_all ⟨q8''.cell (i := 1) (by omega), fun j hj => by rw [Nat.zero_add]; exact q9''.cell hj⟩ ⟨q8''.cell (i := 1) (by omega), fun j hj => by rw [Nat.zero_add]; exact q9''.cell hj⟩) ?_
          clear hK K
          try simp only [Act.put, List.setIfInBounds_toArray, List.set_cons_zero, List.set_cons_succ]
          have c3 := q8''.cell (i := 1) (by omega)
          have f3 := q8''.frozen 1
          refine take_oneT (i := 12) rfl (by kernel_rfl) rfl (fun K hK => ?_)
          go_simp
          refine hK.out _ _ (heldJ_none rfl rfl) ?_
          clear hK K c3 f3
          try simp only [Act.put, List.setIfInBounds_toArray, List.set_cons_zero, List.set_cons_succ]
          refine doneT (by kernel_rfl) ?_ _
          refine NoPanic.normal ?_
          have NX : Hid (∀ V4, V4 = V3.setCell ⟨w3.heap.size, 1, none⟩ (.slice na (k + 1) nc) → shL w6 w3.heap.size n (k + 1) y V4) := (show _ from fun V4 h4 => by
            obtain ⟨zz1, zz2, zz3, _⟩ := HSZ.out
            have hb := HB.out
            have bt : But V3.heap.size w3.heap.size V3 V4 := by
              rw [h4]
              exact but_setCells (b := w3.heap.size) [.slice na (k + 1) nc] 1 (But.refl _ _ _)
            have z4 := bt.size
            have r4 : V4.rowIs w3.heap.size 29 2 (seG n (.slice na (k + 1) nc)) := by
              rw [h4]
              refine (q8''.set 1 (.slice na (k + 1) nc)).congr fun i hi => ?_
              have : i = 0 ∨ i = 1 := by omega
              rcases this with rfl | rfl <;> rfl
            refine ⟨⟨bt.os.trans (hg3.os.trans (bw2.os.trans hb.os)), bt.tape.trans (hg3.tape.trans (bw2.tape.trans hb.tape)), bt.output.trans (hg3.output.trans (bw2.output.trans hb.output)), by have := hb.size; have := bw2.size; omega, fun j hj hn => ?_⟩, _, r4, ho3.same (by omega) (by omega) fun j hj hn => bt.block j hj (by omega)⟩
            have h1 := hb.size
            have h2 := bw2.size
            exact (bt.block j (by omega) hn).trans ((hg3.block j (by omega) (fun e => by have := (n8 _ e.symm).1; omega)).trans ((bw2.block j (by omega)).trans (hb.block j hj hn))))
          obtain ⟨V4, hV4⟩ : ∃ V4, V4 = V3.setCell ⟨w3.heap.size, 1, none⟩ (.slice na (k + 1) nc) := ⟨_, rfl⟩
          rw [← hV4]
          have NX4 : Hid (shL w6 w3.heap.size n (k + 1) y V4) := (show shL w6 w3.heap.size n (k + 1) y V4 from NX.out V4 hV4)
          clear NX hV4 ho3 hat3 hg3 q8'' q9'' hr SF HO2 q8 q9 q8' q9' rN b12 b01 b02 bw2 bw0 rr8 rr9 m1 m2 hyk' hyk hps n8 hosb HAT HJ1
          go_wp2_with fail
          go_light
          exact ⟨⟨k + 1, by omega, by have := HQK.out; go_num, NX4.out⟩, by have := HQK.out; simp [intOf]; omega⟩
      · have p1 : ¬ (q : Int) ≤ la := by rw [HQK.out]; exact fun h => hlt ((HYQ.out.1 k).2 h)
        obtain rfl : k = m := by omega
        obtain ⟨fa1, _, _, _, fa5⟩ := FACT.out wr hbut
        obtain ⟨z02, z23, z36, _⟩ := HSZ.out
        have sbut := hbut.size
        have l8 : ∀ j, j < 2 → wr.cell? ⟨w3.heap.size, 0 + j, none⟩ = some (seG n (.slice oa k oc) j) := fun j hj => by rw [Nat.zero_add]; exact r8.cell hj
        have HOSS : Hid (ownSpots wr w6.heap.size w3.heap.size (.slice oa k oc) k y) := (show ownSpots wr w6.heap.size w3.heap.size (.slice oa k oc) k y from hos)
        have FI : Hid (∀ V, But wr.heap.size w.heap.size wr V → showPost n x key w (.returned (.agg (rowV 2 (seG n (.slice oa k oc))))) V) := (show _ from fun V hV => by
          have sV := hV.size
          have hbV : Below w.heap.size w V := fa1.trans ((hV.mono fa1.size).below (Nat.le_refl _))
          exact DONE.out V _ hbV (HOSS.out.same (w' := V) (by omega) hV.size (fun j hj hn => hV.block j hj (by omega))).is)
        clear fa1 hbut r8 hos
        go_wp2_with (first | (refine wpList_load_w 29 (.tmp 8) rfl rfl w3.heap.size 0 2 (seG n (.slice oa k oc)) rfl _ Tryd.underlying29 rfl hiSe l8 ?_) | (refine wpList_store_row rfl 29 _ _ rfl rfl w.heap.size 0 2 (seG n (.slice oa k oc)) rfl rfl hiSe (seG_one _ _ _ _) _ _ _ fa5 (by omega) ?_; intro w9 r9 hz9 hb9))
        exact bodyPost_ret (results_cell_seg rfl _ _ w.heap.size 29 2 (seG n (.slice oa k oc)) _ rfl Tryd.underlying29 rfl hiSe (r9.congr fun i hi => by rw [if_pos (by omega), Nat.sub_zero])) rfl (by exact FI.out w9 hb9)
end Go.Proofs.YtkgegihkhdgdoaaDoor

/- rows of pairs of one's own. -/
namespace Go.Proofs.YtkgegihkhdgdoaaDoor
set_option linter.unusedSimpArgs false
set_option linter.unusedVariables false
open Go.RowKit Go.Deep

def c2 (u : Nat → Value) : List Value := [u 0, u 1]
theorem c2_get (u : Nat → Value) (j : Nat) (hj : j < 2) : (c2 u)[j]? = some (u j) := by
  match j, hj with
  | 0, _ => rfl
  | 1, _ => rfl
theorem c2s_get : ∀ (U : List (Nat → Value)) (i j : Nat) (u : Nat → Value), U[i]? = some u → j < 2 → (U.flatMap c2)[i * 2 + j]? = some (u j)
  | [], i, j, u, h, _ => by simp at h
  | y :: N, 0, j, u, h, hj => by
    have e : y = u := by simpa using h
    subst e
    rw [List.flatMap_cons, Nat.zero_mul, Nat.zero_add, List.getElem?_append_left (by rw [show (c2 y).length = 2 from rfl]; exact hj)]
    exact c2_get _ _ hj
  | y :: N, i + 1, j, u, h, hj => by
    rw [List.flatMap_cons, List.getElem?_append_right (by rw [show (c2 y).length = 2 from rfl]; omega), show (c2 y).length = 2 from rfl, show (i + 1) * 2 + j - 2 = i * 2 + j by omega]
    exact c2s_get N i j u (by simpa using h) hj
/-- one pair's cells hold it. -/
def pairIn (w : World) (u : Nat → Value) (s : Pr) : Prop := ∃ kc vc, u = prG kc vc ∧ anyBytes w kc s.1 ∧ anyBytes w vc s.2
/-- .. and go on to hold it while no block from B on turns but v's own. -/
def pairFar (w : World) (B : Nat) (v : Value) (u : Nat → Value) (s : Pr) : Prop := ∀ w', (w.heap.size ≤ w'.heap.size ∧ ∀ j, j < w.heap.size → ¬ v.ownBlock = some j → B ≤ j → w'.heap[j]? = w.heap[j]?) → pairIn w' u s
theorem pairFar.now {w : World} {B : Nat} {v : Value} {u : Nat → Value} {s : Pr} (h : pairFar w B v u s) : pairIn w u s := h w ⟨Nat.le_refl _, fun _ _ _ _ => rfl⟩
theorem pairFar.below {w w' : World} {C B : Nat} {v : Value} {u : Nat → Value} {s : Pr} (h : pairFar w B v u s) (hb : Below C w w') (hC : w.heap.size ≤ C) : pairFar w' B v u s := fun z hz =>
  h z ⟨Nat.le_trans hb.size hz.1, fun j hj hn hb' => (hz.2 j (Nat.lt_of_lt_of_le hj hb.size) hn hb').trans (hb.block j (by omega))⟩
/-- v is a row of k pairs, in memory of its own from B on. -/
def ownPairs (w : World) (B : Nat) (v : Value) (k : Nat) (x : Nat → Pr) : Prop :=
  ∃ U : List (Nat → Value), U.length = k ∧ w.ownsRow B 38 2 v k (U.flatMap c2) ∧ ∀ i, i < k → ∃ u, U[i]? = some u ∧ pairFar w B v u (x i)
theorem ownPairs.nil (w : World) (B : Nat) (x : Nat → Pr) : ownPairs w B (.slice none 0 0) 0 x := ⟨[], rfl, ⟨rfl, Or.inl ⟨rfl, rfl⟩⟩, fun i hi => by omega⟩
theorem ownPairs.is {w : World} {B : Nat} {v : Value} {k : Nat} {x : Nat → Pr} (h : ownPairs w B v k x) : pairsAt w v k x := by
  obtain ⟨U, hU, ho, hy⟩ := h
  obtain ⟨a, c, rfl, hc, hm, hg⟩ := ownsRow_slice ho
  refine ⟨a, c, rfl, hc, hm, fun i hi => ?_⟩
  obtain ⟨g, rfl, hlt, _, hcell⟩ := hg (by omega)
  obtain ⟨u, hu, hf⟩ := hy i hi
  obtain ⟨kc, vc, rfl, h1, h2⟩ := hf.now
  have hq := fun j hj => hcell _ _ (c2s_get U i j _ hu hj)
  refine ⟨g, 0, kc, vc, rfl, hlt, ?_, ?_, h1, h2⟩
  · have := hq 0 (by omega); rw [Nat.zero_add]; exact this
  · have := hq 1 (by omega); rw [Nat.zero_add]; exact this
theorem ownPairs.block {w : World} {B : Nat} {v : Value} {k : Nat} {x : Nat → Pr} (h : ownPairs w B v k x) (j : Nat) (hj : v.ownBlock = some j) : B ≤ j ∧ j < w.heap.size := by
  obtain ⟨U, _, ho, _⟩ := h
  exact ownsRow_block ho j hj
theorem ownPairs.below {w w' : World} {B C : Nat} {v : Value} {k : Nat} {x : Nat → Pr} (h : ownPairs w B v k x) (hb : Below C w w') (hC : w.heap.size ≤ C) : ownPairs w' B v k x := by
  obtain ⟨U, hU, ho, hy⟩ := h
  refine ⟨U, hU, ownsRow_far ho fun j hj => hb.block j (Nat.lt_of_lt_of_le (ownsRow_block ho j hj).2 hC), fun i hi => ?_⟩
  obtain ⟨u, hu, hs⟩ := hy i hi
  exact ⟨u, hu, hs.below hb hC⟩
theorem infoPr : (Tryd.prog.info? 38).map (fun i => (i.zero, i.size, i.bytes)) = some (some (.agg (rowV 2 prZ)), 2, 48) := by kernel_rfl
theorem build_pr1 (f : Nat → Value) (w : World) : (Instr.buildSlice 22 1 #[(0, .agg (rowV 2 f))]).run Tryd.prog w = .ok (.slice (some ⟨w.heap.size, 0, none⟩) 1 1) (w.alloc (.cells (rowV 2 f) 38)) := by
  show (_ : Result Value) = _
  kernel_rfl
theorem build_b0 (w : World) : (Instr.buildSlice 23 0 #[]).run Tryd.prog w = .ok (.slice (some ⟨w.heap.size, 0, none⟩) 0 0) (w.alloc (.cells #[] 5)) := by
  show (_ : Result Value) = _
  kernel_rfl
theorem exec_bslice0' {P : Program} {o : Oper} {ev : Operand → Value} {w w' : World} {v : Value} (t : TypeId) (n : Nat) (ho : o.op = .buildSlice t n #[])
    (hr : (Instr.buildSlice t n #[]).run P w = .ok v w') : (execOp ev o).run P w = .ok (.value v) w' := by
  unfold execOp
  simp only [ho, List.map_toArray, List.map_cons, List.map_nil, Sem.run_bind, hr, Result.andThen_ok, Sem.run_pure]
theorem newBytes.zero (w : World) (B : Nat) (hB : B ≤ w.heap.size) : newBytes (w.alloc (.cells #[] 5)) B (.slice (some ⟨w.heap.size, 0, none⟩) 0 0) [] :=
  ⟨⟨rfl, Or.inr ⟨w.heap.size, 0, #[], rfl, hB, blk_alloc_new _ _, Nat.le_refl _, by unfold maxLen; omega, rfl, rfl⟩⟩, fun i => by simp⟩
/-- append of one pair to pairs of one's own. -/
theorem pairs_append (w : World) (B : Nat) (v : Value) (k : Nat) (x : Nat → Pr) (hv : ownPairs w B v k x) (b : Nat) (u : Nat → Value) (hb : w.rowIs b 38 2 u) (hu : pairFar w B v u (x k)) (hn : k < 1000000) (hB : B ≤ w.heap.size) :
    ∃ v' w', (Builtin.append_ #[22, 22] 22 #[v, .slice (some ⟨b, 0, none⟩) 1 1]).run Tryd.prog w = .ok v' w' ∧ ownPairs w' B v' (k + 1) x ∧ w.grownBy w' v.ownBlock ∧ (v'.ownBlock = v.ownBlock ∨ v'.ownBlock = some w.heap.size) := by
  obtain ⟨U, hU, ho, hy⟩ := hv
  have h4 : ∀ j, j < 2 → (u j).oneCell' = true := by
    obtain ⟨kc, vc, rfl, h1, h2⟩ := hu.now
    obtain ⟨ka, kcap, rfl, _⟩ := h1.slice
    obtain ⟨va, vcap, rfl, _⟩ := h2.slice
    exact prG_one _ _ _ _ _ _
  obtain ⟨a', c', w', hr, ho', hg, hat⟩ := row_append (P := Tryd.prog) w 22 22 38 _ 2 48 Tryd.underlying22 infoPr (by simp [Value.cells, rowV_size]) (by omega)
    B v k _ ho (.slice (some ⟨b, 0, none⟩) 1 1) 1 (c2 u) rfl
    ⟨_, _, rfl, fun _ => ⟨b, 0, rfl, fun j x hj => by
      have hl : j < 2 := (List.getElem?_eq_some_iff.1 hj).1
      rw [c2_get _ _ hl] at hj
      rw [Nat.zero_add, ← Option.some.inj hj]; exact hb.cell hl⟩⟩
    (fun x hx => by
      obtain ⟨j, hj, rfl⟩ := List.mem_iff_getElem.1 hx
      have hl : j < 2 := hj
      have := c2_get u j hl
      rw [List.getElem?_eq_getElem hj] at this
      rw [Option.some.inj this]; exact h4 j hl) (by unfold maxLen; omega) (by omega) hB
  have hfar : ∀ (u' : Nat → Value) (s : Pr), pairFar w B v u' s → pairFar w' B (.slice a' (k + 1) c') u' s := fun u' s h z hz => h z ⟨Nat.le_trans hg.size hz.1, fun j hj hn hne => by
    have h1 := hg.block j hj (fun e => hn e.symm)
    refine (hz.2 j (Nat.lt_of_lt_of_le hj hg.size) (fun e => ?_) hne).trans h1
    rcases hat with h | h
    · rw [h] at e; exact hn e
    · rw [h] at e; have := Option.some.inj e; omega⟩
  refine ⟨_, w', hr, ⟨U ++ [u], by simp [hU], ?_, fun i hi => ?_⟩, hg, hat⟩
  · rw [List.flatMap_append, show [u].flatMap c2 = c2 u from List.append_nil _]; exact ho'
  · by_cases e : i < k
    · obtain ⟨u', hu', hf⟩ := hy i e
      exact ⟨u', by rw [List.getElem?_append_left (by omega)]; exact hu', hfar _ _ hf⟩
    · obtain rfl : i = k := by omega
      exact ⟨u, by rw [List.getElem?_append_right (by omega), hU, Nat.sub_self]; rfl, hfar _ _ hu⟩
/-- the two copies of a pair's parts, how far they are: none, an empty one, the whole. -/
def pq (wr W : World) (k v : Option (Value × List Int)) : Prop :=
  Below wr.heap.size wr W ∧ (∀ u l, k = some (u, l) → newBytes W wr.heap.size u l) ∧ (∀ u l, v = some (u, l) → newBytes W wr.heap.size u l) ∧ ∀ a la b lb, k = some (a, la) → v = some (b, lb) → ∀ j, a.ownBlock = some j → ¬ b.ownBlock = some j
theorem pq.swap {wr W : World} {k v : Option (Value × List Int)} (h : pq wr W k v) : pq wr W v k := ⟨h.1, h.2.2.1, h.2.1, fun a la b lb h1 h2 j hj hb => h.2.2.2 b lb a la h2 h1 j hb hj⟩
theorem pq.make {wr W : World} {v : Option (Value × List Int)} (h : pq wr W none v) : pq wr (W.alloc (.cells #[] 5)) (some (.slice (some ⟨W.heap.size, 0, none⟩) 0 0, [])) v := by
  have hb : Below W.heap.size W (W.alloc (.cells #[] 5)) := (Below.refl _ _).alloc (Nat.le_refl _) _
  have hs := h.1.size
  refine ⟨h.1.trans (hb.mono hs), fun u l e => ?_, fun u l e => (h.2.2.1 u l e).below hb (Nat.le_refl _), fun a la b lb e1 e2 j hj hk => ?_⟩
  · have e' := Option.some.inj e
    rw [← (Prod.mk.inj e').1, ← (Prod.mk.inj e').2]
    exact newBytes.zero W _ hs
  · have e' := Option.some.inj e1
    rw [← (Prod.mk.inj e').1] at hj
    have : W.heap.size = j := by simpa [Value.ownBlock] using hj
    have := ((h.2.2.1 b lb e2).block j hk).2
    omega
theorem pq.fill {wr W : World} {u y : Value} {m : List Int} {v : Option (Value × List Int)} (h : pq wr W (some (u, [])) v) (hy : anyBytes W y m) (hm : m.length ≤ 1000000) : ∃ u' W', (Builtin.append_ #[23, 23] 23 #[u, y]).run Tryd.prog W = .ok u' W' ∧ pq wr W' (some (u', m)) v := by
  have hn := h.2.1 u [] rfl
  obtain ⟨u', W', hr, hn', hg, hat⟩ := any_append_run W wr.heap.size u y [] m hn hy (by simp; omega) h.1.size
  have hb := below_grown hg (fun k hk => (hn.block k hk).1) h.1.size
  refine ⟨u', W', hr, h.1.trans hb, fun a l e => ?_, fun b lb e => ?_, fun a la b lb e1 e2 j hj hk => ?_⟩
  · have e' := Option.some.inj e
    rw [← (Prod.mk.inj e').1, ← (Prod.mk.inj e').2]
    rw [List.nil_append] at hn'; exact hn'
  · have h1 := h.2.2.1 b lb e
    exact h1.apart fun j hj => hg.block j (h1.block j hj).2 (fun e' => h.2.2.2 u [] b lb rfl e j e'.symm hj)
  · have e' := Option.some.inj e1
    rw [← (Prod.mk.inj e').1] at hj
    have h1 := h.2.2.1 b lb e2
    rcases hat with ha | ha
    · rw [ha] at hj; exact h.2.2.2 u [] b lb rfl e2 j hj hk
    · rw [ha] at hj; have := Option.some.inj hj; have := (h1.block j hk).2; omega
end Go.Proofs.YtkgegihkhdgdoaaDoor

/- The document's copy of pairs. -/
namespace Go.Proofs.YtkgegihkhdgdoaaDoor
set_option linter.unusedSimpArgs false
set_option linter.unusedVariables false
open Go.RowKit Go.Deep

set_option maxHeartbeats 8000000 in
set_option maxRecDepth 100000 in
theorem rpairs_any (n : Nat) (v : Value) (x : Nat → Pr) (w : World) (hp : pairsAt w v n x) (hn : n ≤ 1000) (hx : ∀ i, i < n → (x i).1.length + (x i).2.length ≤ 1000000) :
    Calls Tryd.prog 11 #[v] w fun e w' => ∃ u, e = .returned u ∧ ownPairs w' w.heap.size u n x ∧ Below w.heap.size w w' := by
  obtain ⟨a, cap, hv, hnc, hcm, _⟩ := (id hp : pairsAt w v n x)
  have hnm : (n : Int) ≤ 1000 := by omega
  have HP : Hid (pairsAt w v n x) := (show pairsAt w v n x from hp)
  have HX : Hid (∀ i, i < n → (x i).1.length + (x i).2.length ≤ 1000000) := (show _ from hx)
  subst hv
  have hn0 : (0 : Int) ≤ (n : Int) := by omega
  clear hp hnc hcm hx
  go_enter Tryd.func11, Tryd.ntmps11
  go_wp2_with fail
  go_loopw [3, 4] (fun vv i wr => ∃ (q : Nat) (oa : Option Addr) (oc : Nat), q ≤ n ∧ vv = .slice oa q oc ∧ i = .int .i64 (q : Int) ∧ ownPairs wr w.heap.size (.slice oa q oc) q x ∧ Below w.heap.size w wr) (fun _ i _ => n - (intOf i).toNat)
  case atStart => exact ⟨0, none, 0, by omega, rfl, rfl, ownPairs.nil _ _ _, Below.refl _ _⟩
  case round =>
    obtain ⟨q, oa, oc, hqn, rfl, rfl, hos, hbr⟩ := hrel
    have q0 : (0 : Int) ≤ (q : Int) := by omega
    have HBR : Hid (Below w.heap.size w wr) := (show Below w.heap.size w wr from hbr)
    have HOS : Hid (ownPairs wr w.heap.size (.slice oa q oc) q x) := (show _ from hos)
    clear hos
    by_cases hlt : q < n
    · have q1 : (q : Int) < (n : Int) := by omega
      obtain ⟨g, o, cap', e, hg, _, _, hcell⟩ := HP.out.at (by omega)
      injection e with e1 e2 e3
      subst e1
      subst e3
      obtain ⟨ka, kcap, va, vcap, H⟩ := hcell q hlt
      have FC : Hid (∀ wz, Below w.heap.size w wz → wz.cell? ⟨g, o + q * 2, none⟩ = some (.slice ka (x q).1.length kcap) ∧ wz.cell? ⟨g, o + q * 2 + 1, none⟩ = some (.slice va (x q).2.length vcap)) := (show _ from fun wz hz => ⟨(H wz hz).1, (H wz hz).2.1⟩)
      have FA : Hid (∀ wz, Below w.heap.size w wz → anyBytes wz (.slice ka (x q).1.length kcap) (x q).1 ∧ anyBytes wz (.slice va (x q).2.length vcap) (x q).2) := (show _ from fun wz hz => ⟨(H wz hz).2.2.1, (H wz hz).2.2.2⟩)
      have HXQ : Hid ((x q).1.length + (x q).2.length ≤ 1000000) := (show _ from HX.out q hlt)
      clear hcell H hbr hg
      go_upto_region 5 with fail
      have BD : Below wr.heap.size wr wr.drew := (Below.refl _ _).drew
      have H : pq wr wr.drew none none := ⟨BD, (fun u l h => by cases h), (fun u l h => by cases h), fun a la b lb h => by cases h⟩
      refine wp_region_noPanic ?_
      refine wp_region_held_drew (S := fun w' => Below w.heap.size w w') (by kernel_rfl) (HBR.out.trans (BD.mono HBR.out.size)) (fun hHeld => ?_)
      clear BD
      generalize wr.drew = W at hHeld H ⊢
      refine take_op (i := 0) (v := ?va0) rfl (by kernel_rfl) (by kernel_rfl) (by kernel_rfl) (fun _ _ _ h => h) rfl hHeld ?ya0 ?ra0
      case ya0 => (intro wz hz; go_simp; first | done | with_reducible rfl)
      try simp only [Act.put, List.setIfInBounds_toArray, List.set_cons_zero, List.set_cons_succ]
      refine take_op (i := 2) (v := ?va2) rfl (by kernel_rfl) (by kernel_rfl) (by kernel_rfl) (fun _ _ _ h => h) rfl hHeld ?ya2 ?ra2
      case ya2 => (intro wz hz; go_simp; first | done | with_reducible rfl)
      try simp only [Act.put, List.setIfInBounds_toArray, List.set_cons_zero, List.set_cons_succ]
      refine take_op (i := 3) (v := ?va3) rfl (by kernel_rfl) (by kernel_rfl) (by kernel_rfl) (fun _ _ _ h => h) rfl hHeld ?ya3 ?ra3
      case ya3 => (intro wz hz; go_simp; first | done | with_reducible rfl)
      try simp only [Act.put, List.setIfInBounds_toArray, List.set_cons_zero, List.set_cons_succ]
      refine take_op (i := 4) (v := ?va4) rfl (by kernel_rfl) (by kernel_rfl) (by kernel_rfl) (fun _ _ _ h => h) rfl hHeld ?ya4 ?ra4
      case ya4 => (intro wz hz; go_simp; first | done | with_reducible rfl)
      try simp only [Act.put, List.setIfInBounds_toArray, List.set_cons_zero, List.set_cons_succ]
      refine take_op (i := 5) (v := ?va5) rfl (by kernel_rfl) (by kernel_rfl) (by kernel_rfl) (fun _ _ _ h => h) rfl hHeld ?ya5 ?ra5
      case ya5 => (intro wz hz; go_simp; first | done | with_reducible rfl)
      try simp only [Act.put, List.setIfInBounds_toArray, List.set_cons_zero, List.set_cons_succ]
      refine take_op (i := 6) (v := ?va6) rfl (by kernel_rfl) (by kernel_rfl) (by kernel_rfl) (fun _ _ _ h => h) rfl hHeld ?ya6 ?ra6
      case ya6 => (intro wz hz; have hcz := (FC.out wz hz).1; go_simp; first | done | with_reducible rfl)
      try simp only [Act.put, List.setIfInBounds_toArray, List.set_cons_zero, List.set_cons_succ]
      refine take_op (i := 9) (v := ?va9) rfl (by kernel_rfl) (by kernel_rfl) (by kernel_rfl) (fun _ _ _ h => h) rfl hHeld ?ya9 ?ra9
      case ya9 => (intro wz hz; go_simp; first | done | with_reducible rfl)
      try simp only [Act.put, List.setIfInBounds_toArray, List.set_cons_zero, List.set_cons_succ]
      refine take_op (i := 10) (v := ?va10) rfl (by kernel_rfl) (by kernel_rfl) (by kernel_rfl) (fun _ _ _ h => h) rfl hHeld ?ya10 ?ra10
      case ya10 => (intro wz hz; go_simp; first | done | with_reducible rfl)
      try simp only [Act.put, List.setIfInBounds_toArray, List.set_cons_zero, List.set_cons_succ]
      refine take_op (i := 11) (v := ?va11) rfl (by kernel_rfl) (by kernel_rfl) (by kernel_rfl) (fun _ _ _ h => h) rfl hHeld ?ya11 ?ra11
      case ya11 => (intro wz hz; go_simp; first | done | with_reducible rfl)
      try simp only [Act.put, List.setIfInBounds_toArray, List.set_cons_zero, List.set_cons_succ]
      refine take_op (i := 12) (v := ?va12) rfl (by kernel_rfl) (by kernel_rfl) (by kernel_rfl) (fun _ _ _ h => h) rfl hHeld ?ya12 ?ra12
      case ya12 => (intro wz hz; go_simp; first | done | with_reducible rfl)
      try simp only [Act.put, List.setIfInBounds_toArray, List.set_cons_zero, List.set_cons_succ]
      refine take_op (i := 13) (v := ?va13) rfl (by kernel_rfl) (by kernel_rfl) (by kernel_rfl) (fun _ _ _ h => h) rfl hHeld ?ya13 ?ra13
      case ya13 => (intro wz hz; have hcz := (FC.out wz hz).2; go_simp; first | done | with_reducible rfl)
      try simp only [Act.put, List.setIfInBounds_toArray, List.set_cons_zero, List.set_cons_succ]
      refine regionKK (fun G hG => ?_)
      refine actKK (p := fun a => G 8 _ a W) (fun a0 ha0 => ?_)
      refine listKK (p := fun l => G 8 l a0 W) (fun l0 hl0 => ?_)
      have HG : Hid _ := hG
      have HA0 : Hid _ := ha0
      have HL0 : Hid _ := hl0
      clear hG ha0 hl0 hHeld
      have ST22 : Hid (∀ (p1 : Nat), ∀ (ua : Option Addr) (uc : Nat), ∀ (p2 : Nat), ∀ (va2 : Option Addr) (vc2 : Nat), ∀ W : World, pq wr W (some ((.slice ua (x q).1.length uc), (x q).1)) (some ((.slice va2 (x q).2.length vc2), (x q).2)) → G 4 ((((l0.setIfInBounds 1 true).setIfInBounds 7 true).setIfInBounds 8 true).setIfInBounds 14 true) ((((a0.put (some 12) (.slice (some ⟨p1, 0, none⟩) 0 0)).put (some 18) (.slice ua (x q).1.length uc)).put (some 19) (.slice (some ⟨p2, 0, none⟩) 0 0)).put (some 25) (.slice va2 (x q).2.length vc2)) W) := (show ∀ (p1 : Nat), ∀ (ua : Option Addr) (uc : Nat), ∀ (p2 : Nat), ∀ (va2 : Option Addr) (vc2 : Nat), ∀ W : World, pq wr W (some ((.slice ua (x q).1.length uc), (x q).1)) (some ((.slice va2 (x q).2.length vc2), (x q).2)) → G 4 ((((l0.setIfInBounds 1 true).setIfInBounds 7 true).setIfInBounds 8 true).setIfInBounds 14 true) ((((a0.put (some 12) (.slice (some ⟨p1, 0, none⟩) 0 0)).put (some 18) (.slice ua (x q).1.length uc)).put (some 19) (.slice (some ⟨p2, 0, none⟩) 0 0)).put (some 25) (.slice va2 (x q).2.length vc2)) W from by
        intro p1 ua uc p2 va2 vc2 W H
        rw [HA0.out, HL0.out, HG.out]
        try simp only [Act.put, List.setIfInBounds_toArray, List.set_cons_zero, List.set_cons_succ]
        have hHeld : Below w.heap.size w W := HBR.out.trans (H.1.mono HBR.out.size)
        refine take_op (i := 15) (v := .agg (rowV 2 (prG (.slice ua (x q).1.length uc) (.slice va2 (x q).2.length vc2)))) rfl (by kernel_rfl) (by kernel_rfl) (by kernel_rfl) (fun _ _ _ h => h) rfl hHeld (fun wz hz => exec_build2 38 0 1 (.tmp 18) (.tmp 25) (.slice ua (x q).1.length uc) (.slice va2 (x q).2.length vc2) rfl rfl rfl (build_pr ua va2 (x q).1.length uc (x q).2.length vc2 wz)) ?_
        try simp only [Act.put, List.setIfInBounds_toArray, List.set_cons_zero, List.set_cons_succ]
        refine take_one (i := 16) rfl (by kernel_rfl) rfl (fun K hK => ?_)
        refine wp_of_run (exec_bslice1' 22 1 0 (.tmp 26) (.agg (rowV 2 (prG (.slice ua (x q).1.length uc) (.slice va2 (x q).2.length vc2)))) rfl rfl (build_pr1 (prG (.slice ua (x q).1.length uc) (.slice va2 (x q).2.length vc2)) W)) ?_
        obtain ⟨W2, hW2⟩ : ∃ W2, W2 = W.alloc (.cells (rowV 2 (prG (.slice ua (x q).1.length uc) (.slice va2 (x q).2.length vc2))) 38) := ⟨_, rfl⟩
        have b12 : Below W.heap.size W W2 := by rw [hW2]; exact (Below.refl _ _).alloc (Nat.le_refl _) _
        have rN : W2.rowIs W.heap.size 38 2 (prG (.slice ua (x q).1.length uc) (.slice va2 (x q).2.length vc2)) := by rw [hW2]; exact rowIs_box _ _ _ _
        rw [← hW2]
        clear hW2
        have bw2 : Below wr.heap.size wr W2 := H.1.trans (b12.mono H.1.size)
        have bww : Below w.heap.size w W2 := HBR.out.trans (bw2.mono HBR.out.size)
        refine hK.out _ _ bww (fun hHeld2 => ?_)
        clear hK K
        try simp only [Act.put, List.setIfInBounds_toArray, List.set_cons_zero, List.set_cons_succ]
        have HO2 : ownPairs W2 w.heap.size (.slice oa q oc) q x := HOS.out.below bw2 (Nat.le_refl _)
        have e1 : newBytes W2 wr.heap.size (.slice ua (x q).1.length uc) (x q).1 := (H.2.1 _ _ rfl).below b12 (Nat.le_refl _)
        have e2 : newBytes W2 wr.heap.size (.slice va2 (x q).2.length vc2) (x q).2 := (H.2.2.1 _ _ rfl).below b12 (Nat.le_refl _)
        have PF : pairFar W2 w.heap.size (.slice oa q oc) (prG (.slice ua (x q).1.length uc) (.slice va2 (x q).2.length vc2)) (x q) := fun z hz => by
          have hs := HBR.out.size
          have far : ∀ j, wr.heap.size ≤ j → j < W2.heap.size → z.heap[j]? = W2.heap[j]? := fun j h1 h2 => hz.2 j h2 (fun e => by have := (HOS.out.block j e).2; omega) (by omega)
          exact ⟨_, _, rfl, Or.inl (e1.apart fun j hj => far j (e1.block j hj).1 (e1.block j hj).2).is, Or.inl (e2.apart fun j hj => far j (e2.block j hj).1 (e2.block j hj).2).is⟩
        obtain ⟨v', V3, hr, ho3, hg3, hat3⟩ := pairs_append W2 w.heap.size (.slice oa q oc) q x HO2 W.heap.size (prG (.slice ua (x q).1.length uc) (.slice va2 (x q).2.length vc2)) rN PF (by omega) bww.size
        have b3 : Below w.heap.size w V3 := bww.trans (below_grown hg3 (fun k hk => (HO2.block k hk).1) bww.size)
        refine take_one (i := 17) rfl (by kernel_rfl) rfl (fun K hK => ?_)
        refine wp_append_run (.tmp 11) (.tmp 27) 22 rfl rfl rfl hr ?_
        refine hK.out _ _ b3 (fun hHeld3 => ?_)
        clear hK K
        try simp only [Act.put, List.setIfInBounds_toArray, List.set_cons_zero, List.set_cons_succ]
        have hsv : ∃ na nc, v' = .slice na (q + 1) nc := by
          obtain ⟨na, nc, e, _⟩ := ho3.is
          exact ⟨na, nc, e⟩
        obtain ⟨na, nc, rfl⟩ := hsv
        refine take_op (i := 18) (v := ?vz) rfl (by kernel_rfl) (by kernel_rfl) (by kernel_rfl) (fun _ _ _ h => h) rfl hHeld3 ?yz ?rz
        case yz => (intro wz hz; go_simp; first | done | with_reducible rfl)
        try simp only [Act.put, List.setIfInBounds_toArray, List.set_cons_zero, List.set_cons_succ]
        refine wpAnyH_done (by kernel_rfl) ?_ _
        refine NoPanic.normal ?_
        have FIN : Hid (ownPairs V3 w.heap.size (.slice na (q + 1) nc) (q + 1) x ∧ Below w.heap.size w V3) := (show _ ∧ _ from ⟨ho3, b3⟩)
        clear hHeld hHeld2 hHeld3 H b12 rN bw2 bww HO2 e1 e2 PF hr ho3 hg3 hat3 b3
        go_wp2
        exact ⟨⟨q + 1, na, nc, by omega, rfl, by go_num, FIN.out.1, FIN.out.2⟩, by simp [intOf]; omega⟩)
      have ST21 : Hid (∀ (p1 : Nat), ∀ (ua : Option Addr) (uc : Nat), ∀ (p2 : Nat), ∀ W : World, pq wr W (some ((.slice ua (x q).1.length uc), (x q).1)) (some ((.slice (some ⟨p2, 0, none⟩) 0 0), [])) → G 5 (((l0.setIfInBounds 1 true).setIfInBounds 7 true).setIfInBounds 8 true) (((a0.put (some 12) (.slice (some ⟨p1, 0, none⟩) 0 0)).put (some 18) (.slice ua (x q).1.length uc)).put (some 19) (.slice (some ⟨p2, 0, none⟩) 0 0)) W) := (show ∀ (p1 : Nat), ∀ (ua : Option Addr) (uc : Nat), ∀ (p2 : Nat), ∀ W : World, pq wr W (some ((.slice ua (x q).1.length uc), (x q).1)) (some ((.slice (some ⟨p2, 0, none⟩) 0 0), [])) → G 5 (((l0.setIfInBounds 1 true).setIfInBounds 7 true).setIfInBounds 8 true) (((a0.put (some 12) (.slice (some ⟨p1, 0, none⟩) 0 0)).put (some 18) (.slice ua (x q).1.length uc)).put (some 19) (.slice (some ⟨p2, 0, none⟩) 0 0)) W from by
        intro p1 ua uc p2 W H
        rw [HA0.out, HL0.out, HG.out]
        try simp only [Act.put, List.setIfInBounds_toArray, List.set_cons_zero, List.set_cons_succ]
        refine take_one (i := 14) rfl (by kernel_rfl) rfl (fun K hK => ?_)
        obtain ⟨u, W2, hr, H2⟩ := H.swap.fill (FA.out W (HBR.out.trans (H.1.mono HBR.out.size))).2 (by have := HXQ.out; omega)
        replace H2 := H2.swap
        obtain ⟨va2, vc2, rfl⟩ := (H2.2.2.1 _ _ rfl).slen
        refine wp_append_run (.tmp 19) (.tmp 24) 23 rfl rfl rfl hr ?_
        refine hK.out _ _ (HBR.out.trans (H2.1.mono HBR.out.size)) (fun hHeld => ?_)
        try simp only [Act.put, List.setIfInBounds_toArray, List.set_cons_zero, List.set_cons_succ]
        have T := ST22.out p1 ua uc p2 va2 vc2 W2 H2
        rw [HA0.out, HL0.out, HG.out] at T
        try simp only [Act.put, List.setIfInBounds_toArray, List.set_cons_zero, List.set_cons_succ] at T
        exact lcongK (by kernel_rfl) T)
      have ST20 : Hid (∀ (p1 : Nat), ∀ (ua : Option Addr) (uc : Nat), ∀ W : World, pq wr W (some ((.slice ua (x q).1.length uc), (x q).1)) none → G 6 ((l0.setIfInBounds 1 true).setIfInBounds 7 true) ((a0.put (some 12) (.slice (some ⟨p1, 0, none⟩) 0 0)).put (some 18) (.slice ua (x q).1.length uc)) W) := (show ∀ (p1 : Nat), ∀ (ua : Option Addr) (uc : Nat), ∀ W : World, pq wr W (some ((.slice ua (x q).1.length uc), (x q).1)) none → G 6 ((l0.setIfInBounds 1 true).setIfInBounds 7 true) ((a0.put (some 12) (.slice (some ⟨p1, 0, none⟩) 0 0)).put (some 18) (.slice ua (x q).1.length uc)) W from by
        intro p1 ua uc W H
        rw [HA0.out, HL0.out, HG.out]
        try simp only [Act.put, List.setIfInBounds_toArray, List.set_cons_zero, List.set_cons_succ]
        refine take_one (i := 8) rfl (by kernel_rfl) rfl (fun K hK => ?_)
        refine wp_of_run (exec_bslice0' 23 0 rfl (build_b0 W)) ?_
        have H2 := (H.swap.make).swap
        refine hK.out _ _ (HBR.out.trans (H2.1.mono HBR.out.size)) (fun hHeld => ?_)
        try simp only [Act.put, List.setIfInBounds_toArray, List.set_cons_zero, List.set_cons_succ]
        have T := ST21.out p1 ua uc W.heap.size (W.alloc (.cells #[] 5)) H2
        rw [HA0.out, HL0.out, HG.out] at T
        try simp only [Act.put, List.setIfInBounds_toArray, List.set_cons_zero, List.set_cons_succ] at T
        exact lcongK (by kernel_rfl) T)
      have ST11 : Hid (∀ (p1 : Nat), ∀ (p2 : Nat), ∀ W : World, pq wr W (some ((.slice (some ⟨p1, 0, none⟩) 0 0), [])) (some ((.slice (some ⟨p2, 0, none⟩) 0 0), [])) → G 6 ((l0.setIfInBounds 1 true).setIfInBounds 8 true) ((a0.put (some 12) (.slice (some ⟨p1, 0, none⟩) 0 0)).put (some 19) (.slice (some ⟨p2, 0, none⟩) 0 0)) W) := (show ∀ (p1 : Nat), ∀ (p2 : Nat), ∀ W : World, pq wr W (some ((.slice (some ⟨p1, 0, none⟩) 0 0), [])) (some ((.slice (some ⟨p2, 0, none⟩) 0 0), [])) → G 6 ((l0.setIfInBounds 1 true).setIfInBounds 8 true) ((a0.put (some 12) (.slice (some ⟨p1, 0, none⟩) 0 0)).put (some 19) (.slice (some ⟨p2, 0, none⟩) 0 0)) W from by
        intro p1 p2 W H
        rw [HA0.out, HL0.out, HG.out]
        try simp only [Act.put, List.setIfInBounds_toArray, List.set_cons_zero, List.set_cons_succ]
        refine take_one (i := 7) rfl (by kernel_rfl) rfl (fun K hK => ?_)
        obtain ⟨u, W2, hr, H2⟩ := H.fill (FA.out W (HBR.out.trans (H.1.mono HBR.out.size))).1 (by have := HXQ.out; omega)
        obtain ⟨ua, uc, rfl⟩ := (H2.2.1 _ _ rfl).slen
        refine wp_append_run (.tmp 12) (.tmp 17) 23 rfl rfl rfl hr ?_
        refine hK.out _ _ (HBR.out.trans (H2.1.mono HBR.out.size)) (fun hHeld => ?_)
        try simp only [Act.put, List.setIfInBounds_toArray, List.set_cons_zero, List.set_cons_succ]
        have T := ST21.out p1 ua uc p2 W2 H2
        rw [HA0.out, HL0.out, HG.out] at T
        try simp only [Act.put, List.setIfInBounds_toArray, List.set_cons_zero, List.set_cons_succ] at T
        exact lcongK (by kernel_rfl) T)
      have ST10 : Hid (∀ (p1 : Nat), ∀ W : World, pq wr W (some ((.slice (some ⟨p1, 0, none⟩) 0 0), [])) none → G 7 (l0.setIfInBounds 1 true) (a0.put (some 12) (.slice (some ⟨p1, 0, none⟩) 0 0)) W) := (show ∀ (p1 : Nat), ∀ W : World, pq wr W (some ((.slice (some ⟨p1, 0, none⟩) 0 0), [])) none → G 7 (l0.setIfInBounds 1 true) (a0.put (some 12) (.slice (some ⟨p1, 0, none⟩) 0 0)) W from by
        intro p1 W H
        rw [HA0.out, HL0.out, HG.out]
        try simp only [Act.put, List.setIfInBounds_toArray, List.set_cons_zero, List.set_cons_succ]
        refine take_pair (i := 7) (j := 8) rfl rfl (by kernel_rfl) rfl rfl (fun K hK => ?_) (fun K hK => ?_)
        · obtain ⟨u, W2, hr, H2⟩ := H.fill (FA.out W (HBR.out.trans (H.1.mono HBR.out.size))).1 (by have := HXQ.out; omega)
          obtain ⟨ua, uc, rfl⟩ := (H2.2.1 _ _ rfl).slen
          refine wp_append_run (.tmp 12) (.tmp 17) 23 rfl rfl rfl hr ?_
          refine hK.out _ _ (HBR.out.trans (H2.1.mono HBR.out.size)) (fun hHeld => ?_)
          try simp only [Act.put, List.setIfInBounds_toArray, List.set_cons_zero, List.set_cons_succ]
          have T := ST20.out p1 ua uc W2 H2
          rw [HA0.out, HL0.out, HG.out] at T
          try simp only [Act.put, List.setIfInBounds_toArray, List.set_cons_zero, List.set_cons_succ] at T
          exact lcongK (by kernel_rfl) T
        · refine wp_of_run (exec_bslice0' 23 0 rfl (build_b0 W)) ?_
          have H2 := (H.swap.make).swap
          refine hK.out _ _ (HBR.out.trans (H2.1.mono HBR.out.size)) (fun hHeld => ?_)
          try simp only [Act.put, List.setIfInBounds_toArray, List.set_cons_zero, List.set_cons_succ]
          have T := ST11.out p1 W.heap.size (W.alloc (.cells #[] 5)) H2
          rw [HA0.out, HL0.out, HG.out] at T
          try simp only [Act.put, List.setIfInBounds_toArray, List.set_cons_zero, List.set_cons_succ] at T
          exact lcongK (by kernel_rfl) T)
      have ST01 : Hid (∀ (p2 : Nat), ∀ W : World, pq wr W none (some ((.slice (some ⟨p2, 0, none⟩) 0 0), [])) → G 7 (l0.setIfInBounds 8 true) (a0.put (some 19) (.slice (some ⟨p2, 0, none⟩) 0 0)) W) := (show ∀ (p2 : Nat), ∀ W : World, pq wr W none (some ((.slice (some ⟨p2, 0, none⟩) 0 0), [])) → G 7 (l0.setIfInBounds 8 true) (a0.put (some 19) (.slice (some ⟨p2, 0, none⟩) 0 0)) W from by
        intro p2 W H
        rw [HA0.out, HL0.out, HG.out]
        try simp only [Act.put, List.setIfInBounds_toArray, List.set_cons_zero, List.set_cons_succ]
        refine take_one (i := 1) rfl (by kernel_rfl) rfl (fun K hK => ?_)
        refine wp_of_run (exec_bslice0' 23 0 rfl (build_b0 W)) ?_
        have H2 := H.make
        refine hK.out _ _ (HBR.out.trans (H2.1.mono HBR.out.size)) (fun hHeld => ?_)
        try simp only [Act.put, List.setIfInBounds_toArray, List.set_cons_zero, List.set_cons_succ]
        have T := ST11.out W.heap.size p2 (W.alloc (.cells #[] 5)) H2
        rw [HA0.out, HL0.out, HG.out] at T
        try simp only [Act.put, List.setIfInBounds_toArray, List.set_cons_zero, List.set_cons_succ] at T
        exact lcongK (by kernel_rfl) T)
      have ST00 : Hid (∀ W : World, pq wr W none none → G 8 l0 a0 W) := (show ∀ W : World, pq wr W none none → G 8 l0 a0 W from by
        intro W H
        rw [HA0.out, HL0.out, HG.out]
        try simp only [Act.put, List.setIfInBounds_toArray, List.set_cons_zero, List.set_cons_succ]
        refine take_pair (i := 1) (j := 8) rfl rfl (by kernel_rfl) rfl rfl (fun K hK => ?_) (fun K hK => ?_)
        · refine wp_of_run (exec_bslice0' 23 0 rfl (build_b0 W)) ?_
          have H2 := H.make
          refine hK.out _ _ (HBR.out.trans (H2.1.mono HBR.out.size)) (fun hHeld => ?_)
          try simp only [Act.put, List.setIfInBounds_toArray, List.set_cons_zero, List.set_cons_succ]
          have T := ST10.out W.heap.size (W.alloc (.cells #[] 5)) H2
          rw [HA0.out, HL0.out, HG.out] at T
          try simp only [Act.put, List.setIfInBounds_toArray, List.set_cons_zero, List.set_cons_succ] at T
          exact lcongK (by kernel_rfl) T
        · refine wp_of_run (exec_bslice0' 23 0 rfl (build_b0 W)) ?_
          have H2 := (H.swap.make).swap
          refine hK.out _ _ (HBR.out.trans (H2.1.mono HBR.out.size)) (fun hHeld => ?_)
          try simp only [Act.put, List.setIfInBounds_toArray, List.set_cons_zero, List.set_cons_succ]
          have T := ST01.out W.heap.size (W.alloc (.cells #[] 5)) H2
          rw [HA0.out, HL0.out, HG.out] at T
          try simp only [Act.put, List.setIfInBounds_toArray, List.set_cons_zero, List.set_cons_succ] at T
          exact lcongK (by kernel_rfl) T)
      exact ST00.out W H
    · obtain rfl : q = n := by omega
      have q1 : ¬ (q : Int) < (q : Int) := by omega
      clear hbr
      go_wp2
      go_ret
      exact ⟨_, rfl, HOS.out, HBR.out⟩
end Go.Proofs.YtkgegihkhdgdoaaDoor

/- A copy of a row of sums; clear of a row of sums. -/
namespace Go.Proofs.YtkgegihkhdgdoaaDoor
set_option linter.unusedSimpArgs false
set_option linter.unusedVariables false
open Go.RowKit Go.Deep

/-- append([]api.Sum{}, l...): the copy. -/
theorem copy_sums (w : World) (L : List (List Int)) (v : Value) (h : sumsAt w v L) (hL : L.length ≤ 1000) :
    ∃ a c w', (Builtin.append_ #[39, 39] 39 #[.slice (some ⟨w.heap.size, 0, none⟩) 0 0, v]).run Tryd.prog (w.alloc (.cells #[] 32)) = .ok (.slice a L.length c) w' ∧ newSums w' w.heap.size (.slice a L.length c) L ∧ Below w.heap.size w w' := by
  have ba : Below w.heap.size w (w.alloc (.cells #[] 32)) := (Below.refl _ _).alloc (Nat.le_refl _) _
  have h0 : newSums (w.alloc (.cells #[] 32)) w.heap.size (.slice (some ⟨w.heap.size, 0, none⟩) 0 0) [] := ⟨fun x hx => by simp at hx, ownsRow_empty _ _ _ _ _ (blk_alloc_new w _) (Nat.le_refl _)⟩
  obtain ⟨a, c, w', hr, hn, hg, _⟩ := sums_append (w.alloc (.cells #[] 32)) w.heap.size _ [] h0 v L (h.below ba (Nat.le_refl _)) (by simp; omega) (by simp)
  have e : ([] : List (List Int)).length + L.length = L.length := by simp
  rw [e] at hr hn
  refine ⟨a, c, w', hr, hn, ba.trans (below_grown hg (fun j hj => ?_) (by simp))⟩
  have : w.heap.size = j := by simpa [Value.ownBlock] using hj
  omega
end Go.Proofs.YtkgegihkhdgdoaaDoor

/- The document's copy of what is shown. -/
namespace Go.Proofs.YtkgegihkhdgdoaaDoor
set_option linter.unusedSimpArgs false
set_option linter.unusedVariables false
open Go.RowKit Go.Deep

theorem ownPairs.one {w : World} {B : Nat} {v : Value} {x : Nat → Pr} (h : ownPairs w B v 1 x) : ∃ g c ka kcap va vcap, v = .slice (some ⟨g, 0, none⟩) 1 c ∧ B ≤ g ∧ g < w.heap.size ∧ (∀ j, j < 2 → w.cell? ⟨g, 0 + j, none⟩ = some (prG (.slice ka (x 0).1.length kcap) (.slice va (x 0).2.length vcap) j)) ∧ pairFar w B v (prG (.slice ka (x 0).1.length kcap) (.slice va (x 0).2.length vcap)) (x 0) := by
  obtain ⟨U, hU, ho, hy⟩ := id h
  obtain ⟨u, hu, hf⟩ := hy 0 (by omega)
  obtain ⟨kc, vc, rfl, h1, h2⟩ := hf.now
  obtain ⟨ka, kcap, rfl, _⟩ := h1.slice
  obtain ⟨va, vcap, rfl, _⟩ := h2.slice
  obtain ⟨a, c, rfl, hc, hm, hg⟩ := ownsRow_slice ho
  obtain ⟨g, rfl, hlt, _, hcell⟩ := hg (by omega)
  refine ⟨g, c, ka, kcap, va, vcap, rfl, (h.block g rfl).1, hlt, fun j hj => ?_, hf⟩
  have := hcell _ _ (c2s_get U 0 j _ hu hj)
  rw [Nat.zero_mul, Nat.zero_add] at this
  rw [Nat.zero_add]; exact this
theorem cell_blk {w w' : World} {p : Addr} (h : w'.heap[p.block]? = w.heap[p.block]?) : w'.cell? p = w.cell? p := by unfold World.cell?; rw [h]
theorem wpList_runC {P : Program} {ops : Array Oper} {rest : List Oper} {o : Oper} {a : Act} {w w' : World} {Q : Exit → Act → World → Prop} {v : Value} (hgd : o.guard = none) (hr : (execOp a.eval o).run P w = .ok (.value v) w') (h : wpList P ops Q rest (a.put o.dst v) w') : wpList P ops Q (o :: rest) a w :=
  wpList_plain hgd fun _ hK => wp_of_run hr (hK _ _ h)
theorem build_s0 (w : World) : (Instr.buildSlice 39 0 #[]).run Tryd.prog w = .ok (.slice (some ⟨w.heap.size, 0, none⟩) 0 0) (w.alloc (.cells #[] 32)) := by
  show (_ : Result Value) = _
  kernel_rfl
/-- the loop of Copy: box b8 holds the copy so far. -/
def cpL (w3 : World) (b8 : Nat) (cnt : Int) (q : Nat) (y : Nat → Sp) (wr : World) : Prop := But w3.heap.size b8 w3 wr ∧ ∃ oa oc, wr.rowIs b8 29 2 (seG cnt (.slice oa q oc)) ∧ ownSpots wr w3.heap.size b8 (.slice oa q oc) q y
set_option maxHeartbeats 8000000 in
set_option maxRecDepth 100000 in
theorem rcopy_any (cnt : Int) (m : Nat) (sv : Value) (y : Nat → Sp) (w : World) (hp : spotsAt w sv m y) (hm : m ≤ 10) (hx : ∀ i, i < m → (y i).pr.1.length + (y i).pr.2.length ≤ 1000000 ∧ (y i).path.length ≤ 1000) :
    Calls Tryd.prog 21 #[.agg #[.int .i64 cnt, sv]] w fun e w' => ∃ u, e = .returned (.agg #[.int .i64 cnt, u]) ∧ spotsAt w' u m y ∧ Below w.heap.size w w' := by
  have hzse := zero_se
  have hzsp := zero_sp
  have hb1' := build_se1
  obtain ⟨a, cap, hv, hmc, hcm, _⟩ := (id hp : spotsAt w sv m y)
  have hmm : (m : Int) ≤ 10 := by omega
  subst hv
  obtain ⟨w1, hw1⟩ : ∃ w1, w1 = (w.alloc (.cells #[.int .i64 cnt, .slice a m cap] 29)).alloc (.cells (rowV 2 (seG 0 (.slice none 0 0))) 29) := ⟨_, rfl⟩
  have b1 : Below w.heap.size w w1 := by rw [hw1]; exact ((Below.refl _ _).alloc (Nat.le_refl _) _).alloc (by simp) _
  have z1 : w1.heap.size = w.heap.size + 2 := by rw [hw1]; simp
  have hbk : w1.heap[w.heap.size]? = some (.cells #[.int .i64 cnt, .slice a m cap] 29) := by rw [hw1, blk_alloc_lt _ _ _ (by simp), blk_alloc_new]
  have r1 : w1.rowIs (w.heap.size + 1) 29 2 (seG 0 (.slice none 0 0)) := by
    have r := rowIs_box (w.alloc (.cells #[.int .i64 cnt, .slice a m cap] 29)) 29 2 (seG 0 (.slice none 0 0))
    rw [World.size_alloc] at r; rw [hw1]; exact r
  have c0 : w1.cell? ⟨w.heap.size, 0, none⟩ = some (.int .i64 cnt) := by rw [cell_of_row _ _ _ _ _ _ hbk]; rfl
  have c1 : w1.cell? ⟨w.heap.size, 1, none⟩ = some (.slice a m cap) := by rw [cell_of_row _ _ _ _ _ _ hbk]; rfl
  obtain ⟨wq, hwq⟩ : ∃ wq, wq = w1.alloc (.cells (rowV 2 (seG 0 (.slice none 0 0))) 29) := ⟨_, rfl⟩
  have bq : Below w1.heap.size w1 wq := by rw [hwq]; exact (Below.refl _ _).alloc (Nat.le_refl _) _
  have rq : wq.rowIs w1.heap.size 29 2 (seG 0 (.slice none 0 0)) := by rw [hwq]; exact rowIs_box _ _ _ _
  have zq : wq.heap.size = w1.heap.size + 1 := by rw [hwq]; simp
  have HP : Hid (spotsAt w (.slice a m cap) m y ∧ (∀ i, i < m → (y i).pr.1.length + (y i).pr.2.length ≤ 1000000 ∧ (y i).path.length ≤ 1000) ∧ m ≤ 10) := (show _ ∧ _ ∧ _ from ⟨hp, hx, hm⟩)
  have HQ : Hid (Below w.heap.size w w1 ∧ w1.heap.size = w.heap.size + 2 ∧ w1.rowIs (w.heap.size + 1) 29 2 (seG 0 (.slice none 0 0)) ∧ Below w1.heap.size w1 wq ∧ wq.heap.size = w1.heap.size + 1 ∧ wq.rowIs w1.heap.size 29 2 (seG 0 (.slice none 0 0)) ∧ w1.heap[w.heap.size]? = some (.cells #[.int .i64 cnt, .slice a m cap] 29)) := (show _ from ⟨b1, z1, r1, bq, zq, rq, hbk⟩)
  have hm0 : (0 : Int) ≤ (m : Int) := by omega
  clear hp hx hmc hcm b1 z1 r1 bq rq zq hbk c1
  go_enter Tryd.func21, Tryd.ntmps21
  go_upto_region 1 with fail
  rw [← hw1]
  clear hw1
  go_upto_region 2 with (first | (rw [← hwq]; clear hwq; refine wpList_store_row rfl 29 _ _ rfl rfl w1.heap.size 0 2 (seG cnt (.slice none 0 0)) rfl rfl hiSe (seG_one _ _ _ _) _ _ _ HQ.out.2.2.2.2.2.1 (by omega) ?_; intro w3 r3 z3 b3))
  have r3' : w3.rowIs w1.heap.size 29 2 (seG cnt (.slice none 0 0)) := r3.congr (fun i hi => by rw [if_pos (by omega), Nat.sub_zero])
  obtain ⟨b8, hb8⟩ : ∃ b8, b8 = w1.heap.size := ⟨_, rfl⟩
  rw [← hb8] at r3' b3 ⊢
  have SZ : Hid (b8 = w.heap.size + 2 ∧ w3.heap.size = w.heap.size + 3) := (show _ ∧ _ from by have h1 := HQ.out.2.1; have h2 := HQ.out.2.2.2.2.1; exact ⟨by omega, by omega⟩)
  have FACT : Hid (∀ wz, But w3.heap.size b8 w3 wz → Below w.heap.size w wz ∧ wz.cell? ⟨w.heap.size, 1, none⟩ = some (.slice a m cap) ∧ wz.rowIs (w.heap.size + 1) 29 2 (seG 0 (.slice none 0 0))) := (show _ from fun wz hz => by
    obtain ⟨h1, h2, h3, h4, h5, h6, h7⟩ := HQ.out
    obtain ⟨s1, s2⟩ := SZ.out
    have b03 : But w1.heap.size b8 w1 w3 := (But.of_below h4 b8).trans (b3.mono (by omega))
    have b0z : But w1.heap.size b8 w1 wz := b03.trans (hz.mono b03.size)
    refine ⟨h1.trans ((b0z.mono (by omega)).below (by omega)), ?_, ?_⟩
    · rw [cell_of_row _ _ _ _ _ _ ((b0z.block _ (by omega) (by omega)).trans h7)]; rfl
    · exact World.rowIs.of_block h3 (b0z.block _ (by omega) (by omega)))
  have HL0 : Hid (cpL w3 b8 cnt 0 y w3) := (show _ from ⟨But.refl _ _ _, none, 0, r3', ownSpots.nil _ _ _ _⟩)
  have HW3 : Hid (b8 < w3.heap.size) := (show b8 < w3.heap.size from by have := SZ.out; omega)
  clear r3 r3' z3 b3 hb8 c0
  go_wp2_with fail
  go_loopw [4] (fun i wr => ∃ q : Nat, q ≤ m ∧ i = .int .i64 (q : Int) ∧ cpL w3 b8 cnt q y wr) (fun i _ => m - (intOf i).toNat)
  case atStart => exact ⟨0, by omega, rfl, HL0.out⟩
  case round =>
    obtain ⟨q, hqm, rfl, hbut, oa, oc, r8, hos⟩ := hrel
    have q0 : (0 : Int) ≤ (q : Int) := by omega
    have c1 := (FACT.out wr hbut).2.1
    have HB : Hid (But w3.heap.size b8 w3 wr) := (show _ from hbut)
    have HR8 : Hid (wr.rowIs b8 29 2 (seG cnt (.slice oa q oc))) := (show _ from r8)
    have HOS : Hid (ownSpots wr w3.heap.size b8 (.slice oa q oc) q y) := (show _ from hos)
    clear r8 hos
    by_cases hlt : q < m
    · have q1 : (q : Int) < (m : Int) := by omega
      obtain ⟨g, o, cap', e, hg, hcell⟩ := HP.out.1.at (by omega)
      injection e with e1 e2 e3
      subst e1
      subst e3
      obtain ⟨ka, kcap, va, vcap, pa, pcap, hin, H⟩ := hcell q hlt
      have bw := (FACT.out wr hbut).1
      have hc4 : ∀ i, i < 4 → wr.cell? ⟨g, o + q * 4 + i, none⟩ = some ((spG (y q).at_ (.slice ka (y q).pr.1.length kcap) (.slice va (y q).pr.2.length vcap) (.slice pa (y q).path.length pcap)) i) := fun i hi => by
        obtain ⟨q0, q1, q2, q3, _⟩ := H wr bw
        have : i = 0 ∨ i = 1 ∨ i = 2 ∨ i = 3 := by omega
        rcases this with rfl | rfl | rfl | rfl
        · exact q0
        · exact q1
        · exact q2
        · exact q3
      obtain ⟨w4, hw4⟩ : ∃ w4, w4 = wr.alloc (.cells (rowV 4 spZ) 41) := ⟨_, rfl⟩
      have b4 : Below wr.heap.size wr w4 := by rw [hw4]; exact (Below.refl _ _).alloc (Nat.le_refl _) _
      have r4 : w4.rowIs wr.heap.size 41 4 spZ := by rw [hw4]; exact rowIs_box _ _ _ _
      have H4 : Hid (w4.rowIs wr.heap.size 41 4 spZ ∧ Below wr.heap.size wr w4) := (show _ ∧ _ from ⟨r4, b4⟩)
      have FA : Hid (∀ wz, Below w.heap.size w wz → anyBytes wz (.slice ka (y q).pr.1.length kcap) (y q).pr.1 ∧ anyBytes wz (.slice va (y q).pr.2.length vcap) (y q).pr.2 ∧ sumsAt wz (.slice pa (y q).path.length pcap) (y q).path) := (show _ from fun wz hz => (H wz hz).2.2.2.2)
      have HIN : Hid (inI64 (y q).at_) := (show _ from hin)
      have HXQ : Hid ((y q).pr.1.length + (y q).pr.2.length ≤ 1000000 ∧ (y q).path.length ≤ 1000) := (show _ from HP.out.2.1 q hlt)
      clear hcell H r4 b4 hg bw hbut hin
      go_upto_region 6 with (first | (refine wpList_load_seg rfl 41 _ rfl g (o + q * 4) 4 (spG (y q).at_ (.slice ka (y q).pr.1.length kcap) (.slice va (y q).pr.2.length vcap) (.slice pa (y q).path.length pcap)) rfl _ Tryd.underlying41 rfl hiSp hc4 ?_) | (rw [← hw4]; clear hw4; refine wpList_store_row rfl 41 _ _ rfl rfl wr.heap.size 0 4 (spG (y q).at_ (.slice ka (y q).pr.1.length kcap) (.slice va (y q).pr.2.length vcap) (.slice pa (y q).path.length pcap)) rfl rfl hiSp (spG_one _ _ _ _ _ _ _ _ _ _) _ _ _ H4.out.1 (by omega) ?_; intro w5 r5 z5 b5))
      have r5' : w5.rowIs wr.heap.size 41 4 (spG (y q).at_ (.slice ka (y q).pr.1.length kcap) (.slice va (y q).pr.2.length vcap) (.slice pa (y q).path.length pcap)) := r5.congr (fun i hi => by rw [if_pos (by omega), Nat.sub_zero])
      have bw5 : Below wr.heap.size wr w5 := H4.out.2.trans (b5.below' (Nat.le_refl _) H4.out.2.size)
      have z45 := r5'.lt
      obtain ⟨bs5, hbs5⟩ : ∃ bs5, bs5 = wr.heap.size := ⟨_, rfl⟩
      have l5 : ∀ j, j < 2 → w5.cell? ⟨bs5, 1 + j, none⟩ = some (prG (.slice ka (y q).pr.1.length kcap) (.slice va (y q).pr.2.length vcap) j) := fun j hj => by
        have : j = 0 ∨ j = 1 := by omega
        rw [hbs5]
        rcases this with rfl | rfl
        · exact r5'.cell (i := 1) (by omega)
        · exact r5'.cell (i := 2) (by omega)
      obtain ⟨w6, hw6⟩ : ∃ w6, w6 = w5.alloc (.cells (rowV 2 (prG (.slice ka (y q).pr.1.length kcap) (.slice va (y q).pr.2.length vcap))) 38) := ⟨_, rfl⟩
      have b6 : Below w5.heap.size w5 w6 := by rw [hw6]; exact (Below.refl _ _).alloc (Nat.le_refl _) _
      have r6 : w6.rowIs w5.heap.size 38 2 (prG (.slice ka (y q).pr.1.length kcap) (.slice va (y q).pr.2.length vcap)) := by rw [hw6]; exact rowIs_box _ _ _ _
      have bwr : Below w.heap.size w wr := (FACT.out wr HB.out).1
      have bw6 : Below wr.heap.size wr w6 := bw5.trans (b6.mono bw5.size)
      have hp6 : pairsAt w6 (.slice (some ⟨w5.heap.size, 0, none⟩) 1 1) 1 (fun _ => (y q).pr) := ⟨_, 1, rfl, Nat.le_refl _, by decide, fun i hi => by
        obtain rfl : i = 0 := by omega
        obtain ⟨f1, f2, _⟩ := FA.out w6 (bwr.trans (bw6.mono bwr.size))
        exact ⟨w5.heap.size, 0, _, _, rfl, r6.lt, r6.cell (i := 0) (by omega), r6.cell (i := 1) (by omega), f1, f2⟩⟩
      have X := rpairs_any 1 _ (fun _ => (y q).pr) w6 hp6 (by omega) (fun _ _ => HXQ.out.1)
      have HB6 : Hid (w5.rowIs bs5 41 4 (spG (y q).at_ (.slice ka (y q).pr.1.length kcap) (.slice va (y q).pr.2.length vcap) (.slice pa (y q).path.length pcap)) ∧ Below w5.heap.size w5 w6 ∧ Below wr.heap.size wr w5 ∧ Below w.heap.size w wr ∧ bs5 = wr.heap.size) := (show _ from ⟨by rw [hbs5]; exact r5', b6, bw5, bwr, hbs5⟩)
      rw [← hbs5]
      clear r5 r5' z5 b5 bw5 bwr bw6 b6 hp6 r6 hc4 hbs5 z45
      go_wp2_with (first | (refine wpList_load_seg rfl 38 _ rfl bs5 1 2 (prG (.slice ka (y q).pr.1.length kcap) (.slice va (y q).pr.2.length vcap)) rfl _ Tryd.underlying38 rfl hiPr l5 ?_) | (refine wpList_runC rfl (exec_bslice1' 22 1 0 (.tmp 23) (.agg (rowV 2 (prG (.slice ka (y q).pr.1.length kcap) (.slice va (y q).pr.2.length vcap)))) rfl rfl (build_pr1 (prG (.slice ka (y q).pr.1.length kcap) (.slice va (y q).pr.2.length vcap)) w5)) ?_; rw [← hw6]; clear hw6))
      refine X.mono ?_
      rintro e w7 ⟨u, rfl, ho, hb7⟩
      clear X l5
      obtain ⟨gp, pc, ub, uc, vb, vc, rfl, hgB, hglt, hgc, hfar⟩ := ho.one
      obtain ⟨r5, b56, b5w, bww, e5⟩ := HB6.out
      have b57 : Below w5.heap.size w5 w7 := b56.trans (hb7.mono b56.size)
      have b07 : Below wr.heap.size wr w7 := b5w.trans (b57.mono b5w.size)
      have r8V : w7.rowIs b8 29 2 (seG cnt (.slice oa q oc)) := b07.row HR8.out HR8.out.lt
      have r5V : w7.rowIs bs5 41 4 (spG (y q).at_ (.slice ka (y q).pr.1.length kcap) (.slice va (y q).pr.2.length vcap) (.slice pa (y q).path.length pcap)) := b57.row r5 r5.lt
      have s56 := b56.size
      have s5w := b5w.size
      have HAF : Hid (∀ V', (∀ j, (j = b8 ∨ wr.heap.size ≤ j) → j < w7.heap.size → V'.heap[j]? = w7.heap[j]?) → (fun (w' : World) => w'.cell? ⟨b8, 1, none⟩ = some (.slice oa q oc) ∧ w'.cell? ⟨bs5, 0, none⟩ = some (.int .i64 (y q).at_) ∧ w'.cell? ⟨bs5, 3, none⟩ = some (.slice pa (y q).path.length pcap) ∧ ∀ j, j < 2 → w'.cell? ⟨gp, 0 + j, none⟩ = some ((prG (.slice ub (y q).pr.1.length uc) (.slice vb (y q).pr.2.length vc)) j)) V') := (show ∀ V', (∀ j, (j = b8 ∨ wr.heap.size ≤ j) → j < w7.heap.size → V'.heap[j]? = w7.heap[j]?) → (fun (w' : World) => w'.cell? ⟨b8, 1, none⟩ = some (.slice oa q oc) ∧ w'.cell? ⟨bs5, 0, none⟩ = some (.int .i64 (y q).at_) ∧ w'.cell? ⟨bs5, 3, none⟩ = some (.slice pa (y q).path.length pcap) ∧ ∀ j, j < 2 → w'.cell? ⟨gp, 0 + j, none⟩ = some ((prG (.slice ub (y q).pr.1.length uc) (.slice vb (y q).pr.2.length vc)) j)) V' from fun V' hV => by
        have q8 : V'.rowIs b8 29 2 (seG cnt (.slice oa q oc)) := World.rowIs.of_block r8V (hV _ (Or.inl rfl) r8V.lt)
        have q5 : V'.rowIs bs5 41 4 (spG (y q).at_ (.slice ka (y q).pr.1.length kcap) (.slice va (y q).pr.2.length vcap) (.slice pa (y q).path.length pcap)) := World.rowIs.of_block r5V (hV _ (Or.inr (by omega)) r5V.lt)
        exact ⟨q8.cell (i := 1) (by omega), q5.cell (i := 0) (by omega), q5.cell (i := 3) (by omega), fun j hj => (cell_blk (p := ⟨gp, 0 + j, none⟩) (hV gp (Or.inr (by omega)) hglt)).trans (hgc j hj)⟩)
      have HFAR : Hid (pairFar w7 w6.heap.size (.slice (some ⟨gp, 0, none⟩) 1 pc) (prG (.slice ub (y q).pr.1.length uc) (.slice vb (y q).pr.2.length vc)) (y q).pr) := (show _ from hfar)
      have SZ7 : Hid (wr.heap.size ≤ w6.heap.size ∧ wr.heap.size ≤ w7.heap.size ∧ w3.heap.size ≤ wr.heap.size ∧ w7.heap.size = w7.drew.heap.size ∧ b8 < w3.heap.size) := (show _ ∧ _ ∧ _ ∧ _ ∧ _ from ⟨by omega, b07.size, HB.out.size, rfl, HW3.out⟩)
      have R7 : Hid (w7.rowIs b8 29 2 (seG cnt (.slice oa q oc)) ∧ Below wr.heap.size wr w7) := (show _ ∧ _ from ⟨r8V, b07⟩)
      have bd : Below w7.heap.size w7 w7.drew := (Below.refl _ _).drew
      have HD : Hid (Below w7.heap.size w7 w7.drew) := (show _ from bd)
      have HJ : Hid (∀ s, (JJ 15 (fun (w' : World) => w'.cell? ⟨b8, 1, none⟩ = some (.slice oa q oc) ∧ w'.cell? ⟨bs5, 0, none⟩ = some (.int .i64 (y q).at_) ∧ w'.cell? ⟨bs5, 3, none⟩ = some (.slice pa (y q).path.length pcap) ∧ ∀ j, j < 2 → w'.cell? ⟨gp, 0 + j, none⟩ = some ((prG (.slice ub (y q).pr.1.length uc) (.slice vb (y q).pr.2.length vc)) j)) 15 (fun (w' : World) => w'.cell? ⟨b8, 1, none⟩ = some (.slice oa q oc) ∧ w'.cell? ⟨bs5, 0, none⟩ = some (.int .i64 (y q).at_) ∧ w'.cell? ⟨bs5, 3, none⟩ = some (.slice pa (y q).path.length pcap) ∧ ∀ j, j < 2 → w'.cell? ⟨gp, 0 + j, none⟩ = some ((prG (.slice ub (y q).pr.1.length uc) (.slice vb (y q).pr.2.length vc)) j))) s w7.drew) := (show ∀ s, (JJ 15 (fun (w' : World) => w'.cell? ⟨b8, 1, none⟩ = some (.slice oa q oc) ∧ w'.cell? ⟨bs5, 0, none⟩ = some (.int .i64 (y q).at_) ∧ w'.cell? ⟨bs5, 3, none⟩ = some (.slice pa (y q).path.length pcap) ∧ ∀ j, j < 2 → w'.cell? ⟨gp, 0 + j, none⟩ = some ((prG (.slice ub (y q).pr.1.length uc) (.slice vb (y q).pr.2.length vc)) j)) 15 (fun (w' : World) => w'.cell? ⟨b8, 1, none⟩ = some (.slice oa q oc) ∧ w'.cell? ⟨bs5, 0, none⟩ = some (.int .i64 (y q).at_) ∧ w'.cell? ⟨bs5, 3, none⟩ = some (.slice pa (y q).path.length pcap) ∧ ∀ j, j < 2 → w'.cell? ⟨gp, 0 + j, none⟩ = some ((prG (.slice ub (y q).pr.1.length uc) (.slice vb (y q).pr.2.length vc)) j))) s w7.drew from JJ_all (HAF.out _ (fun j _ hj => bd.block j hj)) (HAF.out _ (fun j _ hj => bd.block j hj)))
      have HPS : Hid (sumsAt w7.drew (.slice pa (y q).path.length pcap) (y q).path) := (show _ from (FA.out _ (bww.trans ((b07.trans (bd.mono b07.size)).mono bww.size))).2.2)
      clear r5 b56 b5w bww b57 b07 r8V r5V hgc hfar hb7 ho s56 s5w bd HB6 hgB hglt e5
      go_upto_region 7 with fail
      refine wp_region_noPanic ?_
      refine wp_region_T (JJ 15 (fun (w' : World) => w'.cell? ⟨b8, 1, none⟩ = some (.slice oa q oc) ∧ w'.cell? ⟨bs5, 0, none⟩ = some (.int .i64 (y q).at_) ∧ w'.cell? ⟨bs5, 3, none⟩ = some (.slice pa (y q).path.length pcap) ∧ ∀ j, j < 2 → w'.cell? ⟨gp, 0 + j, none⟩ = some ((prG (.slice ub (y q).pr.1.length uc) (.slice vb (y q).pr.2.length vc)) j)) 15 (fun (w' : World) => w'.cell? ⟨b8, 1, none⟩ = some (.slice oa q oc) ∧ w'.cell? ⟨bs5, 0, none⟩ = some (.int .i64 (y q).at_) ∧ w'.cell? ⟨bs5, 3, none⟩ = some (.slice pa (y q).path.length pcap) ∧ ∀ j, j < 2 → w'.cell? ⟨gp, 0 + j, none⟩ = some ((prG (.slice ub (y q).pr.1.length uc) (.slice vb (y q).pr.2.length vc)) j))) (by kernel_rfl) ?_
      generalize w7.drew = V0 at HJ HPS HD SZ7 ⊢
      refine take_opT (i := 0) (v := ?vu0) 15 rfl (by kernel_rfl) (by kernel_rfl) (by kernel_rfl) (by kernel_rfl) (by kernel_rfl) (JJ_free rfl rfl) (fun _ _ _ h => h) rfl HJ.out ?yu0 ?ru0
      case yu0 => (intro wz hz0; have hz := hz0.1 rfl; go_simp; first | done | with_reducible rfl)
      try simp only [Act.put, List.setIfInBounds_toArray, List.set_cons_zero, List.set_cons_succ]
      refine take_opT (i := 1) (v := ?vu1) 15 rfl (by kernel_rfl) (by kernel_rfl) (by kernel_rfl) (by kernel_rfl) (by kernel_rfl) (JJ_free rfl rfl) (fun _ _ _ h => h) rfl HJ.out ?yu1 ?ru1
      case yu1 => (intro wz hz0; have hz := hz0.1 rfl; have hz1 := hz.1; go_simp; first | done | with_reducible rfl)
      try simp only [Act.put, List.setIfInBounds_toArray, List.set_cons_zero, List.set_cons_succ]
      refine take_opT (i := 2) (v := ?vu2) 15 rfl (by kernel_rfl) (by kernel_rfl) (by kernel_rfl) (by kernel_rfl) (by kernel_rfl) (JJ_free rfl rfl) (fun _ _ _ h => h) rfl HJ.out ?yu2 ?ru2
      case yu2 => (intro wz hz0; have hz := hz0.1 rfl; go_simp; first | done | with_reducible rfl)
      try simp only [Act.put, List.setIfInBounds_toArray, List.set_cons_zero, List.set_cons_succ]
      refine take_opT (i := 3) (v := ?vu3) 15 rfl (by kernel_rfl) (by kernel_rfl) (by kernel_rfl) (by kernel_rfl) (by kernel_rfl) (JJ_free rfl rfl) (fun _ _ _ h => h) rfl HJ.out ?yu3 ?ru3
      case yu3 => (intro wz hz0; have hz := hz0.1 rfl; have hz1 := hz.2.1; go_simp; first | done | with_reducible rfl)
      try simp only [Act.put, List.setIfInBounds_toArray, List.set_cons_zero, List.set_cons_succ]
      refine take_opT (i := 4) (v := ?vu4) 15 rfl (by kernel_rfl) (by kernel_rfl) (by kernel_rfl) (by kernel_rfl) (by kernel_rfl) (JJ_free rfl rfl) (fun _ _ _ h => h) rfl HJ.out ?yu4 ?ru4
      case yu4 => (intro wz hz0; have hz := hz0.1 rfl; go_simp; first | done | with_reducible rfl)
      try simp only [Act.put, List.setIfInBounds_toArray, List.set_cons_zero, List.set_cons_succ]
      refine take_opT (i := 5) (v := ?vu5) 15 rfl (by kernel_rfl) (by kernel_rfl) (by kernel_rfl) (by kernel_rfl) (by kernel_rfl) (JJ_free rfl rfl) (fun _ _ _ h => h) rfl HJ.out ?yu5 ?ru5
      case yu5 => (intro wz hz0; have hz := hz0.1 rfl; go_simp; first | done | with_reducible rfl)
      try simp only [Act.put, List.setIfInBounds_toArray, List.set_cons_zero, List.set_cons_succ]
      refine take_loadT (i := 6) 15 rfl (by kernel_rfl) (by kernel_rfl) (by kernel_rfl) (by kernel_rfl) (by kernel_rfl) (JJ_free rfl rfl) 38 _ rfl gp 0 2 (prG (.slice ub (y q).pr.1.length uc) (.slice vb (y q).pr.2.length vc)) rfl _ Tryd.underlying38 rfl (by kernel_rfl) (fun _ _ _ h => h) rfl HJ.out (fun wz hz => (hz.1 rfl).2.2.2) ?_
      try simp only [Act.put, List.setIfInBounds_toArray, List.set_cons_zero, List.set_cons_succ]
      refine take_opT (i := 8) (v := ?vu8) 15 rfl (by kernel_rfl) (by kernel_rfl) (by kernel_rfl) (by kernel_rfl) (by kernel_rfl) (JJ_free rfl rfl) (fun _ _ _ h => h) rfl HJ.out ?yu8 ?ru8
      case yu8 => (intro wz hz0; have hz := hz0.1 rfl; go_simp; first | done | with_reducible rfl)
      try simp only [Act.put, List.setIfInBounds_toArray, List.set_cons_zero, List.set_cons_succ]
      refine take_opT (i := 9) (v := ?vu9) 15 rfl (by kernel_rfl) (by kernel_rfl) (by kernel_rfl) (by kernel_rfl) (by kernel_rfl) (JJ_free rfl rfl) (fun _ _ _ h => h) rfl HJ.out ?yu9 ?ru9
      case yu9 => (intro wz hz0; have hz := hz0.1 rfl; have hz1 := hz.2.2.1; go_simp; first | done | with_reducible rfl)
      try simp only [Act.put, List.setIfInBounds_toArray, List.set_cons_zero, List.set_cons_succ]
      obtain ⟨na, nc, V2, hcr, hns, b02⟩ := copy_sums V0 (y q).path (.slice pa (y q).path.length pcap) HPS.out HXQ.out.2
      obtain ⟨sz1, sz2, sz3, sz4, sz5⟩ := SZ7.out
      have s02 := b02.size
      have b72 : Below w7.heap.size w7 V2 := HD.out.trans (b02.mono HD.out.size)
      have HA2 := HAF.out V2 (fun j _ hj => b72.block j hj)
      have ba : Below w7.heap.size w7 (V0.alloc (.cells #[] 32)) := HD.out.trans ((Below.refl V0.heap.size V0).alloc (Nat.le_refl _) _ |>.mono HD.out.size)
      have HA1 := HAF.out _ (fun j _ hj => ba.block j hj)
      refine take_oneT (i := 7) rfl (by kernel_rfl) rfl (fun K hK => ?_)
      refine wp_of_run (exec_bslice0' 39 0 rfl (build_s0 V0)) ?_
      refine hK.out _ _ (heldJ_all HA1 HA1) ?_
      clear hK K HA1 ba
      try simp only [Act.put, List.setIfInBounds_toArray, List.set_cons_zero, List.set_cons_succ]
      refine take_oneT (i := 10) rfl (by kernel_rfl) rfl (fun K hK => ?_)
      refine wp_append_run (.tmp 33) (.tmp 35) 39 rfl rfl rfl hcr ?_
      refine hK.out _ _ (heldJ_all HA2 HA2) ?_
      clear hK K hcr
      try simp only [Act.put, List.setIfInBounds_toArray, List.set_cons_zero, List.set_cons_succ]
      have HJ1 : Hid (∀ s, (JJ 15 (fun (w' : World) => w'.cell? ⟨b8, 1, none⟩ = some (.slice oa q oc) ∧ w'.cell? ⟨bs5, 0, none⟩ = some (.int .i64 (y q).at_) ∧ w'.cell? ⟨bs5, 3, none⟩ = some (.slice pa (y q).path.length pcap) ∧ ∀ j, j < 2 → w'.cell? ⟨gp, 0 + j, none⟩ = some ((prG (.slice ub (y q).pr.1.length uc) (.slice vb (y q).pr.2.length vc)) j)) 15 (fun (w' : World) => w'.cell? ⟨b8, 1, none⟩ = some (.slice oa q oc) ∧ w'.cell? ⟨bs5, 0, none⟩ = some (.int .i64 (y q).at_) ∧ w'.cell? ⟨bs5, 3, none⟩ = some (.slice pa (y q).path.length pcap) ∧ ∀ j, j < 2 → w'.cell? ⟨gp, 0 + j, none⟩ = some ((prG (.slice ub (y q).pr.1.length uc) (.slice vb (y q).pr.2.length vc)) j))) s V2) := (show ∀ s, (JJ 15 (fun (w' : World) => w'.cell? ⟨b8, 1, none⟩ = some (.slice oa q oc) ∧ w'.cell? ⟨bs5, 0, none⟩ = some (.int .i64 (y q).at_) ∧ w'.cell? ⟨bs5, 3, none⟩ = some (.slice pa (y q).path.length pcap) ∧ ∀ j, j < 2 → w'.cell? ⟨gp, 0 + j, none⟩ = some ((prG (.slice ub (y q).pr.1.length uc) (.slice vb (y q).pr.2.length vc)) j)) 15 (fun (w' : World) => w'.cell? ⟨b8, 1, none⟩ = some (.slice oa q oc) ∧ w'.cell? ⟨bs5, 0, none⟩ = some (.int .i64 (y q).at_) ∧ w'.cell? ⟨bs5, 3, none⟩ = some (.slice pa (y q).path.length pcap) ∧ ∀ j, j < 2 → w'.cell? ⟨gp, 0 + j, none⟩ = some ((prG (.slice ub (y q).pr.1.length uc) (.slice vb (y q).pr.2.length vc)) j))) s V2 from JJ_all HA2 HA2)
      refine take_opT (i := 11) (v := .agg (rowV 4 (spG (y q).at_ (.slice ub (y q).pr.1.length uc) (.slice vb (y q).pr.2.length vc) (.slice na (y q).path.length nc)))) 15 rfl (by kernel_rfl) (by kernel_rfl) (by kernel_rfl) (by kernel_rfl) (by kernel_rfl) (JJ_free rfl rfl) (fun _ _ _ h => h) rfl HJ1.out (fun wz hz => exec_build3' 41 0 1 2 (.tmp 29) (.tmp 32) (.tmp 36) (.int .i64 (y q).at_) (.agg (rowV 2 (prG (.slice ub (y q).pr.1.length uc) (.slice vb (y q).pr.2.length vc)))) (.slice na (y q).path.length nc) rfl rfl rfl rfl (build_sp (y q).at_ ub vb na (y q).pr.1.length uc (y q).pr.2.length vc (y q).path.length nc wz)) ?_
      try simp only [Act.put, List.setIfInBounds_toArray, List.set_cons_zero, List.set_cons_succ]
      obtain ⟨V3, hV3⟩ : ∃ V3, V3 = V2.alloc (.cells (rowV 4 (spG (y q).at_ (.slice ub (y q).pr.1.length uc) (.slice vb (y q).pr.2.length vc) (.slice na (y q).path.length nc))) 41) := ⟨_, rfl⟩
      have b23 : Below V2.heap.size V2 V3 := by rw [hV3]; exact (Below.refl _ _).alloc (Nat.le_refl _) _
      have rN : V3.rowIs V2.heap.size 41 4 (spG (y q).at_ (.slice ub (y q).pr.1.length uc) (.slice vb (y q).pr.2.length vc) (.slice na (y q).path.length nc)) := by rw [hV3]; exact rowIs_box _ _ _ _
      have b73 : Below w7.heap.size w7 V3 := b72.trans (b23.mono b72.size)
      have HA3 := HAF.out V3 (fun j _ hj => b73.block j hj)
      refine take_oneT (i := 12) rfl (by kernel_rfl) rfl (fun K hK => ?_)
      refine wp_of_run (exec_bslice1' 27 1 0 (.tmp 37) (.agg (rowV 4 (spG (y q).at_ (.slice ub (y q).pr.1.length uc) (.slice vb (y q).pr.2.length vc) (.slice na (y q).path.length nc)))) rfl rfl (build_sps (spG (y q).at_ (.slice ub (y q).pr.1.length uc) (.slice vb (y q).pr.2.length vc) (.slice na (y q).path.length nc)) V2)) ?_
      rw [← hV3]
      refine hK.out _ _ (heldJ_all HA3 HA3) ?_
      clear hK K hV3
      try simp only [Act.put, List.setIfInBounds_toArray, List.set_cons_zero, List.set_cons_succ]
      have bw3 : Below wr.heap.size wr V3 := R7.out.2.trans (b73.mono sz2)
      have hosb := HOS.out.block
      have hs73 := b73.size
      have SF : spotFar V3 b8 (.slice oa q oc) (spG (y q).at_ (.slice ub (y q).pr.1.length uc) (.slice vb (y q).pr.2.length vc) (.slice na (y q).path.length nc)) (y q) := fun z hz => by
        have far : ∀ j, wr.heap.size ≤ j → j < V3.heap.size → z.heap[j]? = V3.heap[j]? := fun j h1 h2 => hz.2 j h2 (fun e => by have := (hosb j e).2; omega) (by omega)
        obtain ⟨kc, vc', e, h1, h2⟩ := HFAR.out z ⟨by have := hz.1; omega, fun j hj hn hB => (far j (by omega) (by omega)).trans (b73.block j hj)⟩
        have e0 : (.slice ub (y q).pr.1.length uc) = kc := congrFun e 0
        have e1 : (.slice vb (y q).pr.2.length vc) = vc' := congrFun e 1
        have e3 : newSums V3 V0.heap.size (.slice na (y q).path.length nc) (y q).path := hns.below b23 (Nat.le_refl _)
        rw [← e0] at h1
        rw [← e1] at h2
        exact ⟨_, _, _, rfl, h1, h2, (e3.far fun j hj => far j (by have := (e3.block j hj).1; omega) (e3.block j hj).2).is, HIN.out⟩
      have HO3 : ownSpots V3 w3.heap.size b8 (.slice oa q oc) q y := HOS.out.below bw3 (Nat.le_refl _)
      have hm10 := HP.out.2.2
      obtain ⟨v', V4, hr, ho4, hg4, hat4⟩ := spots_append V3 w3.heap.size b8 (.slice oa q oc) q y HO3 V2.heap.size (spG (y q).at_ (.slice ub (y q).pr.1.length uc) (.slice vb (y q).pr.2.length vc) (.slice na (y q).path.length nc)) rN SF (by omega) (by omega)
      have hg4s := hg4.size
      have hg4b : ∀ j, (j = b8 ∨ wr.heap.size ≤ j) → j < V3.heap.size → V4.heap[j]? = V3.heap[j]? := fun j hj hl => hg4.block j hl (fun e => by have := hosb j e.symm; omega)
      have HA4 := HAF.out V4 (fun j hj hl => (hg4b j hj (by omega)).trans (b73.block j hl))
      refine take_oneT (i := 13) rfl (by kernel_rfl) rfl (fun K hK => ?_)
      refine wp_append_run (.tmp 27) (.tmp 38) 27 rfl rfl rfl hr ?_
      refine hK.out _ _ (heldJ_all HA4 HA4) ?_
      clear hK K
      try simp only [Act.put, List.setIfInBounds_toArray, List.set_cons_zero, List.set_cons_succ]
      have hsv : ∃ na nc, v' = .slice na (q + 1) nc := by
        obtain ⟨na, nc, e, _⟩ := ho4.is
        exact ⟨na, nc, e⟩
      obtain ⟨nb, nd, rfl⟩ := hsv
      have q8 : V4.rowIs b8 29 2 (seG cnt (.slice oa q oc)) := World.rowIs.of_block (b73.row R7.out.1 R7.out.1.lt) (hg4b _ (Or.inl rfl) (by omega))
      have c3 := q8.cell (i := 1) (by omega)
      have f3 := q8.frozen 1
      refine take_oneT (i := 14) rfl (by kernel_rfl) rfl (fun K hK => ?_)
      go_simp
      refine hK.out _ _ (heldJ_all HA4 HA4) ?_
      clear hK K
      try simp only [Act.put, List.setIfInBounds_toArray, List.set_cons_zero, List.set_cons_succ]
      refine take_oneT (i := 15) rfl (by kernel_rfl) rfl (fun K hK => ?_)
      go_simp
      refine hK.out _ _ (heldJ_none rfl rfl) ?_
      clear hK K c3 f3
      try simp only [Act.put, List.setIfInBounds_toArray, List.set_cons_zero, List.set_cons_succ]
      refine doneT (by kernel_rfl) ?_ _
      refine NoPanic.normal ?_
      have NX : Hid (∀ V5, V5 = V4.setCell ⟨b8, 1, none⟩ (.slice nb (q + 1) nd) → cpL w3 b8 cnt (q + 1) y V5) := (show ∀ V5, V5 = V4.setCell ⟨b8, 1, none⟩ (.slice nb (q + 1) nd) → cpL w3 b8 cnt (q + 1) y V5 from fun V5 h5 => by
        have hb := HB.out
        have bt : But V4.heap.size b8 V4 V5 := by
          rw [h5]
          exact but_setCells (b := b8) [.slice nb (q + 1) nd] 1 (But.refl _ _ _)
        have z5 := bt.size
        have r5 : V5.rowIs b8 29 2 (seG cnt (.slice nb (q + 1) nd)) := by
          rw [h5]
          refine (q8.set 1 (.slice nb (q + 1) nd)).congr fun i hi => ?_
          have : i = 0 ∨ i = 1 := by omega
          rcases this with rfl | rfl <;> rfl
        refine ⟨⟨bt.os.trans (hg4.os.trans (bw3.os.trans hb.os)), bt.tape.trans (hg4.tape.trans (bw3.tape.trans hb.tape)), bt.output.trans (hg4.output.trans (bw3.output.trans hb.output)), by omega, fun j hj hn => ?_⟩, _, _, r5, ho4.same (by omega) (by omega) fun j hj hn => bt.block j hj (by omega)⟩
        exact (bt.block j (by omega) hn).trans ((hg4.block j (by omega) (fun e => by have := (hosb _ e.symm).1; omega)).trans ((bw3.block j (by omega)).trans (hb.block j hj hn))))
      obtain ⟨V5, hV5⟩ : ∃ V5, V5 = V4.setCell ⟨b8, 1, none⟩ (.slice nb (q + 1) nd) := ⟨_, rfl⟩
      rw [← hV5]
      have NX5 : Hid (cpL w3 b8 cnt (q + 1) y V5) := (show cpL w3 b8 cnt (q + 1) y V5 from NX.out V5 hV5)
      clear NX hV5 ho4 hat4 hg4 hg4b HA2 HA3 HA4 hr SF HO3 q8 rN b23 b02 b72 b73 bw3 hosb HJ1 hns hg4s hs73 sz1 sz2 sz3 sz4 sz5 s02 hm10
      go_wp2_with fail
      go_light
      exact ⟨⟨q + 1, by omega, by go_num, NX5.out⟩, by simp [intOf]; omega⟩
    · obtain rfl : q = m := by omega
      have q1 : ¬ (q : Int) < (q : Int) := by omega
      obtain ⟨fa1, _, fa3⟩ := FACT.out wr hbut
      have l8 : ∀ j, j < 2 → wr.cell? ⟨b8, 0 + j, none⟩ = some (seG cnt (.slice oa q oc) j) := fun j hj => by rw [Nat.zero_add]; exact HR8.out.cell hj
      have FI : Hid (∀ V, But wr.heap.size (w.heap.size + 1) wr V → spotsAt V (.slice oa q oc) q y ∧ Below w.heap.size w V) := (show ∀ V, But wr.heap.size (w.heap.size + 1) wr V → spotsAt V (.slice oa q oc) q y ∧ Below w.heap.size w V from fun V hV => by
        have sV := hV.size
        have s3 := HB.out.size
        obtain ⟨z1, z2⟩ := SZ.out
        have hw3 := HW3.out
        exact ⟨(HOS.out.same (w' := V) (by omega) hV.size (fun j hj hn => hV.block j hj (by omega))).is, fa1.trans ((hV.mono fa1.size).below (by omega))⟩)
      clear fa1 hbut
      go_wp2_with (first | (refine wpList_load_w 29 (.tmp 3) rfl rfl b8 0 2 (seG cnt (.slice oa q oc)) rfl _ Tryd.underlying29 rfl hiSe l8 ?_) | (refine wpList_store_row rfl 29 _ _ rfl rfl (w.heap.size + 1) 0 2 (seG cnt (.slice oa q oc)) rfl rfl hiSe (seG_one _ _ _ _) _ _ _ fa3 (by omega) ?_; intro w9 r9 hz9 hb9))
      exact bodyPost_ret (results_cell_seg rfl _ _ (w.heap.size + 1) 29 2 (seG cnt (.slice oa q oc)) _ rfl Tryd.underlying29 rfl hiSe (r9.congr fun i hi => by rw [if_pos (by omega), Nat.sub_zero])) rfl (by exact ⟨_, rfl, FI.out w9 hb9⟩)
end Go.Proofs.YtkgegihkhdgdoaaDoor

/- Two rows of sums: the document's Same. -/
namespace Go.Proofs.YtkgegihkhdgdoaaDoor
set_option linter.unusedSimpArgs false
set_option linter.unusedVariables false
open Go.RowKit Go.Deep

set_option maxHeartbeats 2000000 in
set_option maxRecDepth 100000 in
theorem rsame_any (A B : List (List Int)) (v u : Value) (w : World) (hA : sumsAt w v A) (hB : sumsAt w u B) (hm : A.length ≤ 100000) :
    Calls Tryd.prog 44 #[v, u] w fun e w' => e = .returned (.bool (decide (A = B))) ∧ Below w.heap.size w w' := by
  obtain ⟨sA, a, ac, rfl, ha, ham, cA⟩ := hA
  obtain ⟨sB, b, bc, rfl, hb, hbm, cB⟩ := hB
  have q0 : (A.length : Int) ≤ 100000 := by omega
  by_cases hl : A.length = B.length
  · have CA : Hid _ := cA
    have CB : Hid _ := cB
    have SA : Hid _ := sA
    have SB : Hid _ := sB
    obtain ⟨n, hn⟩ : ∃ n, n = A.length := ⟨_, rfl⟩
    have HN : Hid (n = A.length ∧ A.length = B.length) := (show n = A.length ∧ A.length = B.length from ⟨hn, hl⟩)
    rw [← hl, ← hn]
    rw [← hn] at q0
    clear cA cB sA sB ham hbm ha hb hl hn
    go_enter Tryd.func44, Tryd.ntmps44
    go_wp2
    go_loopw [5] (fun i wr => ∃ k : Nat, k ≤ n ∧ i = .int .i64 k ∧ (∀ j, j < k → A[j]? = B[j]?) ∧ Below w.heap.size w wr) (fun i _ => n - (intOf i).toNat)
    case atStart => exact ⟨0, by omega, rfl, fun j hj => by omega, Below.refl _ _⟩
    case round =>
      obtain ⟨k, hk, rfl, hall, hbw⟩ := hrel
      have HL : Hid _ := hall
      have HW : Hid _ := hbw
      clear hall hbw
      have p0 : (0 : Int) ≤ (k : Int) := by omega
      by_cases hlt : k < n
      · have p1 : (k : Int) < (n : Int) := by omega
        have hkA : k < A.length := by have := HN.out; omega
        have hkB : k < B.length := by have := HN.out; omega
        obtain ⟨g, o, rfl, hg, hc⟩ := CA.out (by omega)
        obtain ⟨g', o', rfl, hg', hc'⟩ := CB.out (by omega)
        obtain ⟨x, hx⟩ : ∃ x, x = A[k] := ⟨_, rfl⟩
        obtain ⟨y, hy⟩ : ∃ y, y = B[k] := ⟨_, rfl⟩
        have hxs : isSum x := by rw [hx]; exact SA.out _ (List.getElem_mem _)
        have hys : isSum y := by rw [hy]; exact SB.out _ (List.getElem_mem _)
        have lx : ∀ wz, Below w.heap.size w wz → ∀ i, i < 32 → wz.cell? ⟨g, o + k * 32 + i, none⟩ = some (arrV x i) := fun wz hz i hi => by rw [hx]; exact (hz.cell (p := ⟨g, o + k * 32 + i, none⟩) hg).trans (hc k hkA i hi)
        have ly : ∀ wz, Below w.heap.size w wz → ∀ i, i < 32 → wz.cell? ⟨g', o' + k * 32 + i, none⟩ = some (arrV y i) := fun wz hz i hi => by rw [hy]; exact (hz.cell (p := ⟨g', o' + k * 32 + i, none⟩) hg').trans (hc' k hkB i hi)
        have LX : Hid _ := lx
        have LY : Hid _ := ly
        obtain ⟨bq, hbq⟩ : ∃ bq, bq = !decide (x = y) := ⟨_, rfl⟩
        have E : ∀ wx, (binOp .neq 32 (.agg (rowV 32 (arrV x))) (.agg (rowV 32 (arrV y)))).run Tryd.prog wx = .ok (.bool bq) wx := fun wx => by
          have := run_neq_arr (P := Tryd.prog) wx 32 5 .u8 32 (fun i => x.getD i 0) (fun i => y.getD i 0) Tryd.underlying32 Tryd.underlying5 (by kernel_rfl) (by kernel_rfl)
          rw [arrEq_list hxs hys] at this
          rw [hbq]; exact this
        have HX : Hid (A[k]? = some x ∧ B[k]? = some y) := (show A[k]? = some x ∧ B[k]? = some y from ⟨by rw [hx]; exact List.getElem?_eq_getElem hkA, by rw [hy]; exact List.getElem?_eq_getElem hkB⟩)
        have HBQ : Hid _ := hbq
        clear hc hc' lx ly hx hy hbq CA CB
        go_upto_region 6 with fail
        go_cut [5, 25] from 11 to 25 (fun i c wx => i = .int .i64 (k : Int) ∧ c = .bool bq ∧ Below w.heap.size w wx)
        case first =>
          refine wp_region_noPanic ?_
          refine wp_region_held_drew (S := fun w' => Below w.heap.size w w') (by kernel_rfl) (HW.out.drew) (fun hHeld => ?_)
          refine take_op (i := 0) (v := ?va0) rfl (by kernel_rfl) (by kernel_rfl) (by kernel_rfl) (fun _ _ _ h => h) rfl hHeld ?ya0 ?ra0
          case ya0 => (intro wz hz; go_simp; first | done | with_reducible rfl)
          try simp only [Act.put, List.setIfInBounds_toArray, List.set_cons_zero, List.set_cons_succ]
          refine take_op (i := 1) (v := ?va1) rfl (by kernel_rfl) (by kernel_rfl) (by kernel_rfl) (fun _ _ _ h => h) rfl hHeld ?ya1 ?ra1
          case ya1 => (intro wz hz; go_simp; first | done | with_reducible rfl)
          try simp only [Act.put, List.setIfInBounds_toArray, List.set_cons_zero, List.set_cons_succ]
          refine take_op (i := 2) (v := ?va2) rfl (by kernel_rfl) (by kernel_rfl) (by kernel_rfl) (fun _ _ _ h => h) rfl hHeld ?ya2 ?ra2
          case ya2 => (intro wz hz; go_simp; first | done | with_reducible rfl)
          try simp only [Act.put, List.setIfInBounds_toArray, List.set_cons_zero, List.set_cons_succ]
          refine take_load (i := 3) rfl (by kernel_rfl) (by kernel_rfl) (by kernel_rfl) 32 _ rfl g (o + k * 32) 32 (arrV x) rfl _ Tryd.underlying32 rfl (by kernel_rfl) (fun _ _ _ h => h) rfl hHeld (fun wz hz => LX.out wz hz) ?_
          try simp only [Act.put, List.setIfInBounds_toArray, List.set_cons_zero, List.set_cons_succ]
          refine take_op (i := 4) (v := ?va4) rfl (by kernel_rfl) (by kernel_rfl) (by kernel_rfl) (fun _ _ _ h => h) rfl hHeld ?ya4 ?ra4
          case ya4 => (intro wz hz; go_simp; first | done | with_reducible rfl)
          try simp only [Act.put, List.setIfInBounds_toArray, List.set_cons_zero, List.set_cons_succ]
          refine take_op (i := 5) (v := ?va5) rfl (by kernel_rfl) (by kernel_rfl) (by kernel_rfl) (fun _ _ _ h => h) rfl hHeld ?ya5 ?ra5
          case ya5 => (intro wz hz; go_simp; first | done | with_reducible rfl)
          try simp only [Act.put, List.setIfInBounds_toArray, List.set_cons_zero, List.set_cons_succ]
          refine take_op (i := 6) (v := ?va6) rfl (by kernel_rfl) (by kernel_rfl) (by kernel_rfl) (fun _ _ _ h => h) rfl hHeld ?ya6 ?ra6
          case ya6 => (intro wz hz; go_simp; first | done | with_reducible rfl)
          try simp only [Act.put, List.setIfInBounds_toArray, List.set_cons_zero, List.set_cons_succ]
          refine take_load (i := 7) rfl (by kernel_rfl) (by kernel_rfl) (by kernel_rfl) 32 _ rfl g' (o' + k * 32) 32 (arrV y) rfl _ Tryd.underlying32 rfl (by kernel_rfl) (fun _ _ _ h => h) rfl hHeld (fun wz hz => LY.out wz hz) ?_
          try simp only [Act.put, List.setIfInBounds_toArray, List.set_cons_zero, List.set_cons_succ]
          refine take_op (i := 8) (v := ?va8) rfl (by kernel_rfl) (by kernel_rfl) (by kernel_rfl) (fun _ _ _ h => h) rfl hHeld ?ya8 ?ra8
          case ya8 => (intro wz hz; go_simp; first | done | with_reducible rfl)
          try simp only [Act.put, List.setIfInBounds_toArray, List.set_cons_zero, List.set_cons_succ]
          refine wpAnyH_done (by kernel_rfl) ?_ _
          refine NoPanic.normal ?_
          have HB2 : Hid _ := hHeld
          clear hHeld
          go_wp2_with fail
          go_meet
          case rel => exact ⟨rfl, rfl, HB2.out⟩
        case rest =>
          obtain ⟨rfl, rfl, hb2⟩ := hcut
          have HB2 : Hid _ := hb2
          clear hb2 E LX LY
          cases bq with
          | false =>
            have hxy : x = y := by
              have := HBQ.out
              simpa using this
            have HE : Hid (A[k]? = B[k]?) := (show A[k]? = B[k]? from by rw [HX.out.1, HX.out.2, hxy])
            clear hxy
            go_wp2
            go_light
            refine ⟨⟨k + 1, by omega, by go_num, fun j hj => ?_, HB2.out⟩, by simp [intOf]; omega⟩
            by_cases e : j < k
            · exact HL.out j e
            · obtain rfl : j = k := by omega
              exact HE.out
          | true =>
            have hne : Hid (decide (A = B) = false) := (show decide (A = B) = false from decide_eq_false fun e => by
              have h1 := HX.out
              rw [e] at h1
              have h2 : x = y := Option.some.inj (h1.1.symm.trans h1.2)
              have h3 := HBQ.out
              rw [h2] at h3
              simp at h3)
            go_wp2
            go_ret
            exact ⟨by rw [hne.out]; rfl, HB2.out⟩
      · obtain rfl : k = n := by omega
        have heq : Hid (decide (A = B) = true) := (show decide (A = B) = true from decide_eq_true (List.ext_getElem? fun j => by
          have := HN.out
          by_cases e : j < k
          · exact HL.out j e
          · rw [List.getElem?_eq_none (by omega), List.getElem?_eq_none (by omega)]))
        go_wp2
        go_ret
        exact ⟨by rw [heq.out]; rfl, HW.out⟩
  · have q1 : ¬ (A.length : Int) = (B.length : Int) := by omega
    have hne : Hid (decide (A = B) = false) := (show decide (A = B) = false from decide_eq_false fun e => hl (by rw [e]))
    clear cA cB sA sB hl
    go_enter Tryd.func44, Tryd.ntmps44
    go_wp2
    go_ret
    exact ⟨by rw [hne.out]; rfl, Below.refl _ _⟩
end Go.Proofs.YtkgegihkhdgdoaaDoor
