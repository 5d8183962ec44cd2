import Derived.ProofKit
import Derived.OpenShut
import Derived.Test.YtkgegihkhdgdoaaDoorRows
import Derived.ChangeSlices
import Derived.Deep.Slices
import Derived.Deep.Strs
import Derived.SizedLaws
import Derived.Test.YtkgegihkhdgdoaaDoorCards
import Derived.Deep.DeepHandedRow
import Derived.Lib.LaidTab
import Derived.Test.YtkgegihkhdgdoaaDoorOwn1
import Derived.Test.YtkgegihkhdgdoaaDoorOwn2
import Derived.Test.YtkgegihkhdgdoaaDoorOwn5
import Derived.Test.YtkgegihkhdgdoaaDoorOwn6
import Derived.Test.YtkgegihkhdgdoaaDoorOwn9
import Derived.Test.YtkgegihkhdgdoaaDoorOwn10
import Derived.Test.YtkgegihkhdgdoaaDoorOwn11
set_option linter.unusedVariables false
set_option linter.unusedSimpArgs false
/- KeyedShows: its walk. -/
namespace Go.Proofs.YtkgegihkhdgdoaaDoor
set_option linter.unusedSimpArgs false
set_option linter.unusedVariables false
open Go.RowKit Go.Deep

theorem neq_bool (b : Bool) (wz : World) : (binOp .neq 4 (.bool b) (.bool b)).run Tryd.prog wz = .ok (.bool false) wz := by cases b <;> kernel_rfl
theorem neq_sumK (q : List Int) (wx : World) : (binOp .neq 32 (.agg (rowV 32 (arrV q))) (.agg (rowV 32 (arrV q)))).run Tryd.prog wx = .ok (.bool false) wx := by
  have := run_neq_arr (P := Tryd.prog) wx 32 5 .u8 32 (fun i => q.getD i 0) (fun i => q.getD i 0) Tryd.underlying32 Tryd.underlying5 (by kernel_rfl) (by kernel_rfl)
  rw [(arrEq_iff 32 _ _).2 (fun _ _ => rfl)] at this
  exact this
/-- what both show. -/
theorem shows_both {n : Nat} {x : Nat → Pr} {key : List Int} {w w' : World} {e : Ending} (h : show2Post n x key w e w') (hn : n ≤ 1000) : ∃ (c : Int) (m : Nat) (y : Nat → Sp) (sv : Value) (B b p : Nat), e = .returned (.agg (rowV 2 (seG c sv))) ∧ w.heap.size ≤ b ∧ ownSpots2 w' B b sv m y ∧ (mayB x n = true → posAt x n key p) ∧
    (∀ V e V', rshowPost n x key p V e V' → ∃ sv', e = .returned (.agg (rowV 2 (seG c sv'))) ∧ spotsAt V' sv' m y) ∧ (∀ i, i < m → (y i).path.length ≤ 100000) ∧ m ≤ 2000 := by
  obtain ⟨⟨hm, rfl⟩ | ⟨hm, p, sv, hp, rfl, B, b, hb, ho⟩, _⟩ := h
  · refine ⟨0, 0, fun _ => ⟨0, ([], []), []⟩, _, w.heap.size, w.heap.size, 0, rfl, Nat.le_refl _, ownSpots2.nil _ _ _ _, fun e => (by rw [hm] at e; cases e), fun V e V' hr => ?_, fun i hi => absurd hi (Nat.not_lt_zero i), by omega⟩
    obtain ⟨⟨_, rfl⟩ | ⟨h1, _⟩, _⟩ := hr
    · exact ⟨_, rfl, none, 0, rfl, Nat.le_refl _, by decide, fun i hi => absurd hi (Nat.not_lt_zero i)⟩
    · rw [hm] at h1; cases h1
  · have hml : ∀ k, k < shM x n key p → shF x n key p + k < n := fun k hk => by
      have h1 := (shM_lt x n key p k).1 hk
      have h2 := (arL_lt x n key p).1
      omega
    refine ⟨n, _, _, sv, B, b, p, rfl, hb, ho, fun _ => hp, fun V e V' hr => ?_, fun i hi => ?_, ?_⟩
    · obtain ⟨⟨h1, _⟩ | ⟨_, sv', rfl, hs⟩, _⟩ := hr
      · rw [hm] at h1; cases h1
      · exact ⟨sv', rfl, hs⟩
    · have h1 := hml i hi
      have h2 := pathI_len (L := leavesTo x n) (p := shF x n key p + i) (by rw [leavesTo_len]; exact h1) (by rw [leavesTo_len]; omega)
      show (pathI (leavesTo x n) ((shF x n key p + i : Nat) : Int)).length ≤ 100000
      omega
    · by_cases h0 : shM x n key p = 0
      · omega
      · have := hml (shM x n key p - 1) (by omega); omega
set_option maxHeartbeats 16000000 in
set_option maxRecDepth 100000 in
theorem kshows_any (n : Nat) (v tv : Value) (x : Nat → Pr) (key : List Int) (w : World) (hp : pairsAt w v n x) (hk : anyBytes w tv key) (ht : tabIs w) :
    Calls Tryd.prog 3 #[v, tv] w fun e w' => e = .returned (.bool true) ∧ Below w.heap.size w w' := by
  have X1 := kmuch_any n v x w hp
  obtain ⟨a, cap, hv, hnc, hcm, _⟩ := (id hp : pairsAt w v n x)
  have hnm : (n : Int) ≤ 9223372036854775807 := by unfold maxLen at hcm; omega
  have HP : Hid (∀ wz, Below w.heap.size w wz → pairsAt wz v n x ∧ anyBytes wz tv key ∧ tabIs wz) := (show _ from fun wz hz => ⟨hp.below hz (Nat.le_refl _), hk.below hz (Nat.le_refl _), ht.below hz ht.1⟩)
  have HAW : Hid (∀ W, Below w.heap.size w W → Calls Tryd.prog 10 #[] W fun e w' => e = .returned (.bool true) ∧ Below W.heap.size W w') := (show _ from fun W hW => kawake_any W (ht.below hW ht.1))
  have HPW : Hid (pairsAt w v n x) := (show pairsAt w v n x from hp)
  obtain ⟨ta, tcap, rfl, _⟩ := hk.slice
  subst hv
  have hn0 : (0 : Int) ≤ (n : Int) := by omega
  clear hp hk ht hnc hcm
  go_enter Tryd.func3, Tryd.ntmps3
  go_wp2_with fail
  refine X1.mono ?_
  rintro e w1 ⟨⟨b, rfl, hb⟩, b1⟩
  clear X1
  have B1 : Hid (Below w.heap.size w w1) := (show Below w.heap.size w w1 from b1)
  cases b with
  | true =>
    have XW := HAW.out w1 B1.out
    clear hb b1
    go_wp2_with fail
    refine XW.mono ?_
    rintro e w9 ⟨rfl, b9⟩
    clear XW
    go_wp2
    go_ret
    exact ⟨rfl, B1.out.trans (b9.mono B1.out.size)⟩
  | false =>
    obtain ⟨hn, hx⟩ := hb rfl
    by_cases hkl : key.length > 1000
    · have q1 : (key.length : Int) > 1000 := by omega
      have q2 : (1000 : Int) < (key.length : Int) := by omega
      have XW := HAW.out w1 B1.out
      clear hb b1 hx
      go_wp2_with fail
      refine XW.mono ?_
      rintro e w9 ⟨rfl, b9⟩
      clear XW
      go_wp2
      go_ret
      exact ⟨rfl, B1.out.trans (b9.mono B1.out.size)⟩
    · have q1 : ¬ (key.length : Int) > 1000 := by omega
      have q2 : ¬ (1000 : Int) < (key.length : Int) := by omega
      have hx' : ∀ i, i < n → (x i).1.length + (x i).2.length ≤ 1000000 := fun i hi => by have := hx i hi; omega
      have HX : Hid (n ≤ 100 ∧ ∀ i, i < n → (x i).1.length + (x i).2.length ≤ 1000000) := (show _ ∧ _ from ⟨hn, hx'⟩)
      have XP := rpairs_any n (.slice a n cap) x w1 (HP.out w1 b1).1 (by omega) hx'
      clear hb hx hx'
      go_wp2_with fail
      refine XP.mono ?_
      rintro e w2 ⟨u, rfl, hou, b12⟩
      have B2 : Hid (Below w.heap.size w w2) := (show Below w.heap.size w w2 from B1.out.trans (b12.mono B1.out.size))
      have OU : Hid (pairsAt w2 u n x) := (show _ from hou.is)
      obtain ⟨oa, oc, rfl⟩ : ∃ oa oc, u = .slice oa n oc := by
        obtain ⟨oa, oc, e, _⟩ := hou.is; exact ⟨oa, oc, e⟩
      have XS := show2_nil n _ _ x key w2 OU.out (HP.out w2 B2.out).2.1 (HP.out w2 B2.out).2.2 (by have := HX.out.1; omega) HX.out.2
      clear XP b1 b12 hou
      have hzse := zero_se
      go_wp2_with fail
      refine XS.mono ?_
      rintro e w3 hpost
      have b23 := hpost.2
      obtain ⟨c, m, y, sv, BB, b, p, rfl, hbb, hos, hpp, hrs, hpl, hm2⟩ := shows_both hpost (by have := HX.out.1; omega)
      obtain ⟨sa, sc, rfl⟩ : ∃ sa sc, sv = .slice sa m sc := by
        obtain ⟨sa, sc, e, _⟩ := hos.is; exact ⟨sa, sc, e⟩
      obtain ⟨w4, hw4⟩ : ∃ w4, w4 = w3.alloc (.cells (rowV 2 (seG 0 (.slice none 0 0))) 29) := ⟨_, rfl⟩
      have r4 : w4.rowIs w3.heap.size 29 2 (seG 0 (.slice none 0 0)) := by rw [hw4]; exact rowIs_box _ _ _ _
      have b34 : Below w3.heap.size w3 w4 := by rw [hw4]; exact (Below.refl _ _).alloc (Nat.le_refl _) _
      have z4 : w4.heap.size = w3.heap.size + 1 := by rw [hw4]; simp
      clear XS hpost
      go_upto_region 5 with (first | (rw [← hw4]; clear hw4; refine wpList_store_row rfl 29 _ _ rfl rfl w3.heap.size 0 2 (seG c (.slice sa m sc)) rfl rfl hiSe (seG_one _ _ _ _) _ _ _ r4 (by omega) ?_; intro w5 r5 hz5 hb5))
      have r5' : w5.rowIs w3.heap.size 29 2 (seG c (.slice sa m sc)) := r5.congr fun i hi => by rw [if_pos (by omega), Nat.sub_zero]
      have b35 : Below w3.heap.size w3 w5 := b34.trans ((hb5.mono (by omega)).below (by omega))
      have b25 : Below w2.heap.size w2 w5 := b23.trans (b35.mono b23.size)
      have s23 := b23.size
      obtain ⟨b6, hb6⟩ : ∃ b6, b6 = w3.heap.size := ⟨_, rfl⟩
      rw [← hb6] at r5' ⊢
      have HW : Hid (∀ W, Below w5.heap.size w5 W → Below w.heap.size w W ∧ Below w2.heap.size w2 W ∧ W.rowIs b6 29 2 (seG c (.slice sa m sc)) ∧ ownSpots2 W BB b (.slice sa m sc) m y) := (show ∀ W, Below w5.heap.size w5 W → Below w.heap.size w W ∧ Below w2.heap.size w2 W ∧ W.rowIs b6 29 2 (seG c (.slice sa m sc)) ∧ ownSpots2 W BB b (.slice sa m sc) m y from fun W hW => by
        have h1 := b25.trans (hW.mono b25.size)
        exact ⟨B2.out.trans (h1.mono B2.out.size), h1, hW.row r5' r5'.lt, ownSpots2.below (ownSpots2.below hos b35 (Nat.le_refl _)) hW (Nat.le_refl _)⟩)
      have HSP : Hid (w2.heap.size ≤ b ∧ (0 < m → ∃ g cap, Value.slice sa m sc = .slice (some ⟨g, 0, none⟩) m cap ∧ ∀ W, Below w5.heap.size w5 W → ∀ i, i < m → spotC W b g b6 i)) := (show w2.heap.size ≤ b ∧ (0 < m → ∃ g cap, Value.slice sa m sc = .slice (some ⟨g, 0, none⟩) m cap ∧ ∀ W, Below w5.heap.size w5 W → ∀ i, i < m → spotC W b g b6 i) from ⟨hbb, fun h0 => by
        obtain ⟨g, cp, e, hg, _⟩ := ownSpots2.clr hos h0 (c := b6) (by omega)
        refine ⟨g, cp, e, fun W hW i hi => ?_⟩
        have hc := ownSpots2.clr (ownSpots2.below hos (b35.trans (hW.mono b35.size)) (Nat.le_refl _)) h0 (c := W.heap.size) (Nat.le_refl _)
        obtain ⟨g', cp', e', _, hs⟩ := hc
        rw [e] at e'
        have eg : g = g' := by
          have := Value.slice.inj e'
          simpa using this.1
        subst eg
        obtain ⟨g2, cp2, e2, hg2, hs2⟩ := ownSpots2.clr hos h0 (c := b6) (by omega)
        rw [e] at e2
        have eg2 : g = g2 := by
          have := Value.slice.inj e2
          simpa using this.1
        subst eg2
        have hs3 := hs2 i hi
        obtain ⟨ka, va, pa, kn, kc, vn, vc, pn, pc, h1, h2, h3, t1, t2, t3, h4⟩ := hs3
        have bW := b35.trans (hW.mono b35.size)
        exact ⟨ka, va, pa, kn, kc, vn, vc, pn, pc, (bW.cell (p := ⟨g, i * 4 + 1, none⟩) hg).trans h1, (bW.cell (p := ⟨g, i * 4 + 2, none⟩) hg).trans h2, (bW.cell (p := ⟨g, i * 4 + 3, none⟩) hg).trans h3, softE.later t1 bW (Nat.le_refl _), softE.later t2 bW (Nat.le_refl _), softS.later t3 bW (Nat.le_refl _), h4⟩⟩)
      have HRS : Hid (∀ V e V', rshowPost n x key p V e V' → ∃ sv', e = .returned (.agg (rowV 2 (seG c sv'))) ∧ spotsAt V' sv' m y) := (show _ from hrs)
      have HPP : Hid (mayB x n = true → posAt x n key p) := (show _ from hpp)
      have HPL : Hid (∀ i, i < m → (y i).path.length ≤ 100000) := (show _ from hpl)
      have hmi : (m : Int) ≤ 2000 := by omega
      have hm0 : (0 : Int) ≤ (m : Int) := by omega
      clear hbb hos hpp hrs hpl hm2 r4 b34 z4 r5 hz5 hb5 b35 b25 b23 s23 r5' hb6 hn
      have HAL : Hid (∀ W, Below w5.heap.size w5 W → pairsAt W (.slice oa n oc) n x ∧ pairsAt W (.slice a n cap) n x ∧ anyBytes W (.slice ta key.length tcap) key ∧ tabIs W) := (show _ from fun W hW => by
        obtain ⟨h1, h2, _, _⟩ := HW.out W hW
        obtain ⟨q1, q2, q3⟩ := HP.out W h1
        exact ⟨pairsAt.below OU.out h2 (Nat.le_refl _), q1, q2, q3⟩)
      have hNB := neq_bool (mayB x n)
      have hNS := neq_sumK (keyS x n)
      refine wp_region_noPanic ?_
      refine wp_region_held_drew (S := fun w' => Below w5.heap.size w5 w') (by kernel_rfl) ((Below.refl _ _).drew) (fun hHeld => ?_)
      refine take_op (i := 0) (v := ?vz0) rfl (by kernel_rfl) (by kernel_rfl) (by kernel_rfl) (fun _ _ _ h => h) rfl hHeld ?yz0 ?rz0
      case yz0 => (intro wz hz; go_simp; first | done | with_reducible rfl)
      try simp only [Act.put, List.setIfInBounds_toArray, List.set_cons_zero, List.set_cons_succ]
      refine take_op (i := 2) (v := ?vz2) rfl (by kernel_rfl) (by kernel_rfl) (by kernel_rfl) (fun _ _ _ h => h) rfl hHeld ?yz2 ?rz2
      case yz2 => (intro wz hz; go_simp; first | done | with_reducible rfl)
      try simp only [Act.put, List.setIfInBounds_toArray, List.set_cons_zero, List.set_cons_succ]
      refine take_one (i := 1) rfl (by kernel_rfl) rfl (fun K hK => ?_)
      go_simp
      refine Calls.mono (may_any n _ x _ (HAL.out _ hHeld).1) ?_
      rintro e v1 ⟨rfl, bq⟩
      have HH1 : Hid (Below w5.heap.size w5 v1) := (show Below w5.heap.size w5 v1 from hHeld.trans (bq.mono hHeld.size))
      clear bq
      refine hK.out _ _ HH1.out (fun hHeld => ?_)
      clear hK K
      try simp only [Act.put, List.setIfInBounds_toArray, List.set_cons_zero, List.set_cons_succ]
      refine take_one (i := 3) rfl (by kernel_rfl) rfl (fun K hK => ?_)
      go_simp
      refine Calls.mono (rmay_any n _ x _ (HAL.out _ hHeld).2.1) ?_
      rintro e v3 ⟨rfl, bq⟩
      have HH3 : Hid (Below w5.heap.size w5 v3) := (show Below w5.heap.size w5 v3 from hHeld.trans (bq.mono hHeld.size))
      clear bq
      refine hK.out _ _ HH3.out (fun hHeld => ?_)
      clear hK K
      try simp only [Act.put, List.setIfInBounds_toArray, List.set_cons_zero, List.set_cons_succ]
      refine take_op (i := 4) (v := ?vz4) rfl (by kernel_rfl) (by kernel_rfl) (by kernel_rfl) (fun _ _ _ h => h) rfl hHeld ?yz4 ?rz4
      case yz4 => (intro wz hz; go_simp; first | done | with_reducible rfl)
      try simp only [Act.put, List.setIfInBounds_toArray, List.set_cons_zero, List.set_cons_succ]
      refine take_op (i := 5) (v := ?vz5) rfl (by kernel_rfl) (by kernel_rfl) (by kernel_rfl) (fun _ _ _ h => h) rfl hHeld ?yz5 ?rz5
      case yz5 => (intro wz hz; go_simp; first | done | with_reducible rfl)
      try simp only [Act.put, List.setIfInBounds_toArray, List.set_cons_zero, List.set_cons_succ]
      refine take_op (i := 6) (v := ?vz6) rfl (by kernel_rfl) (by kernel_rfl) (by kernel_rfl) (fun _ _ _ h => h) rfl hHeld ?yz6 ?rz6
      case yz6 => (intro wz hz; go_simp; first | done | with_reducible rfl)
      try simp only [Act.put, List.setIfInBounds_toArray, List.set_cons_zero, List.set_cons_succ]
      refine take_op (i := 8) (v := ?vz8) rfl (by kernel_rfl) (by kernel_rfl) (by kernel_rfl) (fun _ _ _ h => h) rfl hHeld ?yz8 ?rz8
      case yz8 => (intro wz hz; go_simp; first | done | with_reducible rfl)
      try simp only [Act.put, List.setIfInBounds_toArray, List.set_cons_zero, List.set_cons_succ]
      refine take_one (i := 7) rfl (by kernel_rfl) rfl (fun K hK => ?_)
      go_simp
      refine Calls.mono (kRoot_k frNone v3.heap.size (.pointer none) [] 0 n _ x v3 (bkNone _ _ _) (fun _ h => h.elim) (Nat.le_refl _) (fun wz hz => ⟨(HAL.out wz (HH3.out.trans (hz.mono HH3.out.size))).1, (HAL.out wz (HH3.out.trans (hz.mono HH3.out.size))).2.2.2⟩) (by have := HX.out.1; omega) HX.out.2 (fun h => h.elim) (by simp) (by omega)) ?_
      rintro e v7 ⟨rfl, _, fq⟩
      have bq := frNone_below fq
      have HH7 : Hid (Below w5.heap.size w5 v7) := (show Below w5.heap.size w5 v7 from hHeld.trans (bq.mono hHeld.size))
      clear bq fq
      refine hK.out _ _ HH7.out (fun hHeld => ?_)
      clear hK K
      try simp only [Act.put, List.setIfInBounds_toArray, List.set_cons_zero, List.set_cons_succ]
      refine take_one (i := 9) rfl (by kernel_rfl) rfl (fun K hK => ?_)
      go_simp
      refine Calls.mono (rkroot_any n _ x _ (HAL.out _ hHeld).2.1 (by have := HX.out.1; omega) HX.out.2) ?_
      rintro e v9 ⟨rfl, bq⟩
      have HH9 : Hid (Below w5.heap.size w5 v9) := (show Below w5.heap.size w5 v9 from hHeld.trans (bq.mono hHeld.size))
      clear bq
      have ek : krootS (n : Int) (rootS (leavesTo x n)) = keyS x n := rfl
      rw [ek]
      clear ek
      refine hK.out _ _ HH9.out (fun hHeld => ?_)
      clear hK K
      try simp only [Act.put, List.setIfInBounds_toArray, List.set_cons_zero, List.set_cons_succ]
      refine take_op (i := 10) (v := ?vz10) rfl (by kernel_rfl) (by kernel_rfl) (by kernel_rfl) (fun _ _ _ h => h) rfl hHeld ?yz10 ?rz10
      case yz10 => (intro wz hz; have hq := hNS; unfold sumV; go_simp; first | done | with_reducible rfl)
      try simp only [Act.put, List.setIfInBounds_toArray, List.set_cons_zero, List.set_cons_succ]
      refine take_op (i := 11) (v := ?vz11) rfl (by kernel_rfl) (by kernel_rfl) (by kernel_rfl) (fun _ _ _ h => h) rfl hHeld ?yz11 ?rz11
      case yz11 => (intro wz hz; go_simp; first | done | with_reducible rfl)
      try simp only [Act.put, List.setIfInBounds_toArray, List.set_cons_zero, List.set_cons_succ]
      refine take_op (i := 12) (v := ?vz12) rfl (by kernel_rfl) (by kernel_rfl) (by kernel_rfl) (fun _ _ _ h => h) rfl hHeld ?yz12 ?rz12
      case yz12 => (intro wz hz; go_simp; first | done | with_reducible rfl)
      try simp only [Act.put, List.setIfInBounds_toArray, List.set_cons_zero, List.set_cons_succ]
      refine take_load (i := 13) rfl (by kernel_rfl) (by kernel_rfl) (by kernel_rfl) 29 _ rfl b6 0 2 (seG c (.slice sa m sc)) rfl _ Tryd.underlying29 rfl (by kernel_rfl) (fun _ _ _ h => h) rfl hHeld (fun wz hz j hj => by rw [Nat.zero_add]; exact World.rowIs.cell (HW.out wz hz).2.2.1 hj) ?_
      try simp only [Act.put, List.setIfInBounds_toArray, List.set_cons_zero, List.set_cons_succ]
      refine take_op (i := 14) (v := ?vz14) rfl (by kernel_rfl) (by kernel_rfl) (by kernel_rfl) (fun _ _ _ h => h) rfl hHeld ?yz14 ?rz14
      case yz14 => (intro wz hz; go_simp; first | done | with_reducible rfl)
      try simp only [Act.put, List.setIfInBounds_toArray, List.set_cons_zero, List.set_cons_succ]
      refine take_op (i := 15) (v := ?vz15) rfl (by kernel_rfl) (by kernel_rfl) (by kernel_rfl) (fun _ _ _ h => h) rfl hHeld ?yz15 ?rz15
      case yz15 => (intro wz hz; go_simp; first | done | with_reducible rfl)
      try simp only [Act.put, List.setIfInBounds_toArray, List.set_cons_zero, List.set_cons_succ]
      refine take_one (i := 16) rfl (by kernel_rfl) rfl (fun K hK => ?_)
      go_simp
      refine Calls.mono (rshow_any n _ _ x key p _ (HAL.out _ hHeld).2.1 (HAL.out _ hHeld).2.2.1 HPP.out (by have := HX.out.1; omega) HX.out.2) ?_
      rintro e v16 hq
      have bq := hq.2
      obtain ⟨sv', rfl, hsq⟩ := HRS.out _ _ _ hq
      have HH16 : Hid (Below w5.heap.size w5 v16) := (show Below w5.heap.size w5 v16 from hHeld.trans (bq.mono hHeld.size))
      have HSQ : Hid (spotsAt v16 sv' m y) := (show _ from hsq)
      obtain ⟨ra, rc, rfl⟩ : ∃ ra rc, sv' = .slice ra m rc := by
        obtain ⟨ra, rc, e, _⟩ := hsq; exact ⟨ra, rc, e⟩
      clear bq hq hsq
      refine hK.out _ _ HH16.out (fun hHeld => ?_)
      clear hK K
      try simp only [Act.put, List.setIfInBounds_toArray, List.set_cons_zero, List.set_cons_succ]
      have XM := rsames_any c c m m (.slice sa m sc) (.slice ra m rc) y y v16 (HW.out v16 hHeld).2.2.2.is HSQ.out HPL.out
      rw [← seG_row, ← seG_row] at XM
      refine take_one (i := 17) rfl (by kernel_rfl) rfl (fun K hK => ?_)
      go_simp
      refine Calls.mono (XM) ?_
      rintro e v17 ⟨⟨bt, rfl, hbt⟩, bq⟩
      obtain rfl : bt = true := hbt.2 ⟨rfl, rfl, fun _ _ => rfl⟩
      have HH17 : Hid (Below w5.heap.size w5 v17) := (show Below w5.heap.size w5 v17 from hHeld.trans (bq.mono hHeld.size))
      clear bq hbt
      refine hK.out _ _ HH17.out (fun hHeld => ?_)
      clear hK K
      try simp only [Act.put, List.setIfInBounds_toArray, List.set_cons_zero, List.set_cons_succ]
      refine take_op (i := 18) (v := ?vz18) rfl (by kernel_rfl) (by kernel_rfl) (by kernel_rfl) (fun _ _ _ h => h) rfl hHeld ?yz18 ?rz18
      case yz18 => (intro wz hz; go_simp; first | done | with_reducible rfl)
      try simp only [Act.put, List.setIfInBounds_toArray, List.set_cons_zero, List.set_cons_succ]
      refine take_op (i := 19) (v := ?vz19) rfl (by kernel_rfl) (by kernel_rfl) (by kernel_rfl) (fun _ _ _ h => h) rfl hHeld ?yz19 ?rz19
      case yz19 => (intro wz hz; go_simp; first | done | with_reducible rfl)
      try simp only [Act.put, List.setIfInBounds_toArray, List.set_cons_zero, List.set_cons_succ]
      refine wpAnyH_done (by kernel_rfl) ?_ _
      refine NoPanic.normal ?_
      clear XM hNB hNS HSQ
      have HV : Hid (Below w5.heap.size w5 v17) := (show _ from HH17.out)
      clear HH1 HH3 HH7 HH9 HH16 hHeld
      go_wp2_with fail
      go_loopw [7] (fun q wr => ∃ i : Nat, q = .int .i64 (i : Int) ∧ i ≤ m ∧ ∃ g, (0 < m → ∃ cp, Value.slice sa m sc = .slice (some ⟨g, 0, none⟩) m cp) ∧ Cl b g b6 v17 wr) (fun q _ => m - (intOf q).toNat)
      case atStart =>
        by_cases h0 : 0 < m
        · obtain ⟨g, cp, e, _⟩ := HSP.out.2 h0
          exact ⟨0, rfl, Nat.zero_le _, g, fun _ => ⟨cp, e⟩, Cl.refl _ _ _ _⟩
        · exact ⟨0, rfl, Nat.zero_le _, 0, fun h => absurd h h0, Cl.refl _ _ _ _⟩
      case round =>
        obtain ⟨i, rfl, him, g, hg, hcl⟩ := hrel
        have HC : Hid (Cl b g b6 v17 wr) := (show _ from hcl)
        have i0 : (0 : Int) ≤ (i : Int) := by omega
        have r6 := hcl.row (HW.out v17 HV.out).2.2.1
        have c6 : wr.cell? ⟨b6, 1, none⟩ = some (.slice sa m sc) := r6.cell (i := 1) (by omega)
        by_cases hlt : i < m
        · have hlt' : (i : Int) < (m : Int) := by omega
          obtain ⟨g2, cp2, e2, hsp⟩ := HSP.out.2 (by omega)
          obtain ⟨cp, e1⟩ := hg (by omega)
          rw [e1] at e2
          obtain rfl : g = g2 := by
            have := Value.slice.inj e2
            simpa using this.1
          have hs := (hsp v17 HV.out i hlt).cl hcl
          obtain ⟨x1, x2, x3⟩ := Value.slice.inj e1
          subst x1
          subst x3
          obtain ⟨ka, va, pa, kn, kc, vn, vc, pn, pc, h1, h2, h3, t1, t2, t3, ⟨k1, k2, k3⟩, o1, o2, o3⟩ := hs
          obtain ⟨wa, hca, cla⟩ := clear_e wr _ ka kn kc rfl k1 t1 o1
          obtain ⟨wb, hcb, clb⟩ := clear_e wa _ va vn vc rfl k2 (cla.softE t2) o2
          obtain ⟨wd, hcd, cld⟩ := clear_s wb _ pa pn pc rfl k3 (clb.softS (cla.softS t3)) o3
          have a6 : wa.cell? ⟨b6, 1, none⟩ = some (.slice (some ⟨g, 0, none⟩) m sc) := (cla.row r6).cell (i := 1) (by omega)
          have d6 : wb.cell? ⟨b6, 1, none⟩ = some (.slice (some ⟨g, 0, none⟩) m sc) := (clb.row (cla.row r6)).cell (i := 1) (by omega)
          have a2 : wa.cell? ⟨g, i * 4 + 1 + 1, none⟩ = some (.slice va vn vc) := (cla.cell _).trans h2
          have a2' : wa.cell? ⟨g, i * 4 + 2, none⟩ = some (.slice va vn vc) := (cla.cell _).trans h2
          have d3 : wb.cell? ⟨g, i * 4 + 3, none⟩ = some (.slice pa pn pc) := ((clb.cell _).trans (cla.cell _)).trans h3
          have HD : Hid (Cl b g b6 v17 wd) := (show _ from ((HC.out.trans cla).trans clb).trans cld)
          clear hsp hg hcl h2 h3 t1 t2 t3 k1 k2 k3 o1 o2 o3 cla clb cld r6 e1 e2
          go_wp2
          go_light
          exact ⟨⟨i + 1, by go_num, by omega, g, fun _ => ⟨_, rfl⟩, HD.out⟩, by simp [intOf]; omega⟩
        · obtain rfl : i = m := by omega
          have bW : Below w2.heap.size w2 wr := ((HW.out v17 HV.out).2.1).trans (hcl.below (by have := HSP.out.1; omega))
          have b0 : Below w.heap.size w wr := B2.out.trans (bW.mono B2.out.size)
          have BW0 : Hid (Below w.heap.size w wr) := (show _ from b0)
          have XK := kalike_any n n _ _ x x wr (pairsAt.below OU.out bW (Nat.le_refl _)) (HP.out wr b0).1
          clear hg hcl r6 bW b0
          go_wp2_with fail
          refine XK.mono ?_
          rintro e w8 ⟨⟨bt, rfl, hbt⟩, b8⟩
          obtain rfl : bt = true := hbt.2 ⟨rfl, fun _ _ => rfl⟩
          have B8 : Hid (Below w.heap.size w w8) := (show Below w.heap.size w w8 from BW0.out.trans (b8.mono BW0.out.size))
          have XW := HAW.out w8 B8.out
          clear XK b8 hbt c6
          go_wp2_with fail
          refine XW.mono ?_
          rintro e w9 ⟨rfl, b9⟩
          clear XW
          go_wp2
          go_ret
          exact ⟨rfl, B8.out.trans (b9.mono B8.out.size)⟩
end Go.Proofs.YtkgegihkhdgdoaaDoor

/- The frame of a law's row: what was read reads behind the call as it did, where nothing old has turned. -/
namespace Go.Proofs.YtkgegihkhdgdoaaDoor
open Go.RowKit Go.Deep Go.ChangeShapes Go.WideShapes Go.ChangeAt

theorem below_trodAll {H : Type} {enc : TypeId × Value → H} {P : Program} (hl : laidOutB P = true) {W W' : World} (hb : Below W.heap.size W W') :
    ∀ {ts : List TypeId} {vs : List Value} {ds : List (DataW H)} {ps : List MemPlace}, (∀ t ∈ ts, P.readableRec t = true ∧ t < P.types.size) → DataW.TrodAll enc P W 0 (fun _ => true) true ts vs ds ps → (∀ x ∈ ps, x.block < W.heap.size) →
      DataW.TrodAll enc P W' 0 (fun b => decide (b < W.heap.size)) true ts vs ds ps
  | [], [], [], _, _, h, _ => h
  | t :: ts, v :: vs, d :: ds, ps, hts, h, hlt => by
    obtain ⟨p, q, h1, h2, e⟩ := h
    subst e
    exact ⟨p, q, Below.trod hl (hts t List.mem_cons_self).1 (hts t List.mem_cons_self).2 h1 hb (fun x hx => hlt x (List.mem_append_left _ hx)), below_trodAll hl hb (fun u hu => hts u (List.mem_cons_of_mem _ hu)) h2 (fun x hx => hlt x (List.mem_append_right _ hx)), rfl⟩

/-- WHAT A LAW's ROW ASKS BEHIND THE CALL, where the answer is true and nothing old has turned. -/
theorem law_post {H : Type} {enc : TypeId × Value → H} {P : Program} {spec : ChangeSpec} {f : Func} {W W' : World} {args : Array Value} {ds gs : List (DataW H)} {before : List MemPlace} {tb : TypeId}
    (hl : laidOutB P = true) (hts : ∀ t ∈ f.params.toList, P.readableRec t = true ∧ t < P.types.size) (hvars : spec.vars = []) (hres : f.resultTypes = #[tb]) (hbool : P.underlying tb = some .bool)
    (hspec : spec.fn H (ds ++ gs) = { results := [.lit (.bool true)], args := ds })
    (hW : DataW.Whole enc P f.params.toList spec.vars false W args.toList ds gs before) (hb : Below W.heap.size W W') : spec.post enc P f false true false false W args (.bool true) W' := by
  have hW' := hW
  have hlt := hW.lt
  obtain ⟨p, q, hA, hV, rfl, hfz, hnd⟩ := hW
  rw [hvars] at hV
  obtain ⟨rfl, rfl⟩ := trodVars_none hV
  refine ⟨ds, [], p ++ [], [], p, [], hW', ?_, ?_, ?_, ?_, fun h => by cases h⟩
  · rw [hspec, hres]
    exact trodAll_cons_mk (shut_bool hbool _) trodAll_mk0
  · rw [hspec]
    exact below_trodAll hl hb hts hA (fun x hx => hlt x (List.mem_append_left _ hx))
  · rw [hspec, hvars]; exact hV
  · exact hb.frame _

end Go.Proofs.YtkgegihkhdgdoaaDoor

/- The frame of a law's row, where no package variable is laid. -/
namespace Go.Proofs.YtkgegihkhdgdoaaDoor
open Go.RowKit Go.Deep Go.ChangeShapes Go.WideShapes Go.ChangeAt
theorem own : ownKnob Tryd.prog.godebug = none := by kernel_rfl
theorem laidOut : laidOutB Tryd.prog = true := by kernel_rfl
end Go.Proofs.YtkgegihkhdgdoaaDoor

/- Slices that came in, opened. -/
namespace Go.Proofs.YtkgegihkhdgdoaaDoor
open Go.RowKit Go.Deep Go.ChangeShapes Go.WideShapes

/-- A SLICE, opened at every index. -/
theorem open_any {H : Type} {enc : TypeId × Value → H} {P : Program} {w : World} {base b0 : Nat} {sp : Nat → Bool} {held : Bool} {r : Reach} {t e : TypeId} {v : Value} {d : DataW H} {ps : List MemPlace} (c : Nat)
    (hu : P.underlying t = some (.slice e)) (hc : P.cellsOf e = c) (hval : Value.okWide P w r b0 t v) (hd : DataW.Trod enc P w base sp held t v d ps) :
    (v = .slice none 0 0) ∨ ∃ pb po len cap : Nat, v = .slice (some ⟨pb, po, none⟩) len cap ∧ len ≤ cap ∧ cap ≤ maxLen ∧ pb < w.heap.size ∧
      ∀ i, i < len → ∃ (cs' : List Value) (n : Nat) (D : DataW H × List MemPlace), cs'.length = c ∧ (∀ j, j < c → w.cell? ⟨pb, po + i * c + j, none⟩ = cs'[j]?) ∧ DataW.trod enc P w base sp held n e cs' = some D := by
  obtain ⟨a, len, cap, rfl⟩ := okWide_slice hu hval
  obtain ⟨fuel, hf⟩ := hd
  rcases open_slice hu hf with ⟨h0, _⟩ | ⟨a', len', cap', m, n, D, Pl, h0, _, h1, h2, h3, _, h4⟩
  · left; simpa [Value.cells] using h0
  · right
    have h0' : a = some a' ∧ len = len' ∧ cap = cap' := by simpa [Value.cells] using h0
    obtain ⟨rfl, rfl, rfl⟩ := h0'
    have hlm : len ≤ m := by rw [h3]; split <;> omega
    simp only [Value.okWide, hu, Cell.okWide, Cell.ok] at hval
    obtain ⟨_, _, _, hsp, row, cells, hsh, _⟩ := hval
    obtain ⟨pb, po, spot⟩ := a'
    obtain rfl : spot = none := hsp
    refine ⟨pb, po, len, cap, rfl, h1, h2, ?_, fun i hi => ?_⟩
    · unfold World.shape? at hsh
      cases hq : w.heap[pb]? with
      | none => rw [hq] at hsh; cases hsh
      | some o => exact (Array.getElem?_eq_some_iff.1 hq).1
    · obtain ⟨cs', g1, g2⟩ := h4 i (by omega)
      rw [hc] at g1
      obtain ⟨_, hlen, hcell⟩ := World.cells?_some g1
      refine ⟨cs', n, _, hlen, fun j hj => ?_, g2⟩
      have e0 := hcell j (by omega)
      rw [add_add, Addr.add_mid] at e0
      rw [Nat.add_assoc]; exact e0
theorem open_bytes_slice {H : Type} {enc : TypeId × Value → H} {P : Program} {w : World} {base b0 : Nat} {sp : Nat → Bool} {held : Bool} {r : Reach} {t e : TypeId} {v : Value} {d : DataW H} {ps : List MemPlace}
    (hu : P.underlying t = some (.slice e)) (he : P.underlying e = some (.int .u8)) (hc : P.cellsOf e = 1) (hval : Value.okWide P w r b0 t v) (hd : DataW.Trod enc P w base sp held t v d ps) : ∃ l, isBytes w v l := by
  rcases open_any 1 hu hc hval hd with rfl | ⟨pb, po, len, cap, rfl, h1, h2, h3, h4⟩
  · exact ⟨[], Or.inl ⟨rfl, rfl⟩⟩
  · have each : ∀ i, i < len → ∃ z : Int, w.cell? ⟨pb, po + i, none⟩ = some (.int .u8 z) ∧ 0 ≤ z ∧ z ≤ 255 := fun i hi => by
      obtain ⟨cs', n, D, g1, g2, g3⟩ := h4 i hi
      obtain ⟨z, rfl, _, hw⟩ := DataW.trod_int he g3
      have := g2 0 (by omega)
      rw [Nat.mul_one, Nat.add_zero] at this
      exact ⟨z, this, bounds_u8 hw⟩
    obtain ⟨f, hf⟩ := choose_lt each
    have hg : ∀ i, i < len → ((List.range len).map f).getD i 0 = f i := fun i hi => by
      rw [List.getD_eq_getElem?_getD, List.getElem?_map, List.getElem?_range hi]; rfl
    refine ⟨(List.range len).map f, Or.inr ⟨pb, po, cap, by simp, by simpa using h1, h2, h3, fun i hi => ?_, fun i => ?_⟩⟩
    · have hi' : i < len := by simpa using hi
      rw [hg i hi']; exact (hf i hi').1
    · by_cases hi : i < len
      · rw [hg i hi]; exact (hf i hi).2
      · rw [List.getD_eq_getElem?_getD, List.getElem?_eq_none (by simp; omega)]; exact ⟨by simp, by simp⟩
end Go.Proofs.YtkgegihkhdgdoaaDoor

/- Slices of slices of bytes that came in, opened. -/
namespace Go.Proofs.YtkgegihkhdgdoaaDoor
set_option maxRecDepth 100000
open Go.RowKit Go.Deep Go.ChangeShapes Go.WideShapes

theorem open_inner {H : Type} {enc : TypeId × Value → H} {w : World} {base : Nat} {held : Bool} {n : Nat} {u : Value} {D : DataW H × List MemPlace}
    (hd : DataW.trod enc Tryd.prog w base (fun _ => true) held n 23 [u] = some D) : ∃ l, anyBytes w u l := by
  rcases open_slice1 Tryd.underlying23 (by kernel_rfl) hd with ⟨h0, _⟩ | ⟨a, len, cap, m, n', V, D', Pl, h0, _, h1, h2, h3, _, h4⟩
  · exact ⟨[], Or.inl (Or.inl ⟨by simpa using h0, rfl⟩)⟩
  · obtain rfl : u = .slice (some a) len cap := by simpa using h0
    simp only [if_true] at h3
    subst h3
    by_cases hc : m = 0
    · subst hc
      obtain rfl : len = 0 := by omega
      exact ⟨[], Or.inr ⟨⟨_, rfl⟩, rfl⟩⟩
    · have h00 := (h4 0 (by omega)).1
      have ha0 : a.add 0 = a := by unfold Addr.add; rw [if_pos rfl]
      rw [ha0] at h00
      have hsp : a.spot = none := by
        unfold World.cell? at h00
        split at h00
        · cases hs : a.spot with
          | none => rfl
          | some q => rw [hs] at h00; simp at h00
        · cases h00
      obtain ⟨pb, po, spot⟩ := a
      obtain rfl : spot = none := hsp
      have hlt := World.block_lt_of_cell? _ _ h00
      have each : ∀ i, i < len → ∃ z : Int, w.cell? ⟨pb, po + i, none⟩ = some (.int .u8 z) ∧ 0 ≤ z ∧ z ≤ 255 := fun i hi => by
        obtain ⟨e1, e2⟩ := h4 i (by omega)
        rw [Addr.add_mid] at e1
        obtain ⟨z, hz, _, hw⟩ := DataW.trod_int Tryd.underlying5 e2
        have hz' : V i = .int .u8 z := by simpa using hz
        exact ⟨z, by rw [e1, hz'], bounds_u8 hw⟩
      obtain ⟨f, hf⟩ := choose_lt each
      have hg : ∀ i, i < len → ((List.range len).map f).getD i 0 = f i := fun i hi => by
        rw [List.getD_eq_getElem?_getD, List.getElem?_map, List.getElem?_range hi]; rfl
      refine ⟨(List.range len).map f, Or.inl (Or.inr ⟨pb, po, m, by simp, by simpa using h1, h2, hlt, fun i hi => ?_, fun i => ?_⟩)⟩
      · have hi' : i < len := by simpa using hi
        rw [hg i hi']; exact (hf i hi').1
      · by_cases hi : i < len
        · rw [hg i hi]; exact (hf i hi).2
        · rw [List.getD_eq_getElem?_getD, List.getElem?_eq_none (by simp; omega)]; exact ⟨by simp, by simp⟩
end Go.Proofs.YtkgegihkhdgdoaaDoor

/- Pairs that came in, opened. -/
namespace Go.Proofs.YtkgegihkhdgdoaaDoor
set_option maxRecDepth 100000
open Go.RowKit Go.Deep Go.ChangeShapes Go.WideShapes

theorem trod_struct2 {H : Type} {enc : TypeId × Value → H} {P : Program} {w : World} {base : Nat} {spare : Nat → Bool} {held : Bool} {t : TypeId} {f0 f1 : Field} {fuel : Nat} {cs : List Value} {x : DataW H × List MemPlace} (ht : P.underlying t = some (.struct #[f0, f1])) (h : DataW.trod enc P w base spare held fuel t cs = some x) :
    ∃ y0 y1 n, cs.length = P.cellsOf t ∧ DataW.trod enc P w base spare held n f0.type ((cs.drop f0.offset).take (P.cellsOf f0.type)) = some y0 ∧ DataW.trod enc P w base spare held n f1.type ((cs.drop f1.offset).take (P.cellsOf f1.type)) = some y1 := by
  obtain ⟨xs, n, _, rfl, hl, hlen, hf⟩ := DataW.trod_struct ht h
  match xs, hlen with
  | [y0, y1], _ => exact ⟨y0, y1, n, hl, by simpa using hf 0 f0 rfl, by simpa using hf 1 f1 rfl⟩
theorem drop_one {cs : List Value} {o : Nat} (h : o < cs.length) : (cs.drop o).take 1 = [cs[o]] := by
  rw [List.drop_eq_getElem_cons h]; rfl
theorem pair_cells {H : Type} {enc : TypeId × Value → H} {w : World} {base : Nat} {held : Bool} {n : Nat} {cs' : List Value} {D : DataW H × List MemPlace} (g1 : cs'.length = 2)
    (g3 : DataW.trod enc Tryd.prog w base (fun _ => true) held n 38 cs' = some D) : ∃ (kc vc : Value) (k v : List Int), cs'[0]? = some kc ∧ cs'[1]? = some vc ∧ anyBytes w kc k ∧ anyBytes w vc v := by
  have cb : Tryd.prog.cellsOf 23 = 1 := by kernel_rfl
  obtain ⟨y0, y1, m, _, t0, t1⟩ := trod_struct2 Tryd.underlying38 g3
  simp only [cb] at t0 t1
  rw [drop_one (by omega)] at t0 t1
  obtain ⟨l0, h0⟩ := open_inner t0
  obtain ⟨l1, h1⟩ := open_inner t1
  exact ⟨_, _, l0, l1, List.getElem?_eq_getElem (by omega), List.getElem?_eq_getElem (by omega), h0, h1⟩
theorem open_pairs {H : Type} {enc : TypeId × Value → H} {w : World} {base b0 : Nat} {held : Bool} {r : Reach} {v : Value} {d : DataW H} {ps : List MemPlace}
    (hval : Value.okWide Tryd.prog w r b0 22 v) (hd : DataW.Trod enc Tryd.prog w base (fun _ => true) held 22 v d ps) : ∃ n x, pairsAt w v n x := by
  rcases open_any 2 Tryd.underlying22 (by kernel_rfl) hval hd with rfl | ⟨pb, po, len, cap, rfl, h1, h2, h3, h4⟩
  · exact ⟨0, fun _ => ([], []), none, 0, rfl, Nat.le_refl _, by decide, fun i hi => by omega⟩
  · have each : ∀ i, i < len → ∃ x : Pr, ∃ kc vc, w.cell? ⟨pb, po + i * 2, none⟩ = some kc ∧ w.cell? ⟨pb, po + i * 2 + 1, none⟩ = some vc ∧ anyBytes w kc x.1 ∧ anyBytes w vc x.2 := fun i hi => by
      obtain ⟨cs', n, D, g1, g2, g3⟩ := h4 i hi
      obtain ⟨kc, vc, k, v, e0, e1, k0, k1⟩ := pair_cells (by omega) g3
      exact ⟨(k, v), kc, vc, by have := g2 0 (by omega); rw [Nat.add_zero] at this; rw [this]; exact e0, by rw [g2 1 (by omega)]; exact e1, k0, k1⟩
    haveI : Inhabited Pr := ⟨([], [])⟩
    obtain ⟨f, hf⟩ := choose_lt each
    exact ⟨len, f, some ⟨pb, po, none⟩, cap, rfl, h1, h2, fun i hi => by
      obtain ⟨kc, vc, e0, e1, k0, k1⟩ := hf i hi
      exact ⟨pb, po, kc, vc, rfl, h3, e0, e1, k0, k1⟩⟩
theorem open_key {H : Type} {enc : TypeId × Value → H} {w : World} {base b0 : Nat} {held : Bool} {r : Reach} {v : Value} {d : DataW H} {ps : List MemPlace}
    (hval : Value.okWide Tryd.prog w r b0 23 v) (hd : DataW.Trod enc Tryd.prog w base (fun _ => true) held 23 v d ps) : ∃ l, anyBytes w v l := by
  obtain ⟨l, h⟩ := open_bytes_slice Tryd.underlying23 Tryd.underlying5 (by kernel_rfl) hval hd
  exact ⟨l, Or.inl h⟩
end Go.Proofs.YtkgegihkhdgdoaaDoor

/- The table of the rounds' constants, as the row lists it; a world that holds it, for the witness. -/
namespace Go.Proofs.YtkgegihkhdgdoaaDoor
set_option maxRecDepth 100000
open Go.RowKit Go.Deep Go.ChangeShapes Go.WideShapes Go.ChangeAt

/-- the table's name. -/
def tabName : String := Rows.keyedShowsRow.named.getD 0 ""
theorem gTab : Tryd.prog.globalNamed tabName = some 1 := by kernel_rfl
theorem gTabType : (Tryd.prog.globals[1]?).map (·.type) = some 172 := by kernel_rfl
theorem cellsTab : Tryd.prog.cellsOf 172 = 64 := by kernel_rfl
theorem cellsWord : Tryd.prog.cellsOf 152 = 1 := by kernel_rfl
/-- what the row's list gives. -/
theorem laid_tab {W : World} (h : laidMetH Tryd.prog Rows.keyedShowsRow.laid W) : tabIs W := by
  have ht : Lib.TabIs Tryd.prog W tabName .u32 kList := Lib.tabIs_of_head (rest := []) gTab gTabType Tryd.underlying172 Tryd.underlying152 cellsWord cellsTab h
  refine ⟨?_, fun i hi => ht.cell gTab i (by simpa [kList] using hi)⟩
  have h0 := ht.cell gTab 0 (by decide)
  exact block_lt_of_cell h0
/-- the table's block, laid. -/
def kObj : Obj → Obj
  | .cells _ t frozen => .cells #[.int .u32 1116352408, .int .u32 1899447441, .int .u32 3049323471, .int .u32 3921009573, .int .u32 961987163, .int .u32 1508970993, .int .u32 2453635748, .int .u32 2870763221, .int .u32 3624381080, .int .u32 310598401, .int .u32 607225278, .int .u32 1426881987, .int .u32 1925078388, .int .u32 2162078206, .int .u32 2614888103, .int .u32 3248222580, .int .u32 3835390401, .int .u32 4022224774, .int .u32 264347078, .int .u32 604807628, .int .u32 770255983, .int .u32 1249150122, .int .u32 1555081692, .int .u32 1996064986, .int .u32 2554220882, .int .u32 2821834349, .int .u32 2952996808, .int .u32 3210313671, .int .u32 3336571891, .int .u32 3584528711, .int .u32 113926993, .int .u32 338241895, .int .u32 666307205, .int .u32 773529912, .int .u32 1294757372, .int .u32 1396182291, .int .u32 1695183700, .int .u32 1986661051, .int .u32 2177026350, .int .u32 2456956037, .int .u32 2730485921, .int .u32 2820302411, .int .u32 3259730800, .int .u32 3345764771, .int .u32 3516065817, .int .u32 3600352804, .int .u32 4094571909, .int .u32 275423344, .int .u32 430227734, .int .u32 506948616, .int .u32 659060556, .int .u32 883997877, .int .u32 958139571, .int .u32 1322822218, .int .u32 1537002063, .int .u32 1747873779, .int .u32 1955562222, .int .u32 2024104815, .int .u32 2227730452, .int .u32 2361852424, .int .u32 2428436474, .int .u32 2756734187, .int .u32 3204031479, .int .u32 3329325298] t frozen
  | o => o
end Go.Proofs.YtkgegihkhdgdoaaDoor
