import Derived.ProofKit
import Derived.OpenShut
import Derived.Test.YtkgegihkhdgdoaaDoorRows
import Derived.ChangeSlices
import Derived.Deep.Slices
import Derived.Deep.Strs
import Derived.SizedLaws
import Derived.Test.YtkgegihkhdgdoaaDoorCards
import Derived.Deep.DeepHandedRow
import Derived.Lib.LaidTab
import Derived.Test.YtkgegihkhdgdoaaDoorOwn1
import Derived.Test.YtkgegihkhdgdoaaDoorOwn3
import Derived.Test.YtkgegihkhdgdoaaDoorOwn4
import Derived.Test.YtkgegihkhdgdoaaDoorOwn8
import Derived.Test.YtkgegihkhdgdoaaDoorOwn9
import Derived.Test.YtkgegihkhdgdoaaDoorOwn10
import Derived.Test.YtkgegihkhdgdoaaDoorOwn11
set_option linter.unusedVariables false
set_option linter.unusedSimpArgs false
/- KeyedBytes: its walk. -/
namespace Go.Proofs.YtkgegihkhdgdoaaDoor
set_option linter.unusedSimpArgs false
set_option linter.unusedVariables false
open Go.RowKit Go.Deep

theorem conv8C (w : World) (v : Value) (l : List Int) (h : isBytes w v l) : (convert 23 9 v).run Tryd.prog w = .ok (.string (strOf l)) w :=
  run_convert_bytes (P := Tryd.prog) w 23 9 5 v l Tryd.underlying23 Tryd.underlying5 Tryd.underlying9 h
set_option maxHeartbeats 8000000 in
set_option maxRecDepth 100000 in
theorem kbytesL_any (m : Nat) (sv av bv : Value) (cnt : Int) (y0 : Nat → Sp) (ah be : List Int) (w : World) (hcn : inI64 cnt) (hs0 : spotsAt w sv m y0) (ha : isBytes w av ah) (hb : isBytes w bv be) (ht : tabIs w) :
    Calls Tryd.prog 5 #[.agg #[.int .i64 cnt, sv], av, bv] w fun e w' => e = .returned (.bool true) ∧ Below w.heap.size w w' := by
  have hzse := zero_se
  have hb0 := build_se0
  obtain ⟨y, hye⟩ : ∃ y : Nat → Sp, y = fun i => if i < m then y0 i else ⟨0, ([], []), []⟩ := ⟨_, rfl⟩
  have hs : spotsAt w sv m y := by
    obtain ⟨a, cap, h1, h2, h3, h4⟩ := hs0
    refine ⟨a, cap, h1, h2, h3, fun i hi => ?_⟩
    have e : y i = y0 i := by rw [hye]; exact if_pos hi
    rw [e]; exact h4 i hi
  have hyo : ∀ i, ¬ i < m → (y i).path = [] := fun i hi => by rw [hye]; show (if i < m then y0 i else _).path = []; rw [if_neg hi]
  clear hye hs0
  obtain ⟨sa, sc, hv, hmc, hcm, _⟩ := (id hs : spotsAt w sv m y)
  subst hv
  obtain ⟨aa, ac, rfl, _⟩ := ha.slice
  obtain ⟨ba, bc, rfl, _⟩ := hb.slice
  obtain ⟨w1, hw1⟩ : ∃ w1, w1 = w.alloc (.cells #[.int .i64 cnt, .slice sa m sc] 29) := ⟨_, rfl⟩
  have b1 : Below w.heap.size w w1 := by rw [hw1]; exact (Below.refl _ _).alloc (Nat.le_refl _) _
  have rS : w1.rowIs w.heap.size 29 2 (seG cnt (.slice sa m sc)) := by
    have r := rowIs_box w 29 2 (seG cnt (.slice sa m sc))
    rw [hw1]; exact r
  have FACT : Hid (∀ wz, Below w1.heap.size w1 wz → Below w.heap.size w wz ∧ (∀ j, j < 2 → wz.cell? ⟨w.heap.size, 0 + j, none⟩ = some ((seG cnt (.slice sa m sc)) j)) ∧ spotsAt wz (.slice sa m sc) m y ∧ isBytes wz (.slice aa ah.length ac) ah ∧ isBytes wz (.slice ba be.length bc) be ∧ tabIs wz) := (show _ from fun wz hz => by
    have hz' : Below w.heap.size w wz := b1.trans (hz.mono b1.size)
    exact ⟨hz', fun j hj => by rw [Nat.zero_add]; exact (hz.row rS rS.lt).cell hj, hs.below hz' (Nat.le_refl _), ha.below hz' (Nat.le_refl _), hb.below hz' (Nat.le_refl _), ht.below hz' ht.1⟩)
  have HB : Hid (inI64 cnt ∧ (∀ i, ¬ i < m → (y i).path = [])) := (show _ ∧ _ from ⟨hcn, hyo⟩)
  have hl1 := (FACT.out w1 (Below.refl _ _)).2.1
  have X1 := kwide_any m cnt (.slice sa m sc) y w1 (FACT.out w1 (Below.refl _ _)).2.2.1
  rw [← seG_row] at X1
  have ha0 : (0 : Int) ≤ (ah.length : Int) := by omega
  have hb0' : (0 : Int) ≤ (be.length : Int) := by omega
  clear hs ha hb ht hcn hyo hmc hcm b1 rS
  go_enter Tryd.func5, Tryd.ntmps5
  go_upto_region 1 with fail
  rw [← hw1]
  clear hw1
  go_wp2_with (first | (refine wpList_load_w 29 (.tmp 3) rfl rfl w.heap.size 0 2 (seG cnt (.slice sa m sc)) rfl _ Tryd.underlying29 rfl hiSe hl1 ?_))
  refine X1.mono ?_
  rintro e w2 ⟨⟨b, rfl, hb⟩, b2⟩
  clear X1 hl1
  have B2 : Hid (Below w1.heap.size w1 w2) := (show _ from b2)
  have XA := kawake_any w2 (FACT.out w2 b2).2.2.2.2.2
  clear b2
  cases b with
  | true =>
    clear hb
    go_wp2_with fail
    refine XA.mono ?_
    rintro e w9 ⟨rfl, b9⟩
    have FI : Hid (Below w.heap.size w w9) := (show _ from by have h := (FACT.out w2 B2.out).1; exact h.trans (b9.mono h.size))
    clear XA b9
    go_wp2
    go_ret
    exact ⟨rfl, FI.out⟩
  | false =>
    obtain ⟨hm, hx⟩ := hb rfl
    have HM : Hid (m ≤ 10 ∧ ∀ i, i < m → (y i).pr.1.length + (y i).pr.2.length ≤ 100000 ∧ (y i).path.length ≤ 100) := (show _ ∧ _ from ⟨hm, hx⟩)
    clear hb hm hx
    by_cases hal : (ah.length : Int) > 1000
    · skip
      go_wp2_with fail
      refine XA.mono ?_
      rintro e w9 ⟨rfl, b9⟩
      have FI : Hid (Below w.heap.size w w9) := (show _ from by have h := (FACT.out w2 B2.out).1; exact h.trans (b9.mono h.size))
      clear XA b9
      go_wp2
      go_ret
      exact ⟨rfl, FI.out⟩
    by_cases hbl : (be.length : Int) > 1000
    · skip
      go_wp2_with fail
      refine XA.mono ?_
      rintro e w9 ⟨rfl, b9⟩
      have FI : Hid (Below w.heap.size w w9) := (show _ from by have h := (FACT.out w2 B2.out).1; exact h.trans (b9.mono h.size))
      clear XA b9
      go_wp2
      go_ret
      exact ⟨rfl, FI.out⟩
    clear XA
    have HAB : Hid (ah.length ≤ 1000 ∧ be.length ≤ 1000) := (show _ ∧ _ from ⟨by omega, by omega⟩)
    have XC := rcopy_any cnt m (.slice sa m sc) y w2 (FACT.out w2 B2.out).2.2.1 HM.out.1 (fun i hi => by have := HM.out.2 i hi; omega)
    rw [← seG_row] at XC
    have hl2 := (FACT.out w2 B2.out).2.1
    go_wp2_with (first | (refine wpList_load_w 29 (.tmp 3) rfl rfl w.heap.size 0 2 (seG cnt (.slice sa m sc)) rfl _ Tryd.underlying29 rfl hiSe hl2 ?_))
    refine XC.mono ?_
    rintro e w3 ⟨u, rfl, ho, b3⟩
    clear XC hl2
    obtain ⟨oa, oc, rfl⟩ : ∃ oa oc, u = .slice oa m oc := by obtain ⟨a, c, e, _⟩ := ho; exact ⟨a, c, e⟩
    rw [← seG_row]
    obtain ⟨wq, hwq⟩ : ∃ wq, wq = w3.alloc (.cells (rowV 2 (seG 0 (.slice none 0 0))) 29) := ⟨_, rfl⟩
    have bq : Below w3.heap.size w3 wq := by rw [hwq]; exact (Below.refl _ _).alloc (Nat.le_refl _) _
    have rq : wq.rowIs w3.heap.size 29 2 (seG 0 (.slice none 0 0)) := by rw [hwq]; exact rowIs_box _ _ _ _
    have HQ : Hid (Below w1.heap.size w1 w3 ∧ Below w3.heap.size w3 wq ∧ wq.rowIs w3.heap.size 29 2 (seG 0 (.slice none 0 0)) ∧ spotsAt w3 (.slice oa m oc) m y) := (show _ ∧ _ ∧ _ ∧ _ from ⟨B2.out.trans (b3.mono B2.out.size), bq, rq, ho⟩)
    clear b3 bq rq ho
    go_upto_region 4 with (first | (rw [← hwq]; clear hwq; refine wpList_store_row rfl 29 _ _ rfl rfl w3.heap.size 0 2 (seG cnt (.slice oa m oc)) rfl rfl hiSe (seG_one _ _ _ _) _ _ _ HQ.out.2.2.1 (by omega) ?_; intro w4 r4 z4 b4))
    have r4' : w4.rowIs w3.heap.size 29 2 (seG cnt (.slice oa m oc)) := r4.congr (fun i hi => by rw [if_pos (by omega), Nat.sub_zero])
    have b34 : Below w3.heap.size w3 w4 := HQ.out.2.1.trans (b4.below' (Nat.le_refl _) HQ.out.2.1.size)
    have b14 : Below w1.heap.size w1 w4 := HQ.out.1.trans (b34.mono HQ.out.1.size)
    obtain ⟨b7, hb7⟩ : ∃ b7, b7 = w3.heap.size := ⟨_, rfl⟩
    rw [← hb7] at r4' ⊢
    have ho4 : spotsAt w4 (.slice oa m oc) m y := HQ.out.2.2.2.below b34 (Nat.le_refl _)
    have FB : Hid (∀ wz, Below w4.heap.size w4 wz → Below w1.heap.size w1 wz ∧ (∀ j, j < 2 → wz.cell? ⟨b7, 0 + j, none⟩ = some ((seG cnt (.slice oa m oc)) j)) ∧ spotsAt wz (.slice oa m oc) m y) := (show _ from fun wz hz => ⟨b14.trans (hz.mono b14.size), fun j hj => by rw [Nat.zero_add]; exact (hz.row r4' r4'.lt).cell hj, ho4.below hz (Nat.le_refl _)⟩)
    have hl4 := (FB.out w4 (Below.refl _ _)).2.1
    have XB := kbytes_any ah (.slice aa ah.length ac) cnt m (.slice oa m oc) y w4 (FACT.out w4 b14).2.2.2.1 (by have := HAB.out.1; omega) ho4 HM.out.1 (fun i hi => by have := HM.out.2 i hi; omega)
    rw [← seG_row] at XB
    clear r4 r4' z4 b4 b34 b14 hb7 ho4
    go_wp2_with (first | (refine wpList_load_w 29 (.tmp 7) rfl rfl b7 0 2 (seG cnt (.slice oa m oc)) rfl _ Tryd.underlying29 rfl hiSe hl4 ?_))
    refine XB.mono ?_
    rintro e w5 ⟨vb, rfl, n5, b5⟩
    clear XB hl4
    obtain ⟨lb, hlb⟩ : ∃ lb, lb = ah ++ seenB cnt m y := ⟨_, rfl⟩
    rw [← hlb] at n5
    have hlen : 2 ≤ lb.length := by rw [hlb, List.length_append]; have := seenB_two cnt m y; omega
    obtain ⟨va, vc, rfl⟩ := n5.slen
    obtain ⟨g5, hg5⟩ : ∃ g, va = some ⟨g, 0, none⟩ := by
      obtain ⟨⟨_, h | ⟨g, cap, cur, he, _⟩⟩, _⟩ := n5
      · rw [List.length_map] at h; omega
      · injection he with h1 h2 h3; exact ⟨g, h1⟩
    subst hg5
    have N5 : Hid (newBytes w5 w4.heap.size (.slice (some ⟨g5, 0, none⟩) lb.length vc) lb ∧ Below w4.heap.size w4 w5 ∧ lb = ah ++ seenB cnt m y) := (show _ ∧ _ ∧ _ from ⟨n5, b5, hlb⟩)
    clear n5 b5 hlb hlen
    go_upto_region 5 with fail
    have BD : Below w5.heap.size w5 w5.drew := (Below.refl _ _).drew
    have HR : Hid (∀ wz, Below w5.heap.size w5 wz → ∀ j, j < 2 → wz.cell? ⟨w.heap.size, 0 + j, none⟩ = some ((seG cnt (.slice sa m sc)) j)) := (show _ from fun wz hz => (FACT.out wz ((FB.out wz (N5.out.2.1.trans (hz.mono N5.out.2.1.size))).1)).2.1)
    refine wp_region_noPanic ?_
    refine wp_region_held_drew (S := fun w' => Below w5.heap.size w5 w') (by kernel_rfl) BD (fun hHeld => ?_)
    refine take_op (i := 1) (v := ?v1) rfl (by kernel_rfl) (by kernel_rfl) (by kernel_rfl) (fun _ _ _ h => h) rfl hHeld ?y1 ?r1
    case y1 => (intro wz hz; go_simp; first | done | with_reducible rfl)
    try simp only [Act.put, List.setIfInBounds_toArray, List.set_cons_zero, List.set_cons_succ]
    refine take_load (i := 3) rfl (by kernel_rfl) (by kernel_rfl) (by kernel_rfl) 29 _ rfl w.heap.size 0 2 (seG cnt (.slice sa m sc)) rfl _ Tryd.underlying29 rfl hiSe (fun _ _ _ h => h) rfl hHeld (fun wz hz => HR.out wz hz) ?_
    try simp only [Act.put, List.setIfInBounds_toArray, List.set_cons_zero, List.set_cons_succ]
    obtain ⟨V1, hV1⟩ : ∃ V1, V1 = w5.drew.alloc (.cells #[] 5) := ⟨_, rfl⟩
    have D1 : Below w5.heap.size w5 V1 := by rw [hV1]; exact BD.alloc BD.size _
    have Z1 : newBytes V1 w5.heap.size (.slice (some ⟨w5.drew.heap.size, 0, none⟩) 0 0) [] := by rw [hV1]; exact newBytes.zero _ _ BD.size
    have hV1s : w5.drew.heap.size ≤ V1.heap.size := by rw [hV1]; simp
    refine take_one (i := 0) rfl (by kernel_rfl) rfl (fun K hK => ?_)
    refine wp_of_run (exec_bslice0' 23 0 rfl (build_b0 w5.drew)) ?_
    rw [← hV1]
    refine hK.out _ _ D1 (fun hHeld => ?_)
    clear hK K hV1
    try simp only [Act.put, List.setIfInBounds_toArray, List.set_cons_zero, List.set_cons_succ]
    have A1 : Below w1.heap.size w1 V1 := (FB.out V1 (N5.out.2.1.trans (D1.mono N5.out.2.1.size))).1
    obtain ⟨v2, V2, hr2, n2, g2, _⟩ := any_append_run V1 w5.heap.size _ (.slice aa ah.length ac) [] ah Z1 (Or.inl (FACT.out V1 A1).2.2.2.1) (by have := HAB.out.1; rw [List.length_nil]; omega) D1.size
    rw [List.nil_append] at n2
    have D2 : Below w5.heap.size w5 V2 := D1.trans (below_grown g2 (fun k hk => (Z1.block k hk).1) D1.size)
    obtain ⟨a2, c2, rfl⟩ := n2.slen
    refine take_one (i := 2) rfl (by kernel_rfl) rfl (fun K hK => ?_)
    refine wp_append_run (.tmp 30) (.tmp 31) 23 rfl rfl rfl hr2 ?_
    refine hK.out _ _ D2 (fun hHeld => ?_)
    clear hK K hr2 g2 Z1 hV1s
    try simp only [Act.put, List.setIfInBounds_toArray, List.set_cons_zero, List.set_cons_succ]
    have A2 : Below w1.heap.size w1 V2 := (FB.out V2 (N5.out.2.1.trans (D2.mono N5.out.2.1.size))).1
    have XR := rbytesS_any cnt m (.slice sa m sc) y V2 (FACT.out V2 A2).2.2.1 HM.out.1 (fun i hi => by have := HM.out.2 i hi; omega)
    rw [← seG_row] at XR
    refine take_one (i := 4) rfl (by kernel_rfl) rfl (fun K hK => ?_)
    go_simp
    refine Calls.mono XR ?_
    rintro e V3 ⟨v3, rfl, n3, b3⟩
    clear XR
    have D3 : Below w5.heap.size w5 V3 := D2.trans (b3.mono D2.size)
    obtain ⟨v4, V4, hr4, n4, g4, _⟩ := any_append_run V3 w5.heap.size (.slice a2 ah.length c2) v3 ah (seenB cnt m y) (n2.below b3 (Nat.le_refl _)) (Or.inl n3.is) (by
      have h1 := HAB.out.1
      have h2 : (seenB cnt m y).length ≤ 100000000 := by
        have e1 := flatTo_most (spsB y) 2000000 m (fun i hi => spotB_le (y i) (by have := HM.out.2 i hi; omega) (by have := HM.out.2 i hi; omega) (by
          obtain ⟨g2, o2, _, _, _, hc⟩ := (FACT.out V2 A2).2.2.1.at (by omega)
          obtain ⟨_, _, _, _, _, _, _, H⟩ := hc i (by omega)
          exact (H V2 (Below.refl _ _)).2.2.2.2.2.2.1))
        have e2 := numB_le (u64I cnt)
        have e3 := numB_le (m : Int)
        have e4 := HM.out.1
        unfold seenB
        rw [List.length_append, List.length_append]
        omega
      omega) D3.size
    have D4 : Below w5.heap.size w5 V4 := D3.trans (below_grown g4 (fun k hk => ((n2.below b3 (Nat.le_refl _)).block k hk).1) D3.size)
    obtain ⟨a3, c3, hv3⟩ := n3.slen
    refine hK.out _ _ D3 (fun hHeld => ?_)
    clear hK K
    try simp only [Act.put, List.setIfInBounds_toArray, List.set_cons_zero, List.set_cons_succ]
    refine take_one (i := 5) rfl (by kernel_rfl) rfl (fun K hK => ?_)
    refine wp_append_run (.tmp 32) (.tmp 34) 23 rfl rfl rfl hr4 ?_
    refine hK.out _ _ D4 (fun hHeld => ?_)
    clear hK K hr4
    try simp only [Act.put, List.setIfInBounds_toArray, List.set_cons_zero, List.set_cons_succ]
    rw [← N5.out.2.2] at n4
    obtain ⟨a4, c4, rfl⟩ := n4.slen
    refine take_op (i := 6) (v := ?v6) rfl (by kernel_rfl) (by kernel_rfl) (by kernel_rfl) (fun _ _ _ h => h) rfl hHeld ?y6 ?r6
    case y6 => (intro wz hz; go_simp; first | done | with_reducible rfl)
    try simp only [Act.put, List.setIfInBounds_toArray, List.set_cons_zero, List.set_cons_succ]
    refine wpAnyH_done (by kernel_rfl) ?_ _
    refine NoPanic.normal ?_
    have W4 : Hid (Below w4.heap.size w4 V4 ∧ isBytes V4 (.slice a4 lb.length c4) lb ∧ newBytes V4 w4.heap.size (.slice (some ⟨g5, 0, none⟩) lb.length vc) lb) := (show _ ∧ _ ∧ _ from ⟨N5.out.2.1.trans (D4.mono N5.out.2.1.size), n4.is, N5.out.1.below D4 (Nat.le_refl _)⟩)
    clear hHeld n4 D4 D3 D2 D1 A1 A2 n2 n3 b3 g4 BD hv3
    have q1 := conv8C V4 _ lb W4.out.2.2.is
    have q2 := conv8C V4 _ lb W4.out.2.1
    have l7 := (FB.out V4 W4.out.1).2.1
    have l3 := (FACT.out V4 (FB.out V4 W4.out.1).1).2.1
    have XS := rsames_any cnt cnt m m (.slice oa m oc) (.slice sa m sc) y y V4 (FB.out V4 W4.out.1).2.2 (FACT.out V4 (FB.out V4 W4.out.1).1).2.2.1 (fun i hi => by have := (HM.out.2 i hi).2; omega)
    rw [← seG_row, ← seG_row] at XS
    go_wp2_with (first | (refine wpList_load_w 29 (.tmp 7) rfl rfl b7 0 2 (seG cnt (.slice oa m oc)) rfl _ Tryd.underlying29 rfl hiSe l7 ?_) | (refine wpList_load_w 29 (.tmp 3) rfl rfl w.heap.size 0 2 (seG cnt (.slice sa m sc)) rfl _ Tryd.underlying29 rfl hiSe l3 ?_))
    refine XS.mono ?_
    rintro e w6 ⟨⟨b, rfl, hb⟩, b46⟩
    obtain rfl : b = true := hb.2 ⟨rfl, rfl, fun _ _ => rfl⟩
    clear XS hb q1 q2 l7 l3
    have W6 : Hid (Below w4.heap.size w4 w6 ∧ newBytes w6 w4.heap.size (.slice (some ⟨g5, 0, none⟩) lb.length vc) lb) := (show _ ∧ _ from ⟨W4.out.1.trans (b46.mono W4.out.1.size), W4.out.2.2.below b46 (Nat.le_refl _)⟩)
    have hkl : ah.length ≤ lb.length := by rw [N5.out.2.2, List.length_append]; omega
    have hlbn : lb.length ≤ 100001000 := by
      have h1 := HAB.out.1
      have h2 : (seenB cnt m y).length ≤ 100000000 := by
        have e1 := flatTo_most (spsB y) 2000000 m (fun i hi => spotB_le (y i) (by have := HM.out.2 i hi; omega) (by have := HM.out.2 i hi; omega) (by
          obtain ⟨g2, o2, _, _, _, hc⟩ := (FB.out V4 W4.out.1).2.2.at (by omega)
          obtain ⟨_, _, _, _, _, _, _, H⟩ := hc i (by omega)
          exact (H V4 (Below.refl _ _)).2.2.2.2.2.2.1))
        have e2 := numB_le (u64I cnt)
        have e3 := numB_le (m : Int)
        have e4 := HM.out.1
        unfold seenB
        rw [List.length_append, List.length_append]
        omega
      rw [N5.out.2.2, List.length_append]; omega
    have hpth : ∀ i, i < m → ∀ q ∈ (y i).path, isSum q := fun i hi => by
      obtain ⟨g2, o2, _, _, _, hc⟩ := (FB.out V4 W4.out.1).2.2.at (by omega)
      obtain ⟨_, _, _, _, _, _, _, H⟩ := hc i (by omega)
      exact (H V4 (Below.refl _ _)).2.2.2.2.2.2.1
    have hat : ∀ i, i < m → inI64 (y i).at_ ∧ (y i).path.length ≤ 1000 := fun i hi => by
      obtain ⟨g2, o2, _, _, _, hc⟩ := (FB.out V4 W4.out.1).2.2.at (by omega)
      obtain ⟨_, _, _, _, _, _, hin, _⟩ := hc i (by omega)
      exact ⟨hin, by have := HM.out.2 i hi; omega⟩
    have hback := seen_back cnt m y be HM.out.1 HB.out.1 hpth (fun i hi => by have := HM.out.2 i hi; omega) hat
    clear hpth hat
    obtain ⟨o', ho', hsl⟩ := run_slice_from (P := Tryd.prog) 23 5 g5 0 lb.length vc ah.length Tryd.underlying23 (by kernel_rfl) hkl
    obtain ⟨v7, w7, hr7, is7, b67⟩ := tail_append_run w6 w4.heap.size g5 vc lb be ah.length o' (.slice ba be.length bc) W6.out.2 hkl ho' (FACT.out w6 (FB.out w6 W6.out.1).1).2.2.2.2.1 (by have := HAB.out.2; omega) W6.out.1.size
    obtain ⟨L8, hL8⟩ : ∃ L8, L8 = seenB cnt m y ++ be := ⟨_, rfl⟩
    have hdr : lb.drop ah.length ++ be = L8 := by rw [hL8, N5.out.2.2, List.drop_left]
    rw [hdr] at is7
    rw [← hL8] at hback
    have hL8n : L8.length ≤ 200000000 := by rw [← hdr, List.length_append, List.length_drop]; have := HAB.out.2; omega
    have XF := from_any v7 L8 w7 is7 (by omega)
    have HBK : Hid ((fitS cnt m y ∧ seE L8 = (be, false) ∧ seC L8 = cnt ∧ seM L8 = m ∧ ∀ i, i < m → seY L8 i = y i) ∨ (¬ fitS cnt m y ∧ (seE L8).2 = true)) := (show _ from hback)
    have W7 : Hid (Below w4.heap.size w4 w7 ∧ L8.length ≤ 200000000) := (show _ ∧ _ from ⟨W6.out.1.trans b67, hL8n⟩)
    obtain ⟨a7, c7, rfl, _⟩ := is7.slice
    clear hback hdr hL8 is7 b67 b46 hlbn ho' hL8n hHeld
    go_wp2_with (first | (at_builtin; refine wpList_append_run rfl (.tmp 50) (.tmp 51) _ rfl rfl rfl hr7 ?_))
    refine XF.mono ?_
    rintro e w8 ⟨c, rfl, c8, b8⟩
    clear XF hr7 hsl
    have XR := kread_s c (fun k => w7.heap.size ≤ k ∧ k < w8.heap.size) L8 w8 c8.s (fun k hk => hk.2) W7.out.2
    have W8 : Hid (Below w4.heap.size w4 w8 ∧ w7.heap.size ≤ c) := (show _ ∧ _ from ⟨W7.out.1.trans (b8.mono W7.out.1.size), c8.ge⟩)
    clear b8 c8
    go_wp2_with fail
    refine XR.mono ?_
    rintro e w9 ⟨b9, hcase⟩
    clear XR
    obtain ⟨wp, hwp⟩ : ∃ wp, wp = w9.alloc (.cells (rowV 2 (seG 0 (.slice none 0 0))) 29) := ⟨_, rfl⟩
    have bp : Below w9.heap.size w9 wp := by rw [hwp]; exact (Below.refl _ _).alloc (Nat.le_refl _) _
    have rp : wp.rowIs w9.heap.size 29 2 (seG 0 (.slice none 0 0)) := by rw [hwp]; exact rowIs_box _ _ _ _
    have W9 : Hid (Below w4.heap.size w4 w9 ∧ Below w9.heap.size w9 wp ∧ wp.rowIs w9.heap.size 29 2 (seG 0 (.slice none 0 0))) := (show _ ∧ _ ∧ _ from ⟨W8.out.1.trans ((b9.mono W8.out.1.size).below (by have := W8.out.2; have := W7.out.1.size; omega)), bp, rp⟩)
    clear b9 bp rp
    rcases hcase with ⟨hf, rfl, c9⟩ | ⟨hf, sv9, rfl, hsp, c9⟩
    · have hnf : ¬ fitS cnt m y := by
        rcases HBK.out with h | h
        · rw [h.2.1] at hf; cases hf
        · exact h.1
      have HNF : Hid (¬ fitS cnt m y) := (show _ from hnf)
      clear hf hnf
      go_upto_region 10 with (first | (rw [← hwp]; clear hwp; refine wpList_store_row rfl 29 _ _ rfl rfl w9.heap.size 0 2 (seG 0 (.slice none 0 0)) rfl rfl hiSe (seG_one _ _ _ _) _ _ _ W9.out.2.2 (by omega) ?_; intro w10 r10 z10 b10))
      have r10' : w10.rowIs w9.heap.size 29 2 (seG 0 (.slice none 0 0)) := r10.congr (fun i hi => by rw [if_pos (by omega), Nat.sub_zero])
      have b910 : Below w9.heap.size w9 w10 := W9.out.2.1.trans ((b10.mono W9.out.2.1.size).below (Nat.le_refl _))
      have b410 : Below w4.heap.size w4 w10 := W9.out.1.trans (b910.mono W9.out.1.size)
      have F10 : Hid (∀ wz, Below w10.heap.size w10 wz → Below w4.heap.size w4 wz ∧ (∀ j, j < 2 → wz.cell? ⟨w9.heap.size, 0 + j, none⟩ = some (seG 0 (.slice none 0 0) j)) ∧ cutS wz (fun k => w7.heap.size ≤ k ∧ k < w8.heap.size) c L8 true) := (show _ from fun wz hz => ⟨b410.trans (hz.mono b410.size), fun j hj => by rw [Nat.zero_add]; exact (hz.row r10' r10'.lt).cell hj, (c9.below b910 (Nat.le_refl _)).below hz (Nat.le_refl _)⟩)
      clear r10 r10' z10 b10 b910 b410 c9
      have l3 := (FACT.out w10 (FB.out w10 (F10.out w10 (Below.refl _ _)).1).1).2.1
      have XT := rfit_any m cnt (.slice sa m sc) y w10 (FACT.out w10 (FB.out w10 (F10.out w10 (Below.refl _ _)).1).1).2.2.1
      rw [← seG_row] at XT
      go_wp2_with (first | (refine wpList_load_w 29 (.tmp 3) rfl rfl w.heap.size 0 2 (seG cnt (.slice sa m sc)) rfl _ Tryd.underlying29 rfl hiSe l3 ?_))
      refine XT.mono ?_
      rintro e w11 ⟨⟨b, rfl, hb⟩, b11⟩
      obtain rfl : b = false := by
        cases b with
        | true => exact absurd (hb.1 rfl) HNF.out
        | false => rfl
      have H11 : Hid (Below w10.heap.size w10 w11) := (show _ from b11)
      have l11 := (F10.out w11 b11).2.1
      have XS := rsames_any 0 0 0 0 (.slice none 0 0) (.slice none 0 0) y y w11 ⟨none, 0, rfl, Nat.le_refl _, by decide, fun i hi => by omega⟩ ⟨none, 0, rfl, Nat.le_refl _, by decide, fun i hi => by omega⟩ (fun i hi => by omega)
      rw [← seG_row] at XS
      clear XT hb b11 l3
      go_wp2_with (first | (refine wpList_load_w 29 (.tmp 11) rfl rfl w9.heap.size 0 2 (seG 0 (.slice none 0 0)) rfl _ Tryd.underlying29 rfl hiSe l11 ?_))
      refine XS.mono ?_
      rintro e w12 ⟨⟨b, rfl, hb⟩, b12⟩
      obtain rfl : b = true := hb.2 ⟨rfl, rfl, fun i hi => by omega⟩
      have b1012 : Below w10.heap.size w10 w12 := H11.out.trans (b12.mono H11.out.size)
      have XE := err_s c _ L8 true w12 (F10.out w12 b1012).2.2
      have XA := kawake_any w12 (FACT.out w12 (FB.out w12 (F10.out w12 b1012).1).1).2.2.2.2.2
      have W12 : Hid (Below w.heap.size w w12) := (show _ from (FACT.out w12 (FB.out w12 (F10.out w12 b1012).1).1).1)
      clear XS hb b12 b1012 l11
      go_wp2_with fail
      refine XE.mono ?_
      rintro e w' ⟨rfl, hw⟩
      obtain rfl := hw.symm
      clear hw XE
      rw [show errI true = 2 from rfl]
      go_wp2_with fail
      refine XA.mono ?_
      rintro e w13 ⟨rfl, b13⟩
      have FI : Hid (Below w.heap.size w w13) := (show _ from W12.out.trans (b13.mono W12.out.size))
      clear XA b13
      go_wp2
      go_ret
      exact ⟨rfl, FI.out⟩
    · obtain ⟨hfit, hE, hC, hM, hY⟩ : fitS cnt m y ∧ seE L8 = (be, false) ∧ seC L8 = cnt ∧ seM L8 = m ∧ ∀ i, i < m → seY L8 i = y i := by
        rcases HBK.out with h | h
        · exact h
        · rw [hf] at h; exact absurd h.2 (by decide)
      rw [hE] at c9
      rw [hM] at hsp
      obtain ⟨xa, xc, hse, _⟩ := (id hsp : spotsAt w9 sv9 m (seY L8))
      subst hse
      have HFY : Hid (fitS cnt m y ∧ ∀ i, i < m → seY L8 i = y i) := (show _ ∧ _ from ⟨hfit, hY⟩)
      rw [hC]
      clear hf hfit hE hC hM hY
      go_upto_region 10 with (first | (rw [← hwp]; clear hwp; refine wpList_store_row rfl 29 _ _ rfl rfl w9.heap.size 0 2 (seG cnt (.slice xa m xc)) rfl rfl hiSe (seG_one _ _ _ _) _ _ _ W9.out.2.2 (by omega) ?_; intro w10 r10 z10 b10))
      have r10' : w10.rowIs w9.heap.size 29 2 (seG cnt (.slice xa m xc)) := r10.congr (fun i hi => by rw [if_pos (by omega), Nat.sub_zero])
      have b910 : Below w9.heap.size w9 w10 := W9.out.2.1.trans ((b10.mono W9.out.2.1.size).below (Nat.le_refl _))
      have b410 : Below w4.heap.size w4 w10 := W9.out.1.trans (b910.mono W9.out.1.size)
      have F10 : Hid (∀ wz, Below w10.heap.size w10 wz → Below w4.heap.size w4 wz ∧ (∀ j, j < 2 → wz.cell? ⟨w9.heap.size, 0 + j, none⟩ = some (seG cnt (.slice xa m xc) j)) ∧ cutS wz (fun k => w7.heap.size ≤ k ∧ k < w8.heap.size) c be false ∧ spotsAt wz (.slice xa m xc) m (seY L8)) := (show _ from fun wz hz => ⟨b410.trans (hz.mono b410.size), fun j hj => by rw [Nat.zero_add]; exact (hz.row r10' r10'.lt).cell hj, (c9.below b910 (Nat.le_refl _)).below hz (Nat.le_refl _), (hsp.below b910 (Nat.le_refl _)).below hz (Nat.le_refl _)⟩)
      clear r10 r10' z10 b10 b910 b410 c9 hsp
      have l3 := (FACT.out w10 (FB.out w10 (F10.out w10 (Below.refl _ _)).1).1).2.1
      have XT := rfit_any m cnt (.slice sa m sc) y w10 (FACT.out w10 (FB.out w10 (F10.out w10 (Below.refl _ _)).1).1).2.2.1
      rw [← seG_row] at XT
      go_wp2_with (first | (refine wpList_load_w 29 (.tmp 3) rfl rfl w.heap.size 0 2 (seG cnt (.slice sa m sc)) rfl _ Tryd.underlying29 rfl hiSe l3 ?_))
      refine XT.mono ?_
      rintro e w11 ⟨⟨b, rfl, hb⟩, b11⟩
      obtain rfl : b = true := hb.2 HFY.out.1
      have H11 : Hid (Below w10.heap.size w10 w11) := (show _ from b11)
      have l11 := (F10.out w11 b11).2.1
      have l31 := (FACT.out w11 (FB.out w11 (F10.out w11 b11).1).1).2.1
      have XS := rsames_any cnt cnt m m (.slice xa m xc) (.slice sa m sc) (seY L8) y w11 (F10.out w11 b11).2.2.2 (FACT.out w11 (FB.out w11 (F10.out w11 b11).1).1).2.2.1 (fun i hi => by rw [HFY.out.2 i hi]; have := (HM.out.2 i hi).2; omega)
      rw [← seG_row, ← seG_row] at XS
      clear XT hb b11 l3
      go_wp2_with (first | (refine wpList_load_w 29 (.tmp 11) rfl rfl w9.heap.size 0 2 (seG cnt (.slice xa m xc)) rfl _ Tryd.underlying29 rfl hiSe l11 ?_) | (refine wpList_load_w 29 (.tmp 3) rfl rfl w.heap.size 0 2 (seG cnt (.slice sa m sc)) rfl _ Tryd.underlying29 rfl hiSe l31 ?_))
      refine XS.mono ?_
      rintro e w12 ⟨⟨b, rfl, hb⟩, b12⟩
      obtain rfl : b = true := hb.2 ⟨rfl, rfl, fun i hi => HFY.out.2 i hi⟩
      have b1012 : Below w10.heap.size w10 w12 := H11.out.trans (b12.mono H11.out.size)
      have XE := err_s c _ be false w12 (F10.out w12 b1012).2.2.1
      have XL := left_s c _ be false w12 (F10.out w12 b1012).2.2.1
      have XA := kawake_any w12 (FACT.out w12 (FB.out w12 (F10.out w12 b1012).1).1).2.2.2.2.2
      have W12 : Hid (Below w.heap.size w w12) := (show _ from (FACT.out w12 (FB.out w12 (F10.out w12 b1012).1).1).1)
      clear XS hb b12 b1012 l11 l31
      go_wp2_with fail
      refine XE.mono ?_
      rintro e w' ⟨rfl, hw⟩
      obtain rfl := hw.symm
      clear hw XE
      rw [show errI false = 0 from rfl]
      go_wp2_with fail
      refine XL.mono ?_
      rintro e w' ⟨rfl, hw⟩
      obtain rfl := hw.symm
      clear hw XL
      go_wp2_with fail
      refine XA.mono ?_
      rintro e w13 ⟨rfl, b13⟩
      have FI : Hid (Below w.heap.size w w13) := (show _ from W12.out.trans (b13.mono W12.out.size))
      clear XA b13
      go_wp2
      go_ret
      exact ⟨rfl, FI.out⟩
end Go.Proofs.YtkgegihkhdgdoaaDoor

/- The frame of a law's row: what was read reads behind the call as it did, where nothing old has turned. -/
namespace Go.Proofs.YtkgegihkhdgdoaaDoor
open Go.RowKit Go.Deep Go.ChangeShapes Go.WideShapes Go.ChangeAt

theorem below_trodAll {H : Type} {enc : TypeId × Value → H} {P : Program} (hl : laidOutB P = true) {W W' : World} (hb : Below W.heap.size W W') :
    ∀ {ts : List TypeId} {vs : List Value} {ds : List (DataW H)} {ps : List MemPlace}, (∀ t ∈ ts, P.readableRec t = true ∧ t < P.types.size) → DataW.TrodAll enc P W 0 (fun _ => true) true ts vs ds ps → (∀ x ∈ ps, x.block < W.heap.size) →
      DataW.TrodAll enc P W' 0 (fun b => decide (b < W.heap.size)) true ts vs ds ps
  | [], [], [], _, _, h, _ => h
  | t :: ts, v :: vs, d :: ds, ps, hts, h, hlt => by
    obtain ⟨p, q, h1, h2, e⟩ := h
    subst e
    exact ⟨p, q, Below.trod hl (hts t List.mem_cons_self).1 (hts t List.mem_cons_self).2 h1 hb (fun x hx => hlt x (List.mem_append_left _ hx)), below_trodAll hl hb (fun u hu => hts u (List.mem_cons_of_mem _ hu)) h2 (fun x hx => hlt x (List.mem_append_right _ hx)), rfl⟩

/-- WHAT A LAW's ROW ASKS BEHIND THE CALL, where the answer is true and nothing old has turned. -/
theorem law_post {H : Type} {enc : TypeId × Value → H} {P : Program} {spec : ChangeSpec} {f : Func} {W W' : World} {args : Array Value} {ds gs : List (DataW H)} {before : List MemPlace} {tb : TypeId}
    (hl : laidOutB P = true) (hts : ∀ t ∈ f.params.toList, P.readableRec t = true ∧ t < P.types.size) (hvars : spec.vars = []) (hres : f.resultTypes = #[tb]) (hbool : P.underlying tb = some .bool)
    (hspec : spec.fn H (ds ++ gs) = { results := [.lit (.bool true)], args := ds })
    (hW : DataW.Whole enc P f.params.toList spec.vars false W args.toList ds gs before) (hb : Below W.heap.size W W') : spec.post enc P f false true false false W args (.bool true) W' := by
  have hW' := hW
  have hlt := hW.lt
  obtain ⟨p, q, hA, hV, rfl, hfz, hnd⟩ := hW
  rw [hvars] at hV
  obtain ⟨rfl, rfl⟩ := trodVars_none hV
  refine ⟨ds, [], p ++ [], [], p, [], hW', ?_, ?_, ?_, ?_, fun h => by cases h⟩
  · rw [hspec, hres]
    exact trodAll_cons_mk (shut_bool hbool _) trodAll_mk0
  · rw [hspec]
    exact below_trodAll hl hb hts hA (fun x hx => hlt x (List.mem_append_left _ hx))
  · rw [hspec, hvars]; exact hV
  · exact hb.frame _

end Go.Proofs.YtkgegihkhdgdoaaDoor

/- The frame of a law's row, where no package variable is laid. -/
namespace Go.Proofs.YtkgegihkhdgdoaaDoor
open Go.RowKit Go.Deep Go.ChangeShapes Go.WideShapes Go.ChangeAt
theorem own : ownKnob Tryd.prog.godebug = none := by kernel_rfl
theorem laidOut : laidOutB Tryd.prog = true := by kernel_rfl
end Go.Proofs.YtkgegihkhdgdoaaDoor

/- Slices that came in, opened. -/
namespace Go.Proofs.YtkgegihkhdgdoaaDoor
open Go.RowKit Go.Deep Go.ChangeShapes Go.WideShapes

theorem bounds_i64 {a : Int} (h : (Lit.int .i64 a).wf = true) : -9223372036854775808 ≤ a ∧ a ≤ 9223372036854775807 := by
  simpa [Lit.wf, IntKind.min, IntKind.max, IntKind.signed, IntKind.bits] using h
/-- A SLICE, opened at every index. -/
theorem open_any {H : Type} {enc : TypeId × Value → H} {P : Program} {w : World} {base b0 : Nat} {sp : Nat → Bool} {held : Bool} {r : Reach} {t e : TypeId} {v : Value} {d : DataW H} {ps : List MemPlace} (c : Nat)
    (hu : P.underlying t = some (.slice e)) (hc : P.cellsOf e = c) (hval : Value.okWide P w r b0 t v) (hd : DataW.Trod enc P w base sp held t v d ps) :
    (v = .slice none 0 0) ∨ ∃ pb po len cap : Nat, v = .slice (some ⟨pb, po, none⟩) len cap ∧ len ≤ cap ∧ cap ≤ maxLen ∧ pb < w.heap.size ∧
      ∀ i, i < len → ∃ (cs' : List Value) (n : Nat) (D : DataW H × List MemPlace), cs'.length = c ∧ (∀ j, j < c → w.cell? ⟨pb, po + i * c + j, none⟩ = cs'[j]?) ∧ DataW.trod enc P w base sp held n e cs' = some D := by
  obtain ⟨a, len, cap, rfl⟩ := okWide_slice hu hval
  obtain ⟨fuel, hf⟩ := hd
  rcases open_slice hu hf with ⟨h0, _⟩ | ⟨a', len', cap', m, n, D, Pl, h0, _, h1, h2, h3, _, h4⟩
  · left; simpa [Value.cells] using h0
  · right
    have h0' : a = some a' ∧ len = len' ∧ cap = cap' := by simpa [Value.cells] using h0
    obtain ⟨rfl, rfl, rfl⟩ := h0'
    have hlm : len ≤ m := by rw [h3]; split <;> omega
    simp only [Value.okWide, hu, Cell.okWide, Cell.ok] at hval
    obtain ⟨_, _, _, hsp, row, cells, hsh, _⟩ := hval
    obtain ⟨pb, po, spot⟩ := a'
    obtain rfl : spot = none := hsp
    refine ⟨pb, po, len, cap, rfl, h1, h2, ?_, fun i hi => ?_⟩
    · unfold World.shape? at hsh
      cases hq : w.heap[pb]? with
      | none => rw [hq] at hsh; cases hsh
      | some o => exact (Array.getElem?_eq_some_iff.1 hq).1
    · obtain ⟨cs', g1, g2⟩ := h4 i (by omega)
      rw [hc] at g1
      obtain ⟨_, hlen, hcell⟩ := World.cells?_some g1
      refine ⟨cs', n, _, hlen, fun j hj => ?_, g2⟩
      have e0 := hcell j (by omega)
      rw [add_add, Addr.add_mid] at e0
      rw [Nat.add_assoc]; exact e0
theorem open_bytes_slice {H : Type} {enc : TypeId × Value → H} {P : Program} {w : World} {base b0 : Nat} {sp : Nat → Bool} {held : Bool} {r : Reach} {t e : TypeId} {v : Value} {d : DataW H} {ps : List MemPlace}
    (hu : P.underlying t = some (.slice e)) (he : P.underlying e = some (.int .u8)) (hc : P.cellsOf e = 1) (hval : Value.okWide P w r b0 t v) (hd : DataW.Trod enc P w base sp held t v d ps) : ∃ l, isBytes w v l := by
  rcases open_any 1 hu hc hval hd with rfl | ⟨pb, po, len, cap, rfl, h1, h2, h3, h4⟩
  · exact ⟨[], Or.inl ⟨rfl, rfl⟩⟩
  · have each : ∀ i, i < len → ∃ z : Int, w.cell? ⟨pb, po + i, none⟩ = some (.int .u8 z) ∧ 0 ≤ z ∧ z ≤ 255 := fun i hi => by
      obtain ⟨cs', n, D, g1, g2, g3⟩ := h4 i hi
      obtain ⟨z, rfl, _, hw⟩ := DataW.trod_int he g3
      have := g2 0 (by omega)
      rw [Nat.mul_one, Nat.add_zero] at this
      exact ⟨z, this, bounds_u8 hw⟩
    obtain ⟨f, hf⟩ := choose_lt each
    have hg : ∀ i, i < len → ((List.range len).map f).getD i 0 = f i := fun i hi => by
      rw [List.getD_eq_getElem?_getD, List.getElem?_map, List.getElem?_range hi]; rfl
    refine ⟨(List.range len).map f, Or.inr ⟨pb, po, cap, by simp, by simpa using h1, h2, h3, fun i hi => ?_, fun i => ?_⟩⟩
    · have hi' : i < len := by simpa using hi
      rw [hg i hi']; exact (hf i hi').1
    · by_cases hi : i < len
      · rw [hg i hi]; exact (hf i hi).2
      · rw [List.getD_eq_getElem?_getD, List.getElem?_eq_none (by simp; omega)]; exact ⟨by simp, by simp⟩
end Go.Proofs.YtkgegihkhdgdoaaDoor

/- Slices of slices of bytes that came in, opened. -/
namespace Go.Proofs.YtkgegihkhdgdoaaDoor
set_option maxRecDepth 100000
open Go.RowKit Go.Deep Go.ChangeShapes Go.WideShapes

theorem open_inner {H : Type} {enc : TypeId × Value → H} {w : World} {base : Nat} {held : Bool} {n : Nat} {u : Value} {D : DataW H × List MemPlace}
    (hd : DataW.trod enc Tryd.prog w base (fun _ => true) held n 23 [u] = some D) : ∃ l, anyBytes w u l := by
  rcases open_slice1 Tryd.underlying23 (by kernel_rfl) hd with ⟨h0, _⟩ | ⟨a, len, cap, m, n', V, D', Pl, h0, _, h1, h2, h3, _, h4⟩
  · exact ⟨[], Or.inl (Or.inl ⟨by simpa using h0, rfl⟩)⟩
  · obtain rfl : u = .slice (some a) len cap := by simpa using h0
    simp only [if_true] at h3
    subst h3
    by_cases hc : m = 0
    · subst hc
      obtain rfl : len = 0 := by omega
      exact ⟨[], Or.inr ⟨⟨_, rfl⟩, rfl⟩⟩
    · have h00 := (h4 0 (by omega)).1
      have ha0 : a.add 0 = a := by unfold Addr.add; rw [if_pos rfl]
      rw [ha0] at h00
      have hsp : a.spot = none := by
        unfold World.cell? at h00
        split at h00
        · cases hs : a.spot with
          | none => rfl
          | some q => rw [hs] at h00; simp at h00
        · cases h00
      obtain ⟨pb, po, spot⟩ := a
      obtain rfl : spot = none := hsp
      have hlt := World.block_lt_of_cell? _ _ h00
      have each : ∀ i, i < len → ∃ z : Int, w.cell? ⟨pb, po + i, none⟩ = some (.int .u8 z) ∧ 0 ≤ z ∧ z ≤ 255 := fun i hi => by
        obtain ⟨e1, e2⟩ := h4 i (by omega)
        rw [Addr.add_mid] at e1
        obtain ⟨z, hz, _, hw⟩ := DataW.trod_int Tryd.underlying5 e2
        have hz' : V i = .int .u8 z := by simpa using hz
        exact ⟨z, by rw [e1, hz'], bounds_u8 hw⟩
      obtain ⟨f, hf⟩ := choose_lt each
      have hg : ∀ i, i < len → ((List.range len).map f).getD i 0 = f i := fun i hi => by
        rw [List.getD_eq_getElem?_getD, List.getElem?_map, List.getElem?_range hi]; rfl
      refine ⟨(List.range len).map f, Or.inl (Or.inr ⟨pb, po, m, by simp, by simpa using h1, h2, hlt, fun i hi => ?_, fun i => ?_⟩)⟩
      · have hi' : i < len := by simpa using hi
        rw [hg i hi']; exact (hf i hi').1
      · by_cases hi : i < len
        · rw [hg i hi]; exact (hf i hi).2
        · rw [List.getD_eq_getElem?_getD, List.getElem?_eq_none (by simp; omega)]; exact ⟨by simp, by simp⟩
end Go.Proofs.YtkgegihkhdgdoaaDoor

/- Pairs that came in, opened. -/
namespace Go.Proofs.YtkgegihkhdgdoaaDoor
set_option maxRecDepth 100000
open Go.RowKit Go.Deep Go.ChangeShapes Go.WideShapes

theorem trod_struct2 {H : Type} {enc : TypeId × Value → H} {P : Program} {w : World} {base : Nat} {spare : Nat → Bool} {held : Bool} {t : TypeId} {f0 f1 : Field} {fuel : Nat} {cs : List Value} {x : DataW H × List MemPlace} (ht : P.underlying t = some (.struct #[f0, f1])) (h : DataW.trod enc P w base spare held fuel t cs = some x) :
    ∃ y0 y1 n, cs.length = P.cellsOf t ∧ DataW.trod enc P w base spare held n f0.type ((cs.drop f0.offset).take (P.cellsOf f0.type)) = some y0 ∧ DataW.trod enc P w base spare held n f1.type ((cs.drop f1.offset).take (P.cellsOf f1.type)) = some y1 := by
  obtain ⟨xs, n, _, rfl, hl, hlen, hf⟩ := DataW.trod_struct ht h
  match xs, hlen with
  | [y0, y1], _ => exact ⟨y0, y1, n, hl, by simpa using hf 0 f0 rfl, by simpa using hf 1 f1 rfl⟩
theorem drop_one {cs : List Value} {o : Nat} (h : o < cs.length) : (cs.drop o).take 1 = [cs[o]] := by
  rw [List.drop_eq_getElem_cons h]; rfl
theorem pair_cells {H : Type} {enc : TypeId × Value → H} {w : World} {base : Nat} {held : Bool} {n : Nat} {cs' : List Value} {D : DataW H × List MemPlace} (g1 : cs'.length = 2)
    (g3 : DataW.trod enc Tryd.prog w base (fun _ => true) held n 38 cs' = some D) : ∃ (kc vc : Value) (k v : List Int), cs'[0]? = some kc ∧ cs'[1]? = some vc ∧ anyBytes w kc k ∧ anyBytes w vc v := by
  have cb : Tryd.prog.cellsOf 23 = 1 := by kernel_rfl
  obtain ⟨y0, y1, m, _, t0, t1⟩ := trod_struct2 Tryd.underlying38 g3
  simp only [cb] at t0 t1
  rw [drop_one (by omega)] at t0 t1
  obtain ⟨l0, h0⟩ := open_inner t0
  obtain ⟨l1, h1⟩ := open_inner t1
  exact ⟨_, _, l0, l1, List.getElem?_eq_getElem (by omega), List.getElem?_eq_getElem (by omega), h0, h1⟩
end Go.Proofs.YtkgegihkhdgdoaaDoor

/- What is shown, that came in, opened. -/
namespace Go.Proofs.YtkgegihkhdgdoaaDoor
set_option maxRecDepth 100000
open Go.RowKit Go.Deep Go.ChangeShapes Go.WideShapes

theorem trod_struct3 {H : Type} {enc : TypeId × Value → H} {P : Program} {w : World} {base : Nat} {spare : Nat → Bool} {held : Bool} {t : TypeId} {f0 f1 f2 : Field} {fuel : Nat} {cs : List Value} {x : DataW H × List MemPlace} (ht : P.underlying t = some (.struct #[f0, f1, f2])) (h : DataW.trod enc P w base spare held fuel t cs = some x) :
    ∃ y0 y1 y2 n, cs.length = P.cellsOf t ∧ DataW.trod enc P w base spare held n f0.type ((cs.drop f0.offset).take (P.cellsOf f0.type)) = some y0 ∧ DataW.trod enc P w base spare held n f1.type ((cs.drop f1.offset).take (P.cellsOf f1.type)) = some y1 ∧
      DataW.trod enc P w base spare held n f2.type ((cs.drop f2.offset).take (P.cellsOf f2.type)) = some y2 := by
  obtain ⟨xs, n, _, rfl, hl, hlen, hf⟩ := DataW.trod_struct ht h
  match xs, hlen with
  | [y0, y1, y2], _ => exact ⟨y0, y1, y2, n, hl, by simpa using hf 0 f0 rfl, by simpa using hf 1 f1 rfl, by simpa using hf 2 f2 rfl⟩
/-- a slice within what came in. -/
theorem inner_any {H : Type} {enc : TypeId × Value → H} {P : Program} {w : World} {base : Nat} {held : Bool} {n : Nat} {t e : TypeId} {u : Value} {D : DataW H × List MemPlace} (c : Nat)
    (hu : P.underlying t = some (.slice e)) (hc : P.cellsOf e = c) (hc0 : 0 < c) (hd : DataW.trod enc P w base (fun _ => true) held n t [u] = some D) :
    (∃ a, u = .slice a 0 0) ∨ ∃ pb po len cap : Nat, u = .slice (some ⟨pb, po, none⟩) len cap ∧ len ≤ cap ∧ cap ≤ maxLen ∧ pb < w.heap.size ∧
      ∀ i, i < len → ∃ (cs' : List Value) (n : Nat) (D : DataW H × List MemPlace), cs'.length = c ∧ (∀ j, j < c → w.cell? ⟨pb, po + i * c + j, none⟩ = cs'[j]?) ∧ DataW.trod enc P w base (fun _ => true) held n e cs' = some D := by
  rcases open_slice hu hd with ⟨h0, _⟩ | ⟨a, len, cap, m, n', D', Pl, h0, _, h1, h2, h3, _, h4⟩
  · exact Or.inl ⟨none, by simpa using h0⟩
  · obtain rfl : u = .slice (some a) len cap := by simpa using h0
    simp only [if_true] at h3
    subst h3
    by_cases hc1 : m = 0
    · subst hc1
      obtain rfl : len = 0 := by omega
      exact Or.inl ⟨_, rfl⟩
    · right
      have hat : ∀ i, i < m → ∃ cs', cs'.length = c ∧ (∀ j, j < c → w.cell? ((a.add (i * c)).add j) = cs'[j]?) ∧ DataW.trod enc P w base (fun _ => true) held n' e cs' = some (D' i, Pl i) := fun i hi => by
        obtain ⟨cs', g1, g2⟩ := h4 i hi
        rw [hc] at g1
        obtain ⟨_, hlen, hcell⟩ := World.cells?_some g1
        exact ⟨cs', hlen, fun j hj => hcell j (by omega), g2⟩
      obtain ⟨cs0, l0, c0, _⟩ := hat 0 (by omega)
      have h00 := c0 0 hc0
      rw [Nat.zero_mul] at h00
      have ha0 : ∀ a : Addr, a.add 0 = a := fun a => by unfold Addr.add; rw [if_pos rfl]
      rw [ha0, ha0, List.getElem?_eq_getElem (by omega)] at h00
      have hsp : a.spot = none := by
        unfold World.cell? at h00
        split at h00
        · cases hs : a.spot with
          | none => rfl
          | some q => rw [hs] at h00; simp at h00
        · cases h00
      obtain ⟨pb, po, spot⟩ := a
      obtain rfl : spot = none := hsp
      have hlt := World.block_lt_of_cell? _ _ h00
      refine ⟨pb, po, len, m, rfl, h1, h2, hlt, fun i hi => ?_⟩
      obtain ⟨cs', g1, g2, g3⟩ := hat i (by omega)
      refine ⟨cs', _, _, g1, fun j hj => ?_, g3⟩
      have e0 := g2 j hj
      rw [add_add, Addr.add_mid] at e0
      rw [Nat.add_assoc]; exact e0
theorem sum_cells {H : Type} {enc : TypeId × Value → H} {w : World} {base : Nat} {held : Bool} {n : Nat} {cs' : List Value} {D : DataW H × List MemPlace} (g1 : cs'.length = 32)
    (g3 : DataW.trod enc Tryd.prog w base (fun _ => true) held n 32 cs' = some D) : ∃ q : List Int, isSum q ∧ ∀ j, j < 32 → cs'[j]? = some (arrV q j) := by
  have c8 : Tryd.prog.cellsOf 5 = 1 := by kernel_rfl
  obtain ⟨xs, m', rfl, _, hlen, _, hx⟩ := DataW.trod_array Tryd.underlying32 g3
  have hsum : ∀ j, j < 32 → ∃ z : Int, cs'[j]? = some (.int .u8 z) ∧ 0 ≤ z ∧ z ≤ 255 := fun j hj => by
    have h5 := hx j hj
    rw [c8, Nat.mul_one] at h5
    have hxj : j < xs.length := by omega
    rw [List.getElem?_eq_getElem hxj] at h5
    obtain ⟨z, hz, _, hw⟩ := DataW.trod_int Tryd.underlying5 h5
    refine ⟨z, ?_, bounds_u8 hw⟩
    have := congrArg (fun l => l[0]?) hz
    simp only [List.getElem?_take, List.getElem?_drop, List.getElem?_cons_zero] at this
    simpa using this
  obtain ⟨f, hf⟩ := choose_lt hsum
  refine ⟨(List.range 32).map f, ⟨by simp, fun j => ?_⟩, fun j hj => ?_⟩
  · by_cases hj : j < 32
    · have : ((List.range 32).map f).getD j 0 = f j := by
        rw [List.getD_eq_getElem?_getD, List.getElem?_map, List.getElem?_range hj]; rfl
      rw [this]; exact (hf j hj).2
    · rw [List.getD_eq_getElem?_getD, List.getElem?_eq_none (by simp; omega)]; exact ⟨by simp, by simp⟩
  · have : ((List.range 32).map f).getD j 0 = f j := by
      rw [List.getD_eq_getElem?_getD, List.getElem?_map, List.getElem?_range hj]; rfl
    rw [arrV, this]; exact (hf j hj).1
theorem inner_sums {H : Type} {enc : TypeId × Value → H} {w : World} {base : Nat} {held : Bool} {n : Nat} {u : Value} {D : DataW H × List MemPlace}
    (hd : DataW.trod enc Tryd.prog w base (fun _ => true) held n 39 [u] = some D) : ∃ L, sumsAt w u L := by
  rcases inner_any 32 Tryd.underlying39 (by kernel_rfl) (by decide) hd with ⟨a, rfl⟩ | ⟨pb, po, len, cap, rfl, h1, h2, h3, h4⟩
  · exact ⟨[], fun x hx => by simp at hx, a, 0, rfl, Nat.le_refl _, by decide, fun h => absurd h (by decide)⟩
  · have each : ∀ i, i < len → ∃ q : List Int, isSum q ∧ ∀ j, j < 32 → w.cell? ⟨pb, po + i * 32 + j, none⟩ = some (arrV q j) := fun i hi => by
      obtain ⟨cs', n, D, g1, g2, g3⟩ := h4 i hi
      obtain ⟨q, e1, e2⟩ := sum_cells (by omega) g3
      exact ⟨q, e1, fun j hj => by rw [g2 j hj]; exact e2 j hj⟩
    obtain ⟨f, hf⟩ := choose_lt each
    have hl : ((List.range len).map f).length = len := by simp
    refine ⟨(List.range len).map f, fun x hx => ?_, _, cap, by rw [hl], by rw [hl]; exact h1, h2, fun h0 => ⟨pb, po, rfl, h3, fun i hi j hj => ?_⟩⟩
    · obtain ⟨i, hi, rfl⟩ := List.mem_map.1 hx
      exact (hf i (List.mem_range.1 hi)).1
    · have e : ((List.range len).map f)[i] = f i := by simp
      rw [e]; exact (hf i (by omega)).2 j hj
theorem spot_cells {H : Type} {enc : TypeId × Value → H} {w : World} {base : Nat} {held : Bool} {n : Nat} {cs' : List Value} {D : DataW H × List MemPlace} (g1 : cs'.length = 4)
    (g3 : DataW.trod enc Tryd.prog w base (fun _ => true) held n 41 cs' = some D) : ∃ (y : Sp) (kc vc pc : Value), cs'[0]? = some (.int .i64 y.at_) ∧ cs'[1]? = some kc ∧ cs'[2]? = some vc ∧ cs'[3]? = some pc ∧ anyBytes w kc y.pr.1 ∧ anyBytes w vc y.pr.2 ∧ sumsAt w pc y.path ∧ inI64 y.at_ := by
  have ci : Tryd.prog.cellsOf 3 = 1 := by kernel_rfl
  have cp : Tryd.prog.cellsOf 38 = 2 := by kernel_rfl
  have cs : Tryd.prog.cellsOf 39 = 1 := by kernel_rfl
  obtain ⟨y0, y1, y2, m, _, t0, t1, t2⟩ := trod_struct3 Tryd.underlying41 g3
  simp only [ci, cp, cs] at t0 t1 t2
  rw [drop_one (by omega)] at t0 t2
  obtain ⟨z0, e0, _, b0⟩ := DataW.trod_int (k := .i64) Tryd.underlying3 t0
  obtain ⟨kc, vc, k, v, e1, e2, k1, k2⟩ := pair_cells (by simp; omega) t1
  obtain ⟨L, hL⟩ := inner_sums t2
  rw [List.getElem?_take, List.getElem?_drop] at e1 e2
  have ez : cs'[0] = .int .i64 z0 := by simpa using e0
  exact ⟨⟨z0, (k, v), L⟩, kc, vc, _, by rw [List.getElem?_eq_getElem (by omega), ez], by simpa using e1, by simpa using e2, List.getElem?_eq_getElem (by omega), k1, k2, hL, bounds_i64 b0⟩
theorem inner_spots {H : Type} {enc : TypeId × Value → H} {w : World} {base : Nat} {held : Bool} {n : Nat} {u : Value} {D : DataW H × List MemPlace}
    (hd : DataW.trod enc Tryd.prog w base (fun _ => true) held n 27 [u] = some D) : ∃ m y, spotsAt w u m y := by
  rcases inner_any 4 Tryd.underlying27 (by kernel_rfl) (by decide) hd with ⟨a, rfl⟩ | ⟨pb, po, len, cap, rfl, h1, h2, h3, h4⟩
  · exact ⟨0, fun _ => ⟨0, ([], []), []⟩, a, 0, rfl, Nat.le_refl _, by decide, fun i hi => by omega⟩
  · have each : ∀ i, i < len → ∃ y : Sp, ∃ kc vc pc, w.cell? ⟨pb, po + i * 4, none⟩ = some (.int .i64 y.at_) ∧ w.cell? ⟨pb, po + i * 4 + 1, none⟩ = some kc ∧ w.cell? ⟨pb, po + i * 4 + 2, none⟩ = some vc ∧ w.cell? ⟨pb, po + i * 4 + 3, none⟩ = some pc ∧
        anyBytes w kc y.pr.1 ∧ anyBytes w vc y.pr.2 ∧ sumsAt w pc y.path ∧ inI64 y.at_ := fun i hi => by
      obtain ⟨cs', n, D, g1, g2, g3⟩ := h4 i hi
      obtain ⟨y, kc, vc, pc, e0, e1, e2, e3, k⟩ := spot_cells (by omega) g3
      exact ⟨y, kc, vc, pc, by have := g2 0 (by omega); rw [Nat.add_zero] at this; rw [this]; exact e0, by rw [g2 1 (by omega)]; exact e1, by rw [g2 2 (by omega)]; exact e2, by rw [g2 3 (by omega)]; exact e3, k⟩
    haveI : Inhabited Sp := ⟨⟨0, ([], []), []⟩⟩
    obtain ⟨f, hf⟩ := choose_lt each
    exact ⟨len, f, some ⟨pb, po, none⟩, cap, rfl, h1, h2, fun i hi => by
      obtain ⟨kc, vc, pc, e0, e1, e2, e3, k⟩ := hf i hi
      exact ⟨pb, po, kc, vc, pc, rfl, h3, e0, e1, e2, e3, k⟩⟩
theorem okWide_agg {P : Program} {w : World} {r : Reach} {b0 : Nat} {t : TypeId} {fs : Array Field} {v : Value} (hu : P.underlying t = some (.struct fs)) (hval : Value.okWide P w r b0 t v) : ∃ cs, v = .agg cs := by
  unfold Value.okWide at hval
  rw [hu] at hval
  obtain ⟨cs, rfl, _⟩ := hval
  exact ⟨cs, rfl⟩
theorem open_seen {H : Type} {enc : TypeId × Value → H} {w : World} {base b0 : Nat} {held : Bool} {r : Reach} {v : Value} {d : DataW H} {ps : List MemPlace}
    (hval : Value.okWide Tryd.prog w r b0 29 v) (hd : DataW.Trod enc Tryd.prog w base (fun _ => true) held 29 v d ps) : ∃ cnt sv m y, v = .agg #[.int .i64 cnt, sv] ∧ inI64 cnt ∧ spotsAt w sv m y := by
  have ci : Tryd.prog.cellsOf 3 = 1 := by kernel_rfl
  have cp : Tryd.prog.cellsOf 27 = 1 := by kernel_rfl
  have c2 : Tryd.prog.cellsOf 29 = 2 := by kernel_rfl
  obtain ⟨cs, rfl⟩ := okWide_agg Tryd.underlying29 hval
  obtain ⟨fuel, hf⟩ := hd
  obtain ⟨y0, y1, n, hl, t0, t1⟩ := trod_struct2 Tryd.underlying29 hf
  obtain ⟨cs⟩ := cs
  rw [c2] at hl
  match cs, hl with
  | [u0, u1], _ =>
    simp only [ci, cp] at t0 t1
    obtain ⟨z0, e0, _, b0⟩ := DataW.trod_int (k := .i64) Tryd.underlying3 t0
    obtain ⟨m, y, hm⟩ := inner_spots t1
    have ez : u0 = .int .i64 z0 := by simpa [Value.cells] using e0
    exact ⟨z0, u1, m, y, by rw [ez], bounds_i64 b0, hm⟩
end Go.Proofs.YtkgegihkhdgdoaaDoor

/- The table of the rounds' constants, as the row lists it; a world that holds it, for the witness. -/
namespace Go.Proofs.YtkgegihkhdgdoaaDoor
set_option maxRecDepth 100000
open Go.RowKit Go.Deep Go.ChangeShapes Go.WideShapes Go.ChangeAt

/-- the table's name. -/
def tabName : String := Rows.keyedShowsRow.named.getD 0 ""
theorem gTab : Tryd.prog.globalNamed tabName = some 1 := by kernel_rfl
theorem gTabType : (Tryd.prog.globals[1]?).map (·.type) = some 172 := by kernel_rfl
theorem cellsTab : Tryd.prog.cellsOf 172 = 64 := by kernel_rfl
theorem cellsWord : Tryd.prog.cellsOf 152 = 1 := by kernel_rfl
/-- what the row's list gives. -/
theorem laid_tab {W : World} (h : laidMetH Tryd.prog Rows.keyedShowsRow.laid W) : tabIs W := by
  have ht : Lib.TabIs Tryd.prog W tabName .u32 kList := Lib.tabIs_of_head (rest := []) gTab gTabType Tryd.underlying172 Tryd.underlying152 cellsWord cellsTab h
  refine ⟨?_, fun i hi => ht.cell gTab i (by simpa [kList] using hi)⟩
  have h0 := ht.cell gTab 0 (by decide)
  exact block_lt_of_cell h0
/-- the table's block, laid. -/
def kObj : Obj → Obj
  | .cells _ t frozen => .cells #[.int .u32 1116352408, .int .u32 1899447441, .int .u32 3049323471, .int .u32 3921009573, .int .u32 961987163, .int .u32 1508970993, .int .u32 2453635748, .int .u32 2870763221, .int .u32 3624381080, .int .u32 310598401, .int .u32 607225278, .int .u32 1426881987, .int .u32 1925078388, .int .u32 2162078206, .int .u32 2614888103, .int .u32 3248222580, .int .u32 3835390401, .int .u32 4022224774, .int .u32 264347078, .int .u32 604807628, .int .u32 770255983, .int .u32 1249150122, .int .u32 1555081692, .int .u32 1996064986, .int .u32 2554220882, .int .u32 2821834349, .int .u32 2952996808, .int .u32 3210313671, .int .u32 3336571891, .int .u32 3584528711, .int .u32 113926993, .int .u32 338241895, .int .u32 666307205, .int .u32 773529912, .int .u32 1294757372, .int .u32 1396182291, .int .u32 1695183700, .int .u32 1986661051, .int .u32 2177026350, .int .u32 2456956037, .int .u32 2730485921, .int .u32 2820302411, .int .u32 3259730800, .int .u32 3345764771, .int .u32 3516065817, .int .u32 3600352804, .int .u32 4094571909, .int .u32 275423344, .int .u32 430227734, .int .u32 506948616, .int .u32 659060556, .int .u32 883997877, .int .u32 958139571, .int .u32 1322822218, .int .u32 1537002063, .int .u32 1747873779, .int .u32 1955562222, .int .u32 2024104815, .int .u32 2227730452, .int .u32 2361852424, .int .u32 2428436474, .int .u32 2756734187, .int .u32 3204031479, .int .u32 3329325298] t frozen
  | o => o
end Go.Proofs.YtkgegihkhdgdoaaDoor
