import Derived.Test.YtgchnobifidjcaaDoorOwn4
import Derived.Test.YtgchnobifidjcaaDoorOwn5
import Derived.Test.YtgchnobifidjcaaDoorOwn6
import Derived.Test.YtgchnobifidjcaaDoorOwn7
import Derived.Test.YtgchnobifidjcaaDoorOwn8
set_option linter.unusedVariables false
set_option linter.unusedSimpArgs false
/- The document's copy of pairs. -/
namespace Go.Proofs.YtgchnobifidjcaaDoor
set_option linter.unusedSimpArgs false
set_option linter.unusedVariables false
open Go.RowKit Go.Deep

set_option maxHeartbeats 8000000 in
set_option maxRecDepth 100000 in
theorem rpairs_any (n : Nat) (v : Value) (x : Nat → Pr) (w : World) (hp : pairsAt w v n x) (hn : n ≤ 1000) (hx : ∀ i, i < n → (x i).1.length + (x i).2.length ≤ 1000000) :
    Calls Tryd.prog 11 #[v] w fun e w' => ∃ u, e = .returned u ∧ ownPairs w' w.heap.size u n x ∧ Below w.heap.size w w' := by
  obtain ⟨a, cap, hv, hnc, hcm, _⟩ := (id hp : pairsAt w v n x)
  have hnm : (n : Int) ≤ 1000 := by omega
  have HP : Hid (pairsAt w v n x) := (show pairsAt w v n x from hp)
  have HX : Hid (∀ i, i < n → (x i).1.length + (x i).2.length ≤ 1000000) := (show _ from hx)
  subst hv
  have hn0 : (0 : Int) ≤ (n : Int) := by omega
  clear hp hnc hcm hx
  go_enter Tryd.func11, Tryd.ntmps11
  go_wp2_with fail
  go_loopw [3, 4] (fun vv i wr => ∃ (q : Nat) (oa : Option Addr) (oc : Nat), q ≤ n ∧ vv = .slice oa q oc ∧ i = .int .i64 (q : Int) ∧ ownPairs wr w.heap.size (.slice oa q oc) q x ∧ Below w.heap.size w wr) (fun _ i _ => n - (intOf i).toNat)
  case atStart => exact ⟨0, none, 0, by omega, rfl, rfl, ownPairs.nil _ _ _, Below.refl _ _⟩
  case round =>
    obtain ⟨q, oa, oc, hqn, rfl, rfl, hos, hbr⟩ := hrel
    have q0 : (0 : Int) ≤ (q : Int) := by omega
    have HBR : Hid (Below w.heap.size w wr) := (show Below w.heap.size w wr from hbr)
    have HOS : Hid (ownPairs wr w.heap.size (.slice oa q oc) q x) := (show _ from hos)
    clear hos
    by_cases hlt : q < n
    · have q1 : (q : Int) < (n : Int) := by omega
      obtain ⟨g, o, cap', e, hg, _, _, hcell⟩ := HP.out.at (by omega)
      injection e with e1 e2 e3
      subst e1
      subst e3
      obtain ⟨ka, kcap, va, vcap, H⟩ := hcell q hlt
      have FC : Hid (∀ wz, Below w.heap.size w wz → wz.cell? ⟨g, o + q * 2, none⟩ = some (.slice ka (x q).1.length kcap) ∧ wz.cell? ⟨g, o + q * 2 + 1, none⟩ = some (.slice va (x q).2.length vcap)) := (show _ from fun wz hz => ⟨(H wz hz).1, (H wz hz).2.1⟩)
      have FA : Hid (∀ wz, Below w.heap.size w wz → anyBytes wz (.slice ka (x q).1.length kcap) (x q).1 ∧ anyBytes wz (.slice va (x q).2.length vcap) (x q).2) := (show _ from fun wz hz => ⟨(H wz hz).2.2.1, (H wz hz).2.2.2⟩)
      have HXQ : Hid ((x q).1.length + (x q).2.length ≤ 1000000) := (show _ from HX.out q hlt)
      clear hcell H hbr hg
      go_upto_region 5 with fail
      have BD : Below wr.heap.size wr wr.drew := (Below.refl _ _).drew
      have H : pq wr wr.drew none none := ⟨BD, (fun u l h => by cases h), (fun u l h => by cases h), fun a la b lb h => by cases h⟩
      refine wp_region_noPanic ?_
      refine wp_region_held_drew (S := fun w' => Below w.heap.size w w') (by kernel_rfl) (HBR.out.trans (BD.mono HBR.out.size)) (fun hHeld => ?_)
      clear BD
      generalize wr.drew = W at hHeld H ⊢
      refine take_op (i := 0) (v := ?va0) rfl (by kernel_rfl) (by kernel_rfl) (by kernel_rfl) (fun _ _ _ h => h) rfl hHeld ?ya0 ?ra0
      case ya0 => (intro wz hz; go_simp; first | done | with_reducible rfl)
      try simp only [Act.put, List.setIfInBounds_toArray, List.set_cons_zero, List.set_cons_succ]
      refine take_op (i := 2) (v := ?va2) rfl (by kernel_rfl) (by kernel_rfl) (by kernel_rfl) (fun _ _ _ h => h) rfl hHeld ?ya2 ?ra2
      case ya2 => (intro wz hz; go_simp; first | done | with_reducible rfl)
      try simp only [Act.put, List.setIfInBounds_toArray, List.set_cons_zero, List.set_cons_succ]
      refine take_op (i := 3) (v := ?va3) rfl (by kernel_rfl) (by kernel_rfl) (by kernel_rfl) (fun _ _ _ h => h) rfl hHeld ?ya3 ?ra3
      case ya3 => (intro wz hz; go_simp; first | done | with_reducible rfl)
      try simp only [Act.put, List.setIfInBounds_toArray, List.set_cons_zero, List.set_cons_succ]
      refine take_op (i := 4) (v := ?va4) rfl (by kernel_rfl) (by kernel_rfl) (by kernel_rfl) (fun _ _ _ h => h) rfl hHeld ?ya4 ?ra4
      case ya4 => (intro wz hz; go_simp; first | done | with_reducible rfl)
      try simp only [Act.put, List.setIfInBounds_toArray, List.set_cons_zero, List.set_cons_succ]
      refine take_op (i := 5) (v := ?va5) rfl (by kernel_rfl) (by kernel_rfl) (by kernel_rfl) (fun _ _ _ h => h) rfl hHeld ?ya5 ?ra5
      case ya5 => (intro wz hz; go_simp; first | done | with_reducible rfl)
      try simp only [Act.put, List.setIfInBounds_toArray, List.set_cons_zero, List.set_cons_succ]
      refine take_op (i := 6) (v := ?va6) rfl (by kernel_rfl) (by kernel_rfl) (by kernel_rfl) (fun _ _ _ h => h) rfl hHeld ?ya6 ?ra6
      case ya6 => (intro wz hz; have hcz := (FC.out wz hz).1; go_simp; first | done | with_reducible rfl)
      try simp only [Act.put, List.setIfInBounds_toArray, List.set_cons_zero, List.set_cons_succ]
      refine take_op (i := 9) (v := ?va9) rfl (by kernel_rfl) (by kernel_rfl) (by kernel_rfl) (fun _ _ _ h => h) rfl hHeld ?ya9 ?ra9
      case ya9 => (intro wz hz; go_simp; first | done | with_reducible rfl)
      try simp only [Act.put, List.setIfInBounds_toArray, List.set_cons_zero, List.set_cons_succ]
      refine take_op (i := 10) (v := ?va10) rfl (by kernel_rfl) (by kernel_rfl) (by kernel_rfl) (fun _ _ _ h => h) rfl hHeld ?ya10 ?ra10
      case ya10 => (intro wz hz; go_simp; first | done | with_reducible rfl)
      try simp only [Act.put, List.setIfInBounds_toArray, List.set_cons_zero, List.set_cons_succ]
      refine take_op (i := 11) (v := ?va11) rfl (by kernel_rfl) (by kernel_rfl) (by kernel_rfl) (fun _ _ _ h => h) rfl hHeld ?ya11 ?ra11
      case ya11 => (intro wz hz; go_simp; first | done | with_reducible rfl)
      try simp only [Act.put, List.setIfInBounds_toArray, List.set_cons_zero, List.set_cons_succ]
      refine take_op (i := 12) (v := ?va12) rfl (by kernel_rfl) (by kernel_rfl) (by kernel_rfl) (fun _ _ _ h => h) rfl hHeld ?ya12 ?ra12
      case ya12 => (intro wz hz; go_simp; first | done | with_reducible rfl)
      try simp only [Act.put, List.setIfInBounds_toArray, List.set_cons_zero, List.set_cons_succ]
      refine take_op (i := 13) (v := ?va13) rfl (by kernel_rfl) (by kernel_rfl) (by kernel_rfl) (fun _ _ _ h => h) rfl hHeld ?ya13 ?ra13
      case ya13 => (intro wz hz; have hcz := (FC.out wz hz).2; go_simp; first | done | with_reducible rfl)
      try simp only [Act.put, List.setIfInBounds_toArray, List.set_cons_zero, List.set_cons_succ]
      refine regionKK (fun G hG => ?_)
      refine actKK (p := fun a => G 8 _ a W) (fun a0 ha0 => ?_)
      refine listKK (p := fun l => G 8 l a0 W) (fun l0 hl0 => ?_)
      have HG : Hid _ := hG
      have HA0 : Hid _ := ha0
      have HL0 : Hid _ := hl0
      clear hG ha0 hl0 hHeld
      have ST22 : Hid (∀ (p1 : Nat), ∀ (ua : Option Addr) (uc : Nat), ∀ (p2 : Nat), ∀ (va2 : Option Addr) (vc2 : Nat), ∀ W : World, pq wr W (some ((.slice ua (x q).1.length uc), (x q).1)) (some ((.slice va2 (x q).2.length vc2), (x q).2)) → G 4 ((((l0.setIfInBounds 1 true).setIfInBounds 7 true).setIfInBounds 8 true).setIfInBounds 14 true) ((((a0.put (some 12) (.slice (some ⟨p1, 0, none⟩) 0 0)).put (some 18) (.slice ua (x q).1.length uc)).put (some 19) (.slice (some ⟨p2, 0, none⟩) 0 0)).put (some 25) (.slice va2 (x q).2.length vc2)) W) := (show ∀ (p1 : Nat), ∀ (ua : Option Addr) (uc : Nat), ∀ (p2 : Nat), ∀ (va2 : Option Addr) (vc2 : Nat), ∀ W : World, pq wr W (some ((.slice ua (x q).1.length uc), (x q).1)) (some ((.slice va2 (x q).2.length vc2), (x q).2)) → G 4 ((((l0.setIfInBounds 1 true).setIfInBounds 7 true).setIfInBounds 8 true).setIfInBounds 14 true) ((((a0.put (some 12) (.slice (some ⟨p1, 0, none⟩) 0 0)).put (some 18) (.slice ua (x q).1.length uc)).put (some 19) (.slice (some ⟨p2, 0, none⟩) 0 0)).put (some 25) (.slice va2 (x q).2.length vc2)) W from by
        intro p1 ua uc p2 va2 vc2 W H
        rw [HA0.out, HL0.out, HG.out]
        try simp only [Act.put, List.setIfInBounds_toArray, List.set_cons_zero, List.set_cons_succ]
        have hHeld : Below w.heap.size w W := HBR.out.trans (H.1.mono HBR.out.size)
        refine take_op (i := 15) (v := .agg (rowV 2 (prG (.slice ua (x q).1.length uc) (.slice va2 (x q).2.length vc2)))) rfl (by kernel_rfl) (by kernel_rfl) (by kernel_rfl) (fun _ _ _ h => h) rfl hHeld (fun wz hz => exec_build2 38 0 1 (.tmp 18) (.tmp 25) (.slice ua (x q).1.length uc) (.slice va2 (x q).2.length vc2) rfl rfl rfl (build_pr ua va2 (x q).1.length uc (x q).2.length vc2 wz)) ?_
        try simp only [Act.put, List.setIfInBounds_toArray, List.set_cons_zero, List.set_cons_succ]
        refine take_one (i := 16) rfl (by kernel_rfl) rfl (fun K hK => ?_)
        refine wp_of_run (exec_bslice1' 22 1 0 (.tmp 26) (.agg (rowV 2 (prG (.slice ua (x q).1.length uc) (.slice va2 (x q).2.length vc2)))) rfl rfl (build_pr1 (prG (.slice ua (x q).1.length uc) (.slice va2 (x q).2.length vc2)) W)) ?_
        obtain ⟨W2, hW2⟩ : ∃ W2, W2 = W.alloc (.cells (rowV 2 (prG (.slice ua (x q).1.length uc) (.slice va2 (x q).2.length vc2))) 38) := ⟨_, rfl⟩
        have b12 : Below W.heap.size W W2 := by rw [hW2]; exact (Below.refl _ _).alloc (Nat.le_refl _) _
        have rN : W2.rowIs W.heap.size 38 2 (prG (.slice ua (x q).1.length uc) (.slice va2 (x q).2.length vc2)) := by rw [hW2]; exact rowIs_box _ _ _ _
        rw [← hW2]
        clear hW2
        have bw2 : Below wr.heap.size wr W2 := H.1.trans (b12.mono H.1.size)
        have bww : Below w.heap.size w W2 := HBR.out.trans (bw2.mono HBR.out.size)
        refine hK.out _ _ bww (fun hHeld2 => ?_)
        clear hK K
        try simp only [Act.put, List.setIfInBounds_toArray, List.set_cons_zero, List.set_cons_succ]
        have HO2 : ownPairs W2 w.heap.size (.slice oa q oc) q x := HOS.out.below bw2 (Nat.le_refl _)
        have e1 : newBytes W2 wr.heap.size (.slice ua (x q).1.length uc) (x q).1 := (H.2.1 _ _ rfl).below b12 (Nat.le_refl _)
        have e2 : newBytes W2 wr.heap.size (.slice va2 (x q).2.length vc2) (x q).2 := (H.2.2.1 _ _ rfl).below b12 (Nat.le_refl _)
        have PF : pairFar W2 w.heap.size (.slice oa q oc) (prG (.slice ua (x q).1.length uc) (.slice va2 (x q).2.length vc2)) (x q) := fun z hz => by
          have hs := HBR.out.size
          have far : ∀ j, wr.heap.size ≤ j → j < W2.heap.size → z.heap[j]? = W2.heap[j]? := fun j h1 h2 => hz.2 j h2 (fun e => by have := (HOS.out.block j e).2; omega) (by omega)
          exact ⟨_, _, rfl, Or.inl (e1.apart fun j hj => far j (e1.block j hj).1 (e1.block j hj).2).is, Or.inl (e2.apart fun j hj => far j (e2.block j hj).1 (e2.block j hj).2).is⟩
        obtain ⟨v', V3, hr, ho3, hg3, hat3⟩ := pairs_append W2 w.heap.size (.slice oa q oc) q x HO2 W.heap.size (prG (.slice ua (x q).1.length uc) (.slice va2 (x q).2.length vc2)) rN PF (by omega) bww.size
        have b3 : Below w.heap.size w V3 := bww.trans (below_grown hg3 (fun k hk => (HO2.block k hk).1) bww.size)
        refine take_one (i := 17) rfl (by kernel_rfl) rfl (fun K hK => ?_)
        refine wp_append_run (.tmp 11) (.tmp 27) 22 rfl rfl rfl hr ?_
        refine hK.out _ _ b3 (fun hHeld3 => ?_)
        clear hK K
        try simp only [Act.put, List.setIfInBounds_toArray, List.set_cons_zero, List.set_cons_succ]
        have hsv : ∃ na nc, v' = .slice na (q + 1) nc := by
          obtain ⟨na, nc, e, _⟩ := ho3.is
          exact ⟨na, nc, e⟩
        obtain ⟨na, nc, rfl⟩ := hsv
        refine take_op (i := 18) (v := ?vz) rfl (by kernel_rfl) (by kernel_rfl) (by kernel_rfl) (fun _ _ _ h => h) rfl hHeld3 ?yz ?rz
        case yz => (intro wz hz; go_simp; first | done | with_reducible rfl)
        try simp only [Act.put, List.setIfInBounds_toArray, List.set_cons_zero, List.set_cons_succ]
        refine wpAnyH_done (by kernel_rfl) ?_ _
        refine NoPanic.normal ?_
        have FIN : Hid (ownPairs V3 w.heap.size (.slice na (q + 1) nc) (q + 1) x ∧ Below w.heap.size w V3) := (show _ ∧ _ from ⟨ho3, b3⟩)
        clear hHeld hHeld2 hHeld3 H b12 rN bw2 bww HO2 e1 e2 PF hr ho3 hg3 hat3 b3
        go_wp2
        exact ⟨⟨q + 1, na, nc, by omega, rfl, by go_num, FIN.out.1, FIN.out.2⟩, by simp [intOf]; omega⟩)
      have ST21 : Hid (∀ (p1 : Nat), ∀ (ua : Option Addr) (uc : Nat), ∀ (p2 : Nat), ∀ W : World, pq wr W (some ((.slice ua (x q).1.length uc), (x q).1)) (some ((.slice (some ⟨p2, 0, none⟩) 0 0), [])) → G 5 (((l0.setIfInBounds 1 true).setIfInBounds 7 true).setIfInBounds 8 true) (((a0.put (some 12) (.slice (some ⟨p1, 0, none⟩) 0 0)).put (some 18) (.slice ua (x q).1.length uc)).put (some 19) (.slice (some ⟨p2, 0, none⟩) 0 0)) W) := (show ∀ (p1 : Nat), ∀ (ua : Option Addr) (uc : Nat), ∀ (p2 : Nat), ∀ W : World, pq wr W (some ((.slice ua (x q).1.length uc), (x q).1)) (some ((.slice (some ⟨p2, 0, none⟩) 0 0), [])) → G 5 (((l0.setIfInBounds 1 true).setIfInBounds 7 true).setIfInBounds 8 true) (((a0.put (some 12) (.slice (some ⟨p1, 0, none⟩) 0 0)).put (some 18) (.slice ua (x q).1.length uc)).put (some 19) (.slice (some ⟨p2, 0, none⟩) 0 0)) W from by
        intro p1 ua uc p2 W H
        rw [HA0.out, HL0.out, HG.out]
        try simp only [Act.put, List.setIfInBounds_toArray, List.set_cons_zero, List.set_cons_succ]
        refine take_one (i := 14) rfl (by kernel_rfl) rfl (fun K hK => ?_)
        obtain ⟨u, W2, hr, H2⟩ := H.swap.fill (FA.out W (HBR.out.trans (H.1.mono HBR.out.size))).2 (by have := HXQ.out; omega)
        replace H2 := H2.swap
        obtain ⟨va2, vc2, rfl⟩ := (H2.2.2.1 _ _ rfl).slen
        refine wp_append_run (.tmp 19) (.tmp 24) 23 rfl rfl rfl hr ?_
        refine hK.out _ _ (HBR.out.trans (H2.1.mono HBR.out.size)) (fun hHeld => ?_)
        try simp only [Act.put, List.setIfInBounds_toArray, List.set_cons_zero, List.set_cons_succ]
        have T := ST22.out p1 ua uc p2 va2 vc2 W2 H2
        rw [HA0.out, HL0.out, HG.out] at T
        try simp only [Act.put, List.setIfInBounds_toArray, List.set_cons_zero, List.set_cons_succ] at T
        exact lcongK (by kernel_rfl) T)
      have ST20 : Hid (∀ (p1 : Nat), ∀ (ua : Option Addr) (uc : Nat), ∀ W : World, pq wr W (some ((.slice ua (x q).1.length uc), (x q).1)) none → G 6 ((l0.setIfInBounds 1 true).setIfInBounds 7 true) ((a0.put (some 12) (.slice (some ⟨p1, 0, none⟩) 0 0)).put (some 18) (.slice ua (x q).1.length uc)) W) := (show ∀ (p1 : Nat), ∀ (ua : Option Addr) (uc : Nat), ∀ W : World, pq wr W (some ((.slice ua (x q).1.length uc), (x q).1)) none → G 6 ((l0.setIfInBounds 1 true).setIfInBounds 7 true) ((a0.put (some 12) (.slice (some ⟨p1, 0, none⟩) 0 0)).put (some 18) (.slice ua (x q).1.length uc)) W from by
        intro p1 ua uc W H
        rw [HA0.out, HL0.out, HG.out]
        try simp only [Act.put, List.setIfInBounds_toArray, List.set_cons_zero, List.set_cons_succ]
        refine take_one (i := 8) rfl (by kernel_rfl) rfl (fun K hK => ?_)
        refine wp_of_run (exec_bslice0' 23 0 rfl (build_b0 W)) ?_
        have H2 := (H.swap.make).swap
        refine hK.out _ _ (HBR.out.trans (H2.1.mono HBR.out.size)) (fun hHeld => ?_)
        try simp only [Act.put, List.setIfInBounds_toArray, List.set_cons_zero, List.set_cons_succ]
        have T := ST21.out p1 ua uc W.heap.size (W.alloc (.cells #[] 5)) H2
        rw [HA0.out, HL0.out, HG.out] at T
        try simp only [Act.put, List.setIfInBounds_toArray, List.set_cons_zero, List.set_cons_succ] at T
        exact lcongK (by kernel_rfl) T)
      have ST11 : Hid (∀ (p1 : Nat), ∀ (p2 : Nat), ∀ W : World, pq wr W (some ((.slice (some ⟨p1, 0, none⟩) 0 0), [])) (some ((.slice (some ⟨p2, 0, none⟩) 0 0), [])) → G 6 ((l0.setIfInBounds 1 true).setIfInBounds 8 true) ((a0.put (some 12) (.slice (some ⟨p1, 0, none⟩) 0 0)).put (some 19) (.slice (some ⟨p2, 0, none⟩) 0 0)) W) := (show ∀ (p1 : Nat), ∀ (p2 : Nat), ∀ W : World, pq wr W (some ((.slice (some ⟨p1, 0, none⟩) 0 0), [])) (some ((.slice (some ⟨p2, 0, none⟩) 0 0), [])) → G 6 ((l0.setIfInBounds 1 true).setIfInBounds 8 true) ((a0.put (some 12) (.slice (some ⟨p1, 0, none⟩) 0 0)).put (some 19) (.slice (some ⟨p2, 0, none⟩) 0 0)) W from by
        intro p1 p2 W H
        rw [HA0.out, HL0.out, HG.out]
        try simp only [Act.put, List.setIfInBounds_toArray, List.set_cons_zero, List.set_cons_succ]
        refine take_one (i := 7) rfl (by kernel_rfl) rfl (fun K hK => ?_)
        obtain ⟨u, W2, hr, H2⟩ := H.fill (FA.out W (HBR.out.trans (H.1.mono HBR.out.size))).1 (by have := HXQ.out; omega)
        obtain ⟨ua, uc, rfl⟩ := (H2.2.1 _ _ rfl).slen
        refine wp_append_run (.tmp 12) (.tmp 17) 23 rfl rfl rfl hr ?_
        refine hK.out _ _ (HBR.out.trans (H2.1.mono HBR.out.size)) (fun hHeld => ?_)
        try simp only [Act.put, List.setIfInBounds_toArray, List.set_cons_zero, List.set_cons_succ]
        have T := ST21.out p1 ua uc p2 W2 H2
        rw [HA0.out, HL0.out, HG.out] at T
        try simp only [Act.put, List.setIfInBounds_toArray, List.set_cons_zero, List.set_cons_succ] at T
        exact lcongK (by kernel_rfl) T)
      have ST10 : Hid (∀ (p1 : Nat), ∀ W : World, pq wr W (some ((.slice (some ⟨p1, 0, none⟩) 0 0), [])) none → G 7 (l0.setIfInBounds 1 true) (a0.put (some 12) (.slice (some ⟨p1, 0, none⟩) 0 0)) W) := (show ∀ (p1 : Nat), ∀ W : World, pq wr W (some ((.slice (some ⟨p1, 0, none⟩) 0 0), [])) none → G 7 (l0.setIfInBounds 1 true) (a0.put (some 12) (.slice (some ⟨p1, 0, none⟩) 0 0)) W from by
        intro p1 W H
        rw [HA0.out, HL0.out, HG.out]
        try simp only [Act.put, List.setIfInBounds_toArray, List.set_cons_zero, List.set_cons_succ]
        refine take_pair (i := 7) (j := 8) rfl rfl (by kernel_rfl) rfl rfl (fun K hK => ?_) (fun K hK => ?_)
        · obtain ⟨u, W2, hr, H2⟩ := H.fill (FA.out W (HBR.out.trans (H.1.mono HBR.out.size))).1 (by have := HXQ.out; omega)
          obtain ⟨ua, uc, rfl⟩ := (H2.2.1 _ _ rfl).slen
          refine wp_append_run (.tmp 12) (.tmp 17) 23 rfl rfl rfl hr ?_
          refine hK.out _ _ (HBR.out.trans (H2.1.mono HBR.out.size)) (fun hHeld => ?_)
          try simp only [Act.put, List.setIfInBounds_toArray, List.set_cons_zero, List.set_cons_succ]
          have T := ST20.out p1 ua uc W2 H2
          rw [HA0.out, HL0.out, HG.out] at T
          try simp only [Act.put, List.setIfInBounds_toArray, List.set_cons_zero, List.set_cons_succ] at T
          exact lcongK (by kernel_rfl) T
        · refine wp_of_run (exec_bslice0' 23 0 rfl (build_b0 W)) ?_
          have H2 := (H.swap.make).swap
          refine hK.out _ _ (HBR.out.trans (H2.1.mono HBR.out.size)) (fun hHeld => ?_)
          try simp only [Act.put, List.setIfInBounds_toArray, List.set_cons_zero, List.set_cons_succ]
          have T := ST11.out p1 W.heap.size (W.alloc (.cells #[] 5)) H2
          rw [HA0.out, HL0.out, HG.out] at T
          try simp only [Act.put, List.setIfInBounds_toArray, List.set_cons_zero, List.set_cons_succ] at T
          exact lcongK (by kernel_rfl) T)
      have ST01 : Hid (∀ (p2 : Nat), ∀ W : World, pq wr W none (some ((.slice (some ⟨p2, 0, none⟩) 0 0), [])) → G 7 (l0.setIfInBounds 8 true) (a0.put (some 19) (.slice (some ⟨p2, 0, none⟩) 0 0)) W) := (show ∀ (p2 : Nat), ∀ W : World, pq wr W none (some ((.slice (some ⟨p2, 0, none⟩) 0 0), [])) → G 7 (l0.setIfInBounds 8 true) (a0.put (some 19) (.slice (some ⟨p2, 0, none⟩) 0 0)) W from by
        intro p2 W H
        rw [HA0.out, HL0.out, HG.out]
        try simp only [Act.put, List.setIfInBounds_toArray, List.set_cons_zero, List.set_cons_succ]
        refine take_one (i := 1) rfl (by kernel_rfl) rfl (fun K hK => ?_)
        refine wp_of_run (exec_bslice0' 23 0 rfl (build_b0 W)) ?_
        have H2 := H.make
        refine hK.out _ _ (HBR.out.trans (H2.1.mono HBR.out.size)) (fun hHeld => ?_)
        try simp only [Act.put, List.setIfInBounds_toArray, List.set_cons_zero, List.set_cons_succ]
        have T := ST11.out W.heap.size p2 (W.alloc (.cells #[] 5)) H2
        rw [HA0.out, HL0.out, HG.out] at T
        try simp only [Act.put, List.setIfInBounds_toArray, List.set_cons_zero, List.set_cons_succ] at T
        exact lcongK (by kernel_rfl) T)
      have ST00 : Hid (∀ W : World, pq wr W none none → G 8 l0 a0 W) := (show ∀ W : World, pq wr W none none → G 8 l0 a0 W from by
        intro W H
        rw [HA0.out, HL0.out, HG.out]
        try simp only [Act.put, List.setIfInBounds_toArray, List.set_cons_zero, List.set_cons_succ]
        refine take_pair (i := 1) (j := 8) rfl rfl (by kernel_rfl) rfl rfl (fun K hK => ?_) (fun K hK => ?_)
        · refine wp_of_run (exec_bslice0' 23 0 rfl (build_b0 W)) ?_
          have H2 := H.make
          refine hK.out _ _ (HBR.out.trans (H2.1.mono HBR.out.size)) (fun hHeld => ?_)
          try simp only [Act.put, List.setIfInBounds_toArray, List.set_cons_zero, List.set_cons_succ]
          have T := ST10.out W.heap.size (W.alloc (.cells #[] 5)) H2
          rw [HA0.out, HL0.out, HG.out] at T
          try simp only [Act.put, List.setIfInBounds_toArray, List.set_cons_zero, List.set_cons_succ] at T
          exact lcongK (by kernel_rfl) T
        · refine wp_of_run (exec_bslice0' 23 0 rfl (build_b0 W)) ?_
          have H2 := (H.swap.make).swap
          refine hK.out _ _ (HBR.out.trans (H2.1.mono HBR.out.size)) (fun hHeld => ?_)
          try simp only [Act.put, List.setIfInBounds_toArray, List.set_cons_zero, List.set_cons_succ]
          have T := ST01.out W.heap.size (W.alloc (.cells #[] 5)) H2
          rw [HA0.out, HL0.out, HG.out] at T
          try simp only [Act.put, List.setIfInBounds_toArray, List.set_cons_zero, List.set_cons_succ] at T
          exact lcongK (by kernel_rfl) T)
      exact ST00.out W H
    · obtain rfl : q = n := by omega
      have q1 : ¬ (q : Int) < (q : Int) := by omega
      clear hbr
      go_wp2
      go_ret
      exact ⟨_, rfl, HOS.out, HBR.out⟩
end Go.Proofs.YtgchnobifidjcaaDoor

/- A copy of a row of sums; clear of a row of sums. -/
namespace Go.Proofs.YtgchnobifidjcaaDoor
set_option linter.unusedSimpArgs false
set_option linter.unusedVariables false
open Go.RowKit Go.Deep

/-- append([]api.Sum{}, l...): the copy. -/
theorem copy_sums (w : World) (L : List (List Int)) (v : Value) (h : sumsAt w v L) (hL : L.length ≤ 1000) :
    ∃ a c w', (Builtin.append_ #[39, 39] 39 #[.slice (some ⟨w.heap.size, 0, none⟩) 0 0, v]).run Tryd.prog (w.alloc (.cells #[] 32)) = .ok (.slice a L.length c) w' ∧ newSums w' w.heap.size (.slice a L.length c) L ∧ Below w.heap.size w w' := by
  have ba : Below w.heap.size w (w.alloc (.cells #[] 32)) := (Below.refl _ _).alloc (Nat.le_refl _) _
  have h0 : newSums (w.alloc (.cells #[] 32)) w.heap.size (.slice (some ⟨w.heap.size, 0, none⟩) 0 0) [] := ⟨fun x hx => by simp at hx, ownsRow_empty _ _ _ _ _ (blk_alloc_new w _) (Nat.le_refl _)⟩
  obtain ⟨a, c, w', hr, hn, hg, _⟩ := sums_append (w.alloc (.cells #[] 32)) w.heap.size _ [] h0 v L (h.below ba (Nat.le_refl _)) (by simp; omega) (by simp)
  have e : ([] : List (List Int)).length + L.length = L.length := by simp
  rw [e] at hr hn
  refine ⟨a, c, w', hr, hn, ba.trans (below_grown hg (fun j hj => ?_) (by simp))⟩
  have : w.heap.size = j := by simpa [Value.ownBlock] using hj
  omega
end Go.Proofs.YtgchnobifidjcaaDoor

/- The document's copy of what is shown. -/
namespace Go.Proofs.YtgchnobifidjcaaDoor
set_option linter.unusedSimpArgs false
set_option linter.unusedVariables false
open Go.RowKit Go.Deep

theorem ownPairs.one {w : World} {B : Nat} {v : Value} {x : Nat → Pr} (h : ownPairs w B v 1 x) : ∃ g c ka kcap va vcap, v = .slice (some ⟨g, 0, none⟩) 1 c ∧ B ≤ g ∧ g < w.heap.size ∧ (∀ j, j < 2 → w.cell? ⟨g, 0 + j, none⟩ = some (prG (.slice ka (x 0).1.length kcap) (.slice va (x 0).2.length vcap) j)) ∧ pairFar w B v (prG (.slice ka (x 0).1.length kcap) (.slice va (x 0).2.length vcap)) (x 0) := by
  obtain ⟨U, hU, ho, hy⟩ := id h
  obtain ⟨u, hu, hf⟩ := hy 0 (by omega)
  obtain ⟨kc, vc, rfl, h1, h2⟩ := hf.now
  obtain ⟨ka, kcap, rfl, _⟩ := h1.slice
  obtain ⟨va, vcap, rfl, _⟩ := h2.slice
  obtain ⟨a, c, rfl, hc, hm, hg⟩ := ownsRow_slice ho
  obtain ⟨g, rfl, hlt, _, hcell⟩ := hg (by omega)
  refine ⟨g, c, ka, kcap, va, vcap, rfl, (h.block g rfl).1, hlt, fun j hj => ?_, hf⟩
  have := hcell _ _ (c2s_get U 0 j _ hu hj)
  rw [Nat.zero_mul, Nat.zero_add] at this
  rw [Nat.zero_add]; exact this
theorem cell_blk {w w' : World} {p : Addr} (h : w'.heap[p.block]? = w.heap[p.block]?) : w'.cell? p = w.cell? p := by unfold World.cell?; rw [h]
theorem wpList_runC {P : Program} {ops : Array Oper} {rest : List Oper} {o : Oper} {a : Act} {w w' : World} {Q : Exit → Act → World → Prop} {v : Value} (hgd : o.guard = none) (hr : (execOp a.eval o).run P w = .ok (.value v) w') (h : wpList P ops Q rest (a.put o.dst v) w') : wpList P ops Q (o :: rest) a w :=
  wpList_plain hgd fun _ hK => wp_of_run hr (hK _ _ h)
theorem build_s0 (w : World) : (Instr.buildSlice 39 0 #[]).run Tryd.prog w = .ok (.slice (some ⟨w.heap.size, 0, none⟩) 0 0) (w.alloc (.cells #[] 32)) := by
  show (_ : Result Value) = _
  kernel_rfl
/-- the loop of Copy: box b8 holds the copy so far. -/
def cpL (w3 : World) (b8 : Nat) (cnt : Int) (q : Nat) (y : Nat → Sp) (wr : World) : Prop := But w3.heap.size b8 w3 wr ∧ ∃ oa oc, wr.rowIs b8 29 2 (seG cnt (.slice oa q oc)) ∧ ownSpots wr w3.heap.size b8 (.slice oa q oc) q y
set_option maxHeartbeats 8000000 in
set_option maxRecDepth 100000 in
theorem rcopy_any (cnt : Int) (m : Nat) (sv : Value) (y : Nat → Sp) (w : World) (hp : spotsAt w sv m y) (hm : m ≤ 10) (hx : ∀ i, i < m → (y i).pr.1.length + (y i).pr.2.length ≤ 1000000 ∧ (y i).path.length ≤ 1000) :
    Calls Tryd.prog 21 #[.agg #[.int .i64 cnt, sv]] w fun e w' => ∃ u, e = .returned (.agg #[.int .i64 cnt, u]) ∧ spotsAt w' u m y ∧ Below w.heap.size w w' := by
  have hzse := zero_se
  have hzsp := zero_sp
  have hb1' := build_se1
  obtain ⟨a, cap, hv, hmc, hcm, _⟩ := (id hp : spotsAt w sv m y)
  have hmm : (m : Int) ≤ 10 := by omega
  subst hv
  obtain ⟨w1, hw1⟩ : ∃ w1, w1 = (w.alloc (.cells #[.int .i64 cnt, .slice a m cap] 29)).alloc (.cells (rowV 2 (seG 0 (.slice none 0 0))) 29) := ⟨_, rfl⟩
  have b1 : Below w.heap.size w w1 := by rw [hw1]; exact ((Below.refl _ _).alloc (Nat.le_refl _) _).alloc (by simp) _
  have z1 : w1.heap.size = w.heap.size + 2 := by rw [hw1]; simp
  have hbk : w1.heap[w.heap.size]? = some (.cells #[.int .i64 cnt, .slice a m cap] 29) := by rw [hw1, blk_alloc_lt _ _ _ (by simp), blk_alloc_new]
  have r1 : w1.rowIs (w.heap.size + 1) 29 2 (seG 0 (.slice none 0 0)) := by
    have r := rowIs_box (w.alloc (.cells #[.int .i64 cnt, .slice a m cap] 29)) 29 2 (seG 0 (.slice none 0 0))
    rw [World.size_alloc] at r; rw [hw1]; exact r
  have c0 : w1.cell? ⟨w.heap.size, 0, none⟩ = some (.int .i64 cnt) := by rw [cell_of_row _ _ _ _ _ _ hbk]; rfl
  have c1 : w1.cell? ⟨w.heap.size, 1, none⟩ = some (.slice a m cap) := by rw [cell_of_row _ _ _ _ _ _ hbk]; rfl
  obtain ⟨wq, hwq⟩ : ∃ wq, wq = w1.alloc (.cells (rowV 2 (seG 0 (.slice none 0 0))) 29) := ⟨_, rfl⟩
  have bq : Below w1.heap.size w1 wq := by rw [hwq]; exact (Below.refl _ _).alloc (Nat.le_refl _) _
  have rq : wq.rowIs w1.heap.size 29 2 (seG 0 (.slice none 0 0)) := by rw [hwq]; exact rowIs_box _ _ _ _
  have zq : wq.heap.size = w1.heap.size + 1 := by rw [hwq]; simp
  have HP : Hid (spotsAt w (.slice a m cap) m y ∧ (∀ i, i < m → (y i).pr.1.length + (y i).pr.2.length ≤ 1000000 ∧ (y i).path.length ≤ 1000) ∧ m ≤ 10) := (show _ ∧ _ ∧ _ from ⟨hp, hx, hm⟩)
  have HQ : Hid (Below w.heap.size w w1 ∧ w1.heap.size = w.heap.size + 2 ∧ w1.rowIs (w.heap.size + 1) 29 2 (seG 0 (.slice none 0 0)) ∧ Below w1.heap.size w1 wq ∧ wq.heap.size = w1.heap.size + 1 ∧ wq.rowIs w1.heap.size 29 2 (seG 0 (.slice none 0 0)) ∧ w1.heap[w.heap.size]? = some (.cells #[.int .i64 cnt, .slice a m cap] 29)) := (show _ from ⟨b1, z1, r1, bq, zq, rq, hbk⟩)
  have hm0 : (0 : Int) ≤ (m : Int) := by omega
  clear hp hx hmc hcm b1 z1 r1 bq rq zq hbk c1
  go_enter Tryd.func21, Tryd.ntmps21
  go_upto_region 1 with fail
  rw [← hw1]
  clear hw1
  go_upto_region 2 with (first | (rw [← hwq]; clear hwq; refine wpList_store_row rfl 29 _ _ rfl rfl w1.heap.size 0 2 (seG cnt (.slice none 0 0)) rfl rfl hiSe (seG_one _ _ _ _) _ _ _ HQ.out.2.2.2.2.2.1 (by omega) ?_; intro w3 r3 z3 b3))
  have r3' : w3.rowIs w1.heap.size 29 2 (seG cnt (.slice none 0 0)) := r3.congr (fun i hi => by rw [if_pos (by omega), Nat.sub_zero])
  obtain ⟨b8, hb8⟩ : ∃ b8, b8 = w1.heap.size := ⟨_, rfl⟩
  rw [← hb8] at r3' b3 ⊢
  have SZ : Hid (b8 = w.heap.size + 2 ∧ w3.heap.size = w.heap.size + 3) := (show _ ∧ _ from by have h1 := HQ.out.2.1; have h2 := HQ.out.2.2.2.2.1; exact ⟨by omega, by omega⟩)
  have FACT : Hid (∀ wz, But w3.heap.size b8 w3 wz → Below w.heap.size w wz ∧ wz.cell? ⟨w.heap.size, 1, none⟩ = some (.slice a m cap) ∧ wz.rowIs (w.heap.size + 1) 29 2 (seG 0 (.slice none 0 0))) := (show _ from fun wz hz => by
    obtain ⟨h1, h2, h3, h4, h5, h6, h7⟩ := HQ.out
    obtain ⟨s1, s2⟩ := SZ.out
    have b03 : But w1.heap.size b8 w1 w3 := (But.of_below h4 b8).trans (b3.mono (by omega))
    have b0z : But w1.heap.size b8 w1 wz := b03.trans (hz.mono b03.size)
    refine ⟨h1.trans ((b0z.mono (by omega)).below (by omega)), ?_, ?_⟩
    · rw [cell_of_row _ _ _ _ _ _ ((b0z.block _ (by omega) (by omega)).trans h7)]; rfl
    · exact World.rowIs.of_block h3 (b0z.block _ (by omega) (by omega)))
  have HL0 : Hid (cpL w3 b8 cnt 0 y w3) := (show _ from ⟨But.refl _ _ _, none, 0, r3', ownSpots.nil _ _ _ _⟩)
  have HW3 : Hid (b8 < w3.heap.size) := (show b8 < w3.heap.size from by have := SZ.out; omega)
  clear r3 r3' z3 b3 hb8 c0
  go_wp2_with fail
  go_loopw [4] (fun i wr => ∃ q : Nat, q ≤ m ∧ i = .int .i64 (q : Int) ∧ cpL w3 b8 cnt q y wr) (fun i _ => m - (intOf i).toNat)
  case atStart => exact ⟨0, by omega, rfl, HL0.out⟩
  case round =>
    obtain ⟨q, hqm, rfl, hbut, oa, oc, r8, hos⟩ := hrel
    have q0 : (0 : Int) ≤ (q : Int) := by omega
    have c1 := (FACT.out wr hbut).2.1
    have HB : Hid (But w3.heap.size b8 w3 wr) := (show _ from hbut)
    have HR8 : Hid (wr.rowIs b8 29 2 (seG cnt (.slice oa q oc))) := (show _ from r8)
    have HOS : Hid (ownSpots wr w3.heap.size b8 (.slice oa q oc) q y) := (show _ from hos)
    clear r8 hos
    by_cases hlt : q < m
    · have q1 : (q : Int) < (m : Int) := by omega
      obtain ⟨g, o, cap', e, hg, hcell⟩ := HP.out.1.at (by omega)
      injection e with e1 e2 e3
      subst e1
      subst e3
      obtain ⟨ka, kcap, va, vcap, pa, pcap, hin, H⟩ := hcell q hlt
      have bw := (FACT.out wr hbut).1
      have hc4 : ∀ i, i < 4 → wr.cell? ⟨g, o + q * 4 + i, none⟩ = some ((spG (y q).at_ (.slice ka (y q).pr.1.length kcap) (.slice va (y q).pr.2.length vcap) (.slice pa (y q).path.length pcap)) i) := fun i hi => by
        obtain ⟨q0, q1, q2, q3, _⟩ := H wr bw
        have : i = 0 ∨ i = 1 ∨ i = 2 ∨ i = 3 := by omega
        rcases this with rfl | rfl | rfl | rfl
        · exact q0
        · exact q1
        · exact q2
        · exact q3
      obtain ⟨w4, hw4⟩ : ∃ w4, w4 = wr.alloc (.cells (rowV 4 spZ) 41) := ⟨_, rfl⟩
      have b4 : Below wr.heap.size wr w4 := by rw [hw4]; exact (Below.refl _ _).alloc (Nat.le_refl _) _
      have r4 : w4.rowIs wr.heap.size 41 4 spZ := by rw [hw4]; exact rowIs_box _ _ _ _
      have H4 : Hid (w4.rowIs wr.heap.size 41 4 spZ ∧ Below wr.heap.size wr w4) := (show _ ∧ _ from ⟨r4, b4⟩)
      have FA : Hid (∀ wz, Below w.heap.size w wz → anyBytes wz (.slice ka (y q).pr.1.length kcap) (y q).pr.1 ∧ anyBytes wz (.slice va (y q).pr.2.length vcap) (y q).pr.2 ∧ sumsAt wz (.slice pa (y q).path.length pcap) (y q).path) := (show _ from fun wz hz => (H wz hz).2.2.2.2)
      have HIN : Hid (inI64 (y q).at_) := (show _ from hin)
      have HXQ : Hid ((y q).pr.1.length + (y q).pr.2.length ≤ 1000000 ∧ (y q).path.length ≤ 1000) := (show _ from HP.out.2.1 q hlt)
      clear hcell H r4 b4 hg bw hbut hin
      go_upto_region 6 with (first | (refine wpList_load_seg rfl 41 _ rfl g (o + q * 4) 4 (spG (y q).at_ (.slice ka (y q).pr.1.length kcap) (.slice va (y q).pr.2.length vcap) (.slice pa (y q).path.length pcap)) rfl _ Tryd.underlying41 rfl hiSp hc4 ?_) | (rw [← hw4]; clear hw4; refine wpList_store_row rfl 41 _ _ rfl rfl wr.heap.size 0 4 (spG (y q).at_ (.slice ka (y q).pr.1.length kcap) (.slice va (y q).pr.2.length vcap) (.slice pa (y q).path.length pcap)) rfl rfl hiSp (spG_one _ _ _ _ _ _ _ _ _ _) _ _ _ H4.out.1 (by omega) ?_; intro w5 r5 z5 b5))
      have r5' : w5.rowIs wr.heap.size 41 4 (spG (y q).at_ (.slice ka (y q).pr.1.length kcap) (.slice va (y q).pr.2.length vcap) (.slice pa (y q).path.length pcap)) := r5.congr (fun i hi => by rw [if_pos (by omega), Nat.sub_zero])
      have bw5 : Below wr.heap.size wr w5 := H4.out.2.trans (b5.below' (Nat.le_refl _) H4.out.2.size)
      have z45 := r5'.lt
      obtain ⟨bs5, hbs5⟩ : ∃ bs5, bs5 = wr.heap.size := ⟨_, rfl⟩
      have l5 : ∀ j, j < 2 → w5.cell? ⟨bs5, 1 + j, none⟩ = some (prG (.slice ka (y q).pr.1.length kcap) (.slice va (y q).pr.2.length vcap) j) := fun j hj => by
        have : j = 0 ∨ j = 1 := by omega
        rw [hbs5]
        rcases this with rfl | rfl
        · exact r5'.cell (i := 1) (by omega)
        · exact r5'.cell (i := 2) (by omega)
      obtain ⟨w6, hw6⟩ : ∃ w6, w6 = w5.alloc (.cells (rowV 2 (prG (.slice ka (y q).pr.1.length kcap) (.slice va (y q).pr.2.length vcap))) 38) := ⟨_, rfl⟩
      have b6 : Below w5.heap.size w5 w6 := by rw [hw6]; exact (Below.refl _ _).alloc (Nat.le_refl _) _
      have r6 : w6.rowIs w5.heap.size 38 2 (prG (.slice ka (y q).pr.1.length kcap) (.slice va (y q).pr.2.length vcap)) := by rw [hw6]; exact rowIs_box _ _ _ _
      have bwr : Below w.heap.size w wr := (FACT.out wr HB.out).1
      have bw6 : Below wr.heap.size wr w6 := bw5.trans (b6.mono bw5.size)
      have hp6 : pairsAt w6 (.slice (some ⟨w5.heap.size, 0, none⟩) 1 1) 1 (fun _ => (y q).pr) := ⟨_, 1, rfl, Nat.le_refl _, by decide, fun i hi => by
        obtain rfl : i = 0 := by omega
        obtain ⟨f1, f2, _⟩ := FA.out w6 (bwr.trans (bw6.mono bwr.size))
        exact ⟨w5.heap.size, 0, _, _, rfl, r6.lt, r6.cell (i := 0) (by omega), r6.cell (i := 1) (by omega), f1, f2⟩⟩
      have X := rpairs_any 1 _ (fun _ => (y q).pr) w6 hp6 (by omega) (fun _ _ => HXQ.out.1)
      have HB6 : Hid (w5.rowIs bs5 41 4 (spG (y q).at_ (.slice ka (y q).pr.1.length kcap) (.slice va (y q).pr.2.length vcap) (.slice pa (y q).path.length pcap)) ∧ Below w5.heap.size w5 w6 ∧ Below wr.heap.size wr w5 ∧ Below w.heap.size w wr ∧ bs5 = wr.heap.size) := (show _ from ⟨by rw [hbs5]; exact r5', b6, bw5, bwr, hbs5⟩)
      rw [← hbs5]
      clear r5 r5' z5 b5 bw5 bwr bw6 b6 hp6 r6 hc4 hbs5 z45
      go_wp2_with (first | (refine wpList_load_seg rfl 38 _ rfl bs5 1 2 (prG (.slice ka (y q).pr.1.length kcap) (.slice va (y q).pr.2.length vcap)) rfl _ Tryd.underlying38 rfl hiPr l5 ?_) | (refine wpList_runC rfl (exec_bslice1' 22 1 0 (.tmp 23) (.agg (rowV 2 (prG (.slice ka (y q).pr.1.length kcap) (.slice va (y q).pr.2.length vcap)))) rfl rfl (build_pr1 (prG (.slice ka (y q).pr.1.length kcap) (.slice va (y q).pr.2.length vcap)) w5)) ?_; rw [← hw6]; clear hw6))
      refine X.mono ?_
      rintro e w7 ⟨u, rfl, ho, hb7⟩
      clear X l5
      obtain ⟨gp, pc, ub, uc, vb, vc, rfl, hgB, hglt, hgc, hfar⟩ := ho.one
      obtain ⟨r5, b56, b5w, bww, e5⟩ := HB6.out
      have b57 : Below w5.heap.size w5 w7 := b56.trans (hb7.mono b56.size)
      have b07 : Below wr.heap.size wr w7 := b5w.trans (b57.mono b5w.size)
      have r8V : w7.rowIs b8 29 2 (seG cnt (.slice oa q oc)) := b07.row HR8.out HR8.out.lt
      have r5V : w7.rowIs bs5 41 4 (spG (y q).at_ (.slice ka (y q).pr.1.length kcap) (.slice va (y q).pr.2.length vcap) (.slice pa (y q).path.length pcap)) := b57.row r5 r5.lt
      have s56 := b56.size
      have s5w := b5w.size
      have HAF : Hid (∀ V', (∀ j, (j = b8 ∨ wr.heap.size ≤ j) → j < w7.heap.size → V'.heap[j]? = w7.heap[j]?) → (fun (w' : World) => w'.cell? ⟨b8, 1, none⟩ = some (.slice oa q oc) ∧ w'.cell? ⟨bs5, 0, none⟩ = some (.int .i64 (y q).at_) ∧ w'.cell? ⟨bs5, 3, none⟩ = some (.slice pa (y q).path.length pcap) ∧ ∀ j, j < 2 → w'.cell? ⟨gp, 0 + j, none⟩ = some ((prG (.slice ub (y q).pr.1.length uc) (.slice vb (y q).pr.2.length vc)) j)) V') := (show ∀ V', (∀ j, (j = b8 ∨ wr.heap.size ≤ j) → j < w7.heap.size → V'.heap[j]? = w7.heap[j]?) → (fun (w' : World) => w'.cell? ⟨b8, 1, none⟩ = some (.slice oa q oc) ∧ w'.cell? ⟨bs5, 0, none⟩ = some (.int .i64 (y q).at_) ∧ w'.cell? ⟨bs5, 3, none⟩ = some (.slice pa (y q).path.length pcap) ∧ ∀ j, j < 2 → w'.cell? ⟨gp, 0 + j, none⟩ = some ((prG (.slice ub (y q).pr.1.length uc) (.slice vb (y q).pr.2.length vc)) j)) V' from fun V' hV => by
        have q8 : V'.rowIs b8 29 2 (seG cnt (.slice oa q oc)) := World.rowIs.of_block r8V (hV _ (Or.inl rfl) r8V.lt)
        have q5 : V'.rowIs bs5 41 4 (spG (y q).at_ (.slice ka (y q).pr.1.length kcap) (.slice va (y q).pr.2.length vcap) (.slice pa (y q).path.length pcap)) := World.rowIs.of_block r5V (hV _ (Or.inr (by omega)) r5V.lt)
        exact ⟨q8.cell (i := 1) (by omega), q5.cell (i := 0) (by omega), q5.cell (i := 3) (by omega), fun j hj => (cell_blk (p := ⟨gp, 0 + j, none⟩) (hV gp (Or.inr (by omega)) hglt)).trans (hgc j hj)⟩)
      have HFAR : Hid (pairFar w7 w6.heap.size (.slice (some ⟨gp, 0, none⟩) 1 pc) (prG (.slice ub (y q).pr.1.length uc) (.slice vb (y q).pr.2.length vc)) (y q).pr) := (show _ from hfar)
      have SZ7 : Hid (wr.heap.size ≤ w6.heap.size ∧ wr.heap.size ≤ w7.heap.size ∧ w3.heap.size ≤ wr.heap.size ∧ w7.heap.size = w7.drew.heap.size ∧ b8 < w3.heap.size) := (show _ ∧ _ ∧ _ ∧ _ ∧ _ from ⟨by omega, b07.size, HB.out.size, rfl, HW3.out⟩)
      have R7 : Hid (w7.rowIs b8 29 2 (seG cnt (.slice oa q oc)) ∧ Below wr.heap.size wr w7) := (show _ ∧ _ from ⟨r8V, b07⟩)
      have bd : Below w7.heap.size w7 w7.drew := (Below.refl _ _).drew
      have HD : Hid (Below w7.heap.size w7 w7.drew) := (show _ from bd)
      have HJ : Hid (∀ s, (JJ 15 (fun (w' : World) => w'.cell? ⟨b8, 1, none⟩ = some (.slice oa q oc) ∧ w'.cell? ⟨bs5, 0, none⟩ = some (.int .i64 (y q).at_) ∧ w'.cell? ⟨bs5, 3, none⟩ = some (.slice pa (y q).path.length pcap) ∧ ∀ j, j < 2 → w'.cell? ⟨gp, 0 + j, none⟩ = some ((prG (.slice ub (y q).pr.1.length uc) (.slice vb (y q).pr.2.length vc)) j)) 15 (fun (w' : World) => w'.cell? ⟨b8, 1, none⟩ = some (.slice oa q oc) ∧ w'.cell? ⟨bs5, 0, none⟩ = some (.int .i64 (y q).at_) ∧ w'.cell? ⟨bs5, 3, none⟩ = some (.slice pa (y q).path.length pcap) ∧ ∀ j, j < 2 → w'.cell? ⟨gp, 0 + j, none⟩ = some ((prG (.slice ub (y q).pr.1.length uc) (.slice vb (y q).pr.2.length vc)) j))) s w7.drew) := (show ∀ s, (JJ 15 (fun (w' : World) => w'.cell? ⟨b8, 1, none⟩ = some (.slice oa q oc) ∧ w'.cell? ⟨bs5, 0, none⟩ = some (.int .i64 (y q).at_) ∧ w'.cell? ⟨bs5, 3, none⟩ = some (.slice pa (y q).path.length pcap) ∧ ∀ j, j < 2 → w'.cell? ⟨gp, 0 + j, none⟩ = some ((prG (.slice ub (y q).pr.1.length uc) (.slice vb (y q).pr.2.length vc)) j)) 15 (fun (w' : World) => w'.cell? ⟨b8, 1, none⟩ = some (.slice oa q oc) ∧ w'.cell? ⟨bs5, 0, none⟩ = some (.int .i64 (y q).at_) ∧ w'.cell? ⟨bs5, 3, none⟩ = some (.slice pa (y q).path.length pcap) ∧ ∀ j, j < 2 → w'.cell? ⟨gp, 0 + j, none⟩ = some ((prG (.slice ub (y q).pr.1.length uc) (.slice vb (y q).pr.2.length vc)) j))) s w7.drew from JJ_all (HAF.out _ (fun j _ hj => bd.block j hj)) (HAF.out _ (fun j _ hj => bd.block j hj)))
      have HPS : Hid (sumsAt w7.drew (.slice pa (y q).path.length pcap) (y q).path) := (show _ from (FA.out _ (bww.trans ((b07.trans (bd.mono b07.size)).mono bww.size))).2.2)
      clear r5 b56 b5w bww b57 b07 r8V r5V hgc hfar hb7 ho s56 s5w bd HB6 hgB hglt e5
      go_upto_region 7 with fail
      refine wp_region_noPanic ?_
      refine wp_region_T (JJ 15 (fun (w' : World) => w'.cell? ⟨b8, 1, none⟩ = some (.slice oa q oc) ∧ w'.cell? ⟨bs5, 0, none⟩ = some (.int .i64 (y q).at_) ∧ w'.cell? ⟨bs5, 3, none⟩ = some (.slice pa (y q).path.length pcap) ∧ ∀ j, j < 2 → w'.cell? ⟨gp, 0 + j, none⟩ = some ((prG (.slice ub (y q).pr.1.length uc) (.slice vb (y q).pr.2.length vc)) j)) 15 (fun (w' : World) => w'.cell? ⟨b8, 1, none⟩ = some (.slice oa q oc) ∧ w'.cell? ⟨bs5, 0, none⟩ = some (.int .i64 (y q).at_) ∧ w'.cell? ⟨bs5, 3, none⟩ = some (.slice pa (y q).path.length pcap) ∧ ∀ j, j < 2 → w'.cell? ⟨gp, 0 + j, none⟩ = some ((prG (.slice ub (y q).pr.1.length uc) (.slice vb (y q).pr.2.length vc)) j))) (by kernel_rfl) ?_
      generalize w7.drew = V0 at HJ HPS HD SZ7 ⊢
      refine take_opT (i := 0) (v := ?vu0) 15 rfl (by kernel_rfl) (by kernel_rfl) (by kernel_rfl) (by kernel_rfl) (by kernel_rfl) (JJ_free rfl rfl) (fun _ _ _ h => h) rfl HJ.out ?yu0 ?ru0
      case yu0 => (intro wz hz0; have hz := hz0.1 rfl; go_simp; first | done | with_reducible rfl)
      try simp only [Act.put, List.setIfInBounds_toArray, List.set_cons_zero, List.set_cons_succ]
      refine take_opT (i := 1) (v := ?vu1) 15 rfl (by kernel_rfl) (by kernel_rfl) (by kernel_rfl) (by kernel_rfl) (by kernel_rfl) (JJ_free rfl rfl) (fun _ _ _ h => h) rfl HJ.out ?yu1 ?ru1
      case yu1 => (intro wz hz0; have hz := hz0.1 rfl; have hz1 := hz.1; go_simp; first | done | with_reducible rfl)
      try simp only [Act.put, List.setIfInBounds_toArray, List.set_cons_zero, List.set_cons_succ]
      refine take_opT (i := 2) (v := ?vu2) 15 rfl (by kernel_rfl) (by kernel_rfl) (by kernel_rfl) (by kernel_rfl) (by kernel_rfl) (JJ_free rfl rfl) (fun _ _ _ h => h) rfl HJ.out ?yu2 ?ru2
      case yu2 => (intro wz hz0; have hz := hz0.1 rfl; go_simp; first | done | with_reducible rfl)
      try simp only [Act.put, List.setIfInBounds_toArray, List.set_cons_zero, List.set_cons_succ]
      refine take_opT (i := 3) (v := ?vu3) 15 rfl (by kernel_rfl) (by kernel_rfl) (by kernel_rfl) (by kernel_rfl) (by kernel_rfl) (JJ_free rfl rfl) (fun _ _ _ h => h) rfl HJ.out ?yu3 ?ru3
      case yu3 => (intro wz hz0; have hz := hz0.1 rfl; have hz1 := hz.2.1; go_simp; first | done | with_reducible rfl)
      try simp only [Act.put, List.setIfInBounds_toArray, List.set_cons_zero, List.set_cons_succ]
      refine take_opT (i := 4) (v := ?vu4) 15 rfl (by kernel_rfl) (by kernel_rfl) (by kernel_rfl) (by kernel_rfl) (by kernel_rfl) (JJ_free rfl rfl) (fun _ _ _ h => h) rfl HJ.out ?yu4 ?ru4
      case yu4 => (intro wz hz0; have hz := hz0.1 rfl; go_simp; first | done | with_reducible rfl)
      try simp only [Act.put, List.setIfInBounds_toArray, List.set_cons_zero, List.set_cons_succ]
      refine take_opT (i := 5) (v := ?vu5) 15 rfl (by kernel_rfl) (by kernel_rfl) (by kernel_rfl) (by kernel_rfl) (by kernel_rfl) (JJ_free rfl rfl) (fun _ _ _ h => h) rfl HJ.out ?yu5 ?ru5
      case yu5 => (intro wz hz0; have hz := hz0.1 rfl; go_simp; first | done | with_reducible rfl)
      try simp only [Act.put, List.setIfInBounds_toArray, List.set_cons_zero, List.set_cons_succ]
      refine take_loadT (i := 6) 15 rfl (by kernel_rfl) (by kernel_rfl) (by kernel_rfl) (by kernel_rfl) (by kernel_rfl) (JJ_free rfl rfl) 38 _ rfl gp 0 2 (prG (.slice ub (y q).pr.1.length uc) (.slice vb (y q).pr.2.length vc)) rfl _ Tryd.underlying38 rfl (by kernel_rfl) (fun _ _ _ h => h) rfl HJ.out (fun wz hz => (hz.1 rfl).2.2.2) ?_
      try simp only [Act.put, List.setIfInBounds_toArray, List.set_cons_zero, List.set_cons_succ]
      refine take_opT (i := 8) (v := ?vu8) 15 rfl (by kernel_rfl) (by kernel_rfl) (by kernel_rfl) (by kernel_rfl) (by kernel_rfl) (JJ_free rfl rfl) (fun _ _ _ h => h) rfl HJ.out ?yu8 ?ru8
      case yu8 => (intro wz hz0; have hz := hz0.1 rfl; go_simp; first | done | with_reducible rfl)
      try simp only [Act.put, List.setIfInBounds_toArray, List.set_cons_zero, List.set_cons_succ]
      refine take_opT (i := 9) (v := ?vu9) 15 rfl (by kernel_rfl) (by kernel_rfl) (by kernel_rfl) (by kernel_rfl) (by kernel_rfl) (JJ_free rfl rfl) (fun _ _ _ h => h) rfl HJ.out ?yu9 ?ru9
      case yu9 => (intro wz hz0; have hz := hz0.1 rfl; have hz1 := hz.2.2.1; go_simp; first | done | with_reducible rfl)
      try simp only [Act.put, List.setIfInBounds_toArray, List.set_cons_zero, List.set_cons_succ]
      obtain ⟨na, nc, V2, hcr, hns, b02⟩ := copy_sums V0 (y q).path (.slice pa (y q).path.length pcap) HPS.out HXQ.out.2
      obtain ⟨sz1, sz2, sz3, sz4, sz5⟩ := SZ7.out
      have s02 := b02.size
      have b72 : Below w7.heap.size w7 V2 := HD.out.trans (b02.mono HD.out.size)
      have HA2 := HAF.out V2 (fun j _ hj => b72.block j hj)
      have ba : Below w7.heap.size w7 (V0.alloc (.cells #[] 32)) := HD.out.trans ((Below.refl V0.heap.size V0).alloc (Nat.le_refl _) _ |>.mono HD.out.size)
      have HA1 := HAF.out _ (fun j _ hj => ba.block j hj)
      refine take_oneT (i := 7) rfl (by kernel_rfl) rfl (fun K hK => ?_)
      refine wp_of_run (exec_bslice0' 39 0 rfl (build_s0 V0)) ?_
      refine hK.out _ _ (heldJ_all HA1 HA1) ?_
      clear hK K HA1 ba
      try simp only [Act.put, List.setIfInBounds_toArray, List.set_cons_zero, List.set_cons_succ]
      refine take_oneT (i := 10) rfl (by kernel_rfl) rfl (fun K hK => ?_)
      refine wp_append_run (.tmp 33) (.tmp 35) 39 rfl rfl rfl hcr ?_
      refine hK.out _ _ (heldJ_all HA2 HA2) ?_
      clear hK K hcr
      try simp only [Act.put, List.setIfInBounds_toArray, List.set_cons_zero, List.set_cons_succ]
      have HJ1 : Hid (∀ s, (JJ 15 (fun (w' : World) => w'.cell? ⟨b8, 1, none⟩ = some (.slice oa q oc) ∧ w'.cell? ⟨bs5, 0, none⟩ = some (.int .i64 (y q).at_) ∧ w'.cell? ⟨bs5, 3, none⟩ = some (.slice pa (y q).path.length pcap) ∧ ∀ j, j < 2 → w'.cell? ⟨gp, 0 + j, none⟩ = some ((prG (.slice ub (y q).pr.1.length uc) (.slice vb (y q).pr.2.length vc)) j)) 15 (fun (w' : World) => w'.cell? ⟨b8, 1, none⟩ = some (.slice oa q oc) ∧ w'.cell? ⟨bs5, 0, none⟩ = some (.int .i64 (y q).at_) ∧ w'.cell? ⟨bs5, 3, none⟩ = some (.slice pa (y q).path.length pcap) ∧ ∀ j, j < 2 → w'.cell? ⟨gp, 0 + j, none⟩ = some ((prG (.slice ub (y q).pr.1.length uc) (.slice vb (y q).pr.2.length vc)) j))) s V2) := (show ∀ s, (JJ 15 (fun (w' : World) => w'.cell? ⟨b8, 1, none⟩ = some (.slice oa q oc) ∧ w'.cell? ⟨bs5, 0, none⟩ = some (.int .i64 (y q).at_) ∧ w'.cell? ⟨bs5, 3, none⟩ = some (.slice pa (y q).path.length pcap) ∧ ∀ j, j < 2 → w'.cell? ⟨gp, 0 + j, none⟩ = some ((prG (.slice ub (y q).pr.1.length uc) (.slice vb (y q).pr.2.length vc)) j)) 15 (fun (w' : World) => w'.cell? ⟨b8, 1, none⟩ = some (.slice oa q oc) ∧ w'.cell? ⟨bs5, 0, none⟩ = some (.int .i64 (y q).at_) ∧ w'.cell? ⟨bs5, 3, none⟩ = some (.slice pa (y q).path.length pcap) ∧ ∀ j, j < 2 → w'.cell? ⟨gp, 0 + j, none⟩ = some ((prG (.slice ub (y q).pr.1.length uc) (.slice vb (y q).pr.2.length vc)) j))) s V2 from JJ_all HA2 HA2)
      refine take_opT (i := 11) (v := .agg (rowV 4 (spG (y q).at_ (.slice ub (y q).pr.1.length uc) (.slice vb (y q).pr.2.length vc) (.slice na (y q).path.length nc)))) 15 rfl (by kernel_rfl) (by kernel_rfl) (by kernel_rfl) (by kernel_rfl) (by kernel_rfl) (JJ_free rfl rfl) (fun _ _ _ h => h) rfl HJ1.out (fun wz hz => exec_build3' 41 0 1 2 (.tmp 29) (.tmp 32) (.tmp 36) (.int .i64 (y q).at_) (.agg (rowV 2 (prG (.slice ub (y q).pr.1.length uc) (.slice vb (y q).pr.2.length vc)))) (.slice na (y q).path.length nc) rfl rfl rfl rfl (build_sp (y q).at_ ub vb na (y q).pr.1.length uc (y q).pr.2.length vc (y q).path.length nc wz)) ?_
      try simp only [Act.put, List.setIfInBounds_toArray, List.set_cons_zero, List.set_cons_succ]
      obtain ⟨V3, hV3⟩ : ∃ V3, V3 = V2.alloc (.cells (rowV 4 (spG (y q).at_ (.slice ub (y q).pr.1.length uc) (.slice vb (y q).pr.2.length vc) (.slice na (y q).path.length nc))) 41) := ⟨_, rfl⟩
      have b23 : Below V2.heap.size V2 V3 := by rw [hV3]; exact (Below.refl _ _).alloc (Nat.le_refl _) _
      have rN : V3.rowIs V2.heap.size 41 4 (spG (y q).at_ (.slice ub (y q).pr.1.length uc) (.slice vb (y q).pr.2.length vc) (.slice na (y q).path.length nc)) := by rw [hV3]; exact rowIs_box _ _ _ _
      have b73 : Below w7.heap.size w7 V3 := b72.trans (b23.mono b72.size)
      have HA3 := HAF.out V3 (fun j _ hj => b73.block j hj)
      refine take_oneT (i := 12) rfl (by kernel_rfl) rfl (fun K hK => ?_)
      refine wp_of_run (exec_bslice1' 27 1 0 (.tmp 37) (.agg (rowV 4 (spG (y q).at_ (.slice ub (y q).pr.1.length uc) (.slice vb (y q).pr.2.length vc) (.slice na (y q).path.length nc)))) rfl rfl (build_sps (spG (y q).at_ (.slice ub (y q).pr.1.length uc) (.slice vb (y q).pr.2.length vc) (.slice na (y q).path.length nc)) V2)) ?_
      rw [← hV3]
      refine hK.out _ _ (heldJ_all HA3 HA3) ?_
      clear hK K hV3
      try simp only [Act.put, List.setIfInBounds_toArray, List.set_cons_zero, List.set_cons_succ]
      have bw3 : Below wr.heap.size wr V3 := R7.out.2.trans (b73.mono sz2)
      have hosb := HOS.out.block
      have hs73 := b73.size
      have SF : spotFar V3 b8 (.slice oa q oc) (spG (y q).at_ (.slice ub (y q).pr.1.length uc) (.slice vb (y q).pr.2.length vc) (.slice na (y q).path.length nc)) (y q) := fun z hz => by
        have far : ∀ j, wr.heap.size ≤ j → j < V3.heap.size → z.heap[j]? = V3.heap[j]? := fun j h1 h2 => hz.2 j h2 (fun e => by have := (hosb j e).2; omega) (by omega)
        obtain ⟨kc, vc', e, h1, h2⟩ := HFAR.out z ⟨by have := hz.1; omega, fun j hj hn hB => (far j (by omega) (by omega)).trans (b73.block j hj)⟩
        have e0 : (.slice ub (y q).pr.1.length uc) = kc := congrFun e 0
        have e1 : (.slice vb (y q).pr.2.length vc) = vc' := congrFun e 1
        have e3 : newSums V3 V0.heap.size (.slice na (y q).path.length nc) (y q).path := hns.below b23 (Nat.le_refl _)
        rw [← e0] at h1
        rw [← e1] at h2
        exact ⟨_, _, _, rfl, h1, h2, (e3.far fun j hj => far j (by have := (e3.block j hj).1; omega) (e3.block j hj).2).is, HIN.out⟩
      have HO3 : ownSpots V3 w3.heap.size b8 (.slice oa q oc) q y := HOS.out.below bw3 (Nat.le_refl _)
      have hm10 := HP.out.2.2
      obtain ⟨v', V4, hr, ho4, hg4, hat4⟩ := spots_append V3 w3.heap.size b8 (.slice oa q oc) q y HO3 V2.heap.size (spG (y q).at_ (.slice ub (y q).pr.1.length uc) (.slice vb (y q).pr.2.length vc) (.slice na (y q).path.length nc)) rN SF (by omega) (by omega)
      have hg4s := hg4.size
      have hg4b : ∀ j, (j = b8 ∨ wr.heap.size ≤ j) → j < V3.heap.size → V4.heap[j]? = V3.heap[j]? := fun j hj hl => hg4.block j hl (fun e => by have := hosb j e.symm; omega)
      have HA4 := HAF.out V4 (fun j hj hl => (hg4b j hj (by omega)).trans (b73.block j hl))
      refine take_oneT (i := 13) rfl (by kernel_rfl) rfl (fun K hK => ?_)
      refine wp_append_run (.tmp 27) (.tmp 38) 27 rfl rfl rfl hr ?_
      refine hK.out _ _ (heldJ_all HA4 HA4) ?_
      clear hK K
      try simp only [Act.put, List.setIfInBounds_toArray, List.set_cons_zero, List.set_cons_succ]
      have hsv : ∃ na nc, v' = .slice na (q + 1) nc := by
        obtain ⟨na, nc, e, _⟩ := ho4.is
        exact ⟨na, nc, e⟩
      obtain ⟨nb, nd, rfl⟩ := hsv
      have q8 : V4.rowIs b8 29 2 (seG cnt (.slice oa q oc)) := World.rowIs.of_block (b73.row R7.out.1 R7.out.1.lt) (hg4b _ (Or.inl rfl) (by omega))
      have c3 := q8.cell (i := 1) (by omega)
      have f3 := q8.frozen 1
      refine take_oneT (i := 14) rfl (by kernel_rfl) rfl (fun K hK => ?_)
      go_simp
      refine hK.out _ _ (heldJ_all HA4 HA4) ?_
      clear hK K
      try simp only [Act.put, List.setIfInBounds_toArray, List.set_cons_zero, List.set_cons_succ]
      refine take_oneT (i := 15) rfl (by kernel_rfl) rfl (fun K hK => ?_)
      go_simp
      refine hK.out _ _ (heldJ_none rfl rfl) ?_
      clear hK K c3 f3
      try simp only [Act.put, List.setIfInBounds_toArray, List.set_cons_zero, List.set_cons_succ]
      refine doneT (by kernel_rfl) ?_ _
      refine NoPanic.normal ?_
      have NX : Hid (∀ V5, V5 = V4.setCell ⟨b8, 1, none⟩ (.slice nb (q + 1) nd) → cpL w3 b8 cnt (q + 1) y V5) := (show ∀ V5, V5 = V4.setCell ⟨b8, 1, none⟩ (.slice nb (q + 1) nd) → cpL w3 b8 cnt (q + 1) y V5 from fun V5 h5 => by
        have hb := HB.out
        have bt : But V4.heap.size b8 V4 V5 := by
          rw [h5]
          exact but_setCells (b := b8) [.slice nb (q + 1) nd] 1 (But.refl _ _ _)
        have z5 := bt.size
        have r5 : V5.rowIs b8 29 2 (seG cnt (.slice nb (q + 1) nd)) := by
          rw [h5]
          refine (q8.set 1 (.slice nb (q + 1) nd)).congr fun i hi => ?_
          have : i = 0 ∨ i = 1 := by omega
          rcases this with rfl | rfl <;> rfl
        refine ⟨⟨bt.os.trans (hg4.os.trans (bw3.os.trans hb.os)), bt.tape.trans (hg4.tape.trans (bw3.tape.trans hb.tape)), bt.output.trans (hg4.output.trans (bw3.output.trans hb.output)), by omega, fun j hj hn => ?_⟩, _, _, r5, ho4.same (by omega) (by omega) fun j hj hn => bt.block j hj (by omega)⟩
        exact (bt.block j (by omega) hn).trans ((hg4.block j (by omega) (fun e => by have := (hosb _ e.symm).1; omega)).trans ((bw3.block j (by omega)).trans (hb.block j hj hn))))
      obtain ⟨V5, hV5⟩ : ∃ V5, V5 = V4.setCell ⟨b8, 1, none⟩ (.slice nb (q + 1) nd) := ⟨_, rfl⟩
      rw [← hV5]
      have NX5 : Hid (cpL w3 b8 cnt (q + 1) y V5) := (show cpL w3 b8 cnt (q + 1) y V5 from NX.out V5 hV5)
      clear NX hV5 ho4 hat4 hg4 hg4b HA2 HA3 HA4 hr SF HO3 q8 rN b23 b02 b72 b73 bw3 hosb HJ1 hns hg4s hs73 sz1 sz2 sz3 sz4 sz5 s02 hm10
      go_wp2_with fail
      go_light
      exact ⟨⟨q + 1, by omega, by go_num, NX5.out⟩, by simp [intOf]; omega⟩
    · obtain rfl : q = m := by omega
      have q1 : ¬ (q : Int) < (q : Int) := by omega
      obtain ⟨fa1, _, fa3⟩ := FACT.out wr hbut
      have l8 : ∀ j, j < 2 → wr.cell? ⟨b8, 0 + j, none⟩ = some (seG cnt (.slice oa q oc) j) := fun j hj => by rw [Nat.zero_add]; exact HR8.out.cell hj
      have FI : Hid (∀ V, But wr.heap.size (w.heap.size + 1) wr V → spotsAt V (.slice oa q oc) q y ∧ Below w.heap.size w V) := (show ∀ V, But wr.heap.size (w.heap.size + 1) wr V → spotsAt V (.slice oa q oc) q y ∧ Below w.heap.size w V from fun V hV => by
        have sV := hV.size
        have s3 := HB.out.size
        obtain ⟨z1, z2⟩ := SZ.out
        have hw3 := HW3.out
        exact ⟨(HOS.out.same (w' := V) (by omega) hV.size (fun j hj hn => hV.block j hj (by omega))).is, fa1.trans ((hV.mono fa1.size).below (by omega))⟩)
      clear fa1 hbut
      go_wp2_with (first | (refine wpList_load_w 29 (.tmp 3) rfl rfl b8 0 2 (seG cnt (.slice oa q oc)) rfl _ Tryd.underlying29 rfl hiSe l8 ?_) | (refine wpList_store_row rfl 29 _ _ rfl rfl (w.heap.size + 1) 0 2 (seG cnt (.slice oa q oc)) rfl rfl hiSe (seG_one _ _ _ _) _ _ _ fa3 (by omega) ?_; intro w9 r9 hz9 hb9))
      exact bodyPost_ret (results_cell_seg rfl _ _ (w.heap.size + 1) 29 2 (seG cnt (.slice oa q oc)) _ rfl Tryd.underlying29 rfl hiSe (r9.congr fun i hi => by rw [if_pos (by omega), Nat.sub_zero])) rfl (by exact ⟨_, rfl, FI.out w9 hb9⟩)
end Go.Proofs.YtgchnobifidjcaaDoor

/- The document's Look. -/
namespace Go.Proofs.YtgchnobifidjcaaDoor
set_option linter.unusedSimpArgs false
set_option linter.unusedVariables false
open Go.RowKit Go.Deep

def rlookP (cnt : Int) (m : Nat) (y : Nat → Sp) (key root : List Int) (e : Ending) (w' : World) : Prop :=
  (¬ lookOk cnt m y key root ∧ e = .returned (.tuple #[.slice none 0 0, .bool false, .bool false])) ∨
  (lookOk cnt m y key root ∧ ((∃ k, k < m ∧ (y k).pr.1 = key ∧ (∀ j, j < k → ¬ (y j).pr.1 = key) ∧ ∃ v', anyBytes w' v' (y k).pr.2 ∧ e = .returned (.tuple #[v', .bool true, .bool true])) ∨ ((∀ j, j < m → ¬ (y j).pr.1 = key) ∧ e = .returned (.tuple #[.slice none 0 0, .bool false, .bool true]))))
/-- the drawn region of Look: how far it is. -/
def rlS (w5 W : World) (x : Option Nat) : Prop := Below w5.heap.size w5 W ∧ ∀ b, x = some b → w5.heap.size ≤ b ∧ W.rowIs b 32 32 (fun _ => .int .u8 0)
theorem rlS.step {w5 W W' : World} {x : Option Nat} (h : rlS w5 W x) (hb : Below W.heap.size W W') : rlS w5 W' x := ⟨h.1.trans (hb.mono h.1.size), fun b e => ⟨(h.2 b e).1, hb.row (h.2 b e).2 (h.2 b e).2.lt⟩⟩
theorem rlS.box {w5 W : World} (h : rlS w5 W none) : rlS w5 (W.alloc (.cells (rowV 32 (fun _ => .int .u8 0)) 32)) (some W.heap.size) := ⟨h.1.trans (((Below.refl W.heap.size W).alloc (Nat.le_refl _) _).mono h.1.size), fun b e => by
  rw [← Option.some.inj e]; exact ⟨h.1.size, rowIs_box _ _ _ _⟩⟩
theorem leadR_cases (n : Int) (s : Sp) : ∃ (lv : List Int) (lb : Bool), leadR n s.at_ (leafS s.pr) s.path = .tuple #[.agg (rowV 32 (arrV lv)), .bool lb] ∧ isSum lv ∧ ((lb = true ∧ toA n s = some lv) ∨ (lb = false ∧ toA n s = none)) := by
  unfold leadR toA
  by_cases h : okLead n s.at_ s.path = true
  · refine ⟨_, true, by rw [if_pos h]; rfl, ?_, Or.inl ⟨rfl, by rw [if_pos h]⟩⟩
    have := toA_sum (n := n) (y := s) (s := leadF (ups (wayI n s.at_) s.path) (leafS s.pr)) (by unfold toA; rw [if_pos h])
    exact this
  · refine ⟨List.replicate 32 0, false, by rw [if_neg h]; rfl, ⟨by simp, fun i => ?_⟩, Or.inr ⟨rfl, by rw [if_neg h]⟩⟩
    rw [List.getD_eq_getElem?_getD, List.getElem?_replicate]
    split <;> simp
set_option maxHeartbeats 8000000 in
set_option maxRecDepth 100000 in
theorem rlook_any (root : List Int) (hroot : isSum root) (cnt : Int) (hcn : inI64 cnt) (m : Nat) (sv tv : Value) (y : Nat → Sp) (key : List Int) (w : World) (hp : spotsAt w sv m y) (hkey : anyBytes w tv key) (hx : ∀ i, i < m → (y i).pr.1.length + (y i).pr.2.length ≤ 1000000 ∧ (y i).path.length ≤ 1000) :
    Calls Tryd.prog 23 #[.agg (rowV 32 (arrV root)), tv, .agg #[.int .i64 cnt, sv]] w fun e w' => rlookP cnt m y key root e w' ∧ Below w.heap.size w w' := by
  have hz32 := zero_s32
  have hzsp := zero_sp
  obtain ⟨a, cap, hv, hmc, hcm, _⟩ := (id hp : spotsAt w sv m y)
  subst hv
  obtain ⟨w1, hw1⟩ : ∃ w1, w1 = (w.alloc (.cells (rowV 32 (arrV root)) 32)).alloc (.cells #[.int .i64 cnt, .slice a m cap] 29) := ⟨_, rfl⟩
  have b1 : Below w.heap.size w w1 := by rw [hw1]; exact ((Below.refl _ _).alloc (Nat.le_refl _) _).alloc (by simp) _
  have z1 : w1.heap.size = w.heap.size + 2 := by rw [hw1]; simp
  have rR : w1.rowIs w.heap.size 32 32 (arrV root) := by
    have r := rowIs_box w 32 32 (arrV root)
    rw [hw1]; exact ((Below.refl (w.alloc (.cells (rowV 32 (arrV root)) 32)).heap.size _).alloc (Nat.le_refl _) _).row r (by simp)
  have rS : w1.rowIs (w.heap.size + 1) 29 2 (seG cnt (.slice a m cap)) := by
    have r := rowIs_box (w.alloc (.cells (rowV 32 (arrV root)) 32)) 29 2 (seG cnt (.slice a m cap))
    rw [World.size_alloc] at r; rw [hw1]; exact r
  have FACT : Hid (∀ wz, Below w1.heap.size w1 wz → Below w.heap.size w wz ∧ wz.rowIs w.heap.size 32 32 (arrV root) ∧ wz.rowIs (w.heap.size + 1) 29 2 (seG cnt (.slice a m cap)) ∧ spotsAt wz (.slice a m cap) m y ∧ anyBytes wz tv key) := (show _ from fun wz hz => by
    have hz' : Below w.heap.size w wz := b1.trans (hz.mono (by omega))
    exact ⟨hz', hz.row rR rR.lt, hz.row rS rS.lt, hp.below hz' (Nat.le_refl _), hkey.below hz' (Nat.le_refl _)⟩)
  have HX : Hid ((∀ i, i < m → (y i).pr.1.length + (y i).pr.2.length ≤ 1000000 ∧ (y i).path.length ≤ 1000) ∧ isSum root ∧ inI64 cnt ∧ w1.heap.size = w.heap.size + 2) := (show _ ∧ _ ∧ _ ∧ _ from ⟨hx, hroot, hcn, z1⟩)
  have HPW : Hid (spotsAt w (.slice a m cap) m y) := (show _ from hp)
  obtain ⟨ta, tcap, rfl, _⟩ := hkey.slice
  have hl1 : ∀ j, j < 2 → w1.cell? ⟨w.heap.size + 1, 0 + j, none⟩ = some (seG cnt (.slice a m cap) j) := fun j hj => by rw [Nat.zero_add]; exact rS.cell hj
  have X1 := rsays_any cnt hcn m _ _ y key w1 (FACT.out w1 (Below.refl _ _)).2.2.2.1 (FACT.out w1 (Below.refl _ _)).2.2.2.2
  clear hp hkey hx b1 z1 rR rS hmc hcm hroot hcn
  go_enter Tryd.func23, Tryd.ntmps23
  go_upto_region 1 with fail
  rw [← hw1]
  clear hw1
  go_wp2_with (first | (refine wpList_load_w 29 (.tmp 5) rfl rfl (w.heap.size + 1) 0 2 (seG cnt (.slice a m cap)) rfl _ Tryd.underlying29 rfl hiSe hl1 ?_))
  refine X1.mono ?_
  rintro e w2 ⟨rfl, b2⟩
  clear X1 hl1
  have HW2 : Hid (Below w1.heap.size w1 w2) := (show _ from b2)
  by_cases hsy : rsaysB cnt m y key = true
  · have HSY : Hid (rsaysB cnt m y key = true) := hsy
    rw [hsy]
    clear hsy
    have hm2 : m ≤ 2 := by
      have h := HSY.out
      unfold rsaysB saysB at h
      rw [Bool.and_eq_true] at h
      have h2 := h.2
      split at h2
      · omega
      · split at h2
        · omega
        · split at h2
          · omega
          · cases h2
    have h0c : 0 ≤ cnt := by
      have h := HSY.out
      unfold rsaysB at h
      rw [Bool.and_eq_true] at h
      exact of_decide_eq_true h.1
    have X2 := rroot_any 0 [] (.slice none 0 0) w2 (by simp) (by omega) (sumsAt.nil w2)
    go_wp2_with fail
    refine X2.mono ?_
    rintro e w3 ⟨rfl, b3⟩
    clear X2
    obtain ⟨wq, hwq⟩ : ∃ wq, wq = w3.alloc (.cells (rowV 32 (fun _ => .int .u8 0)) 32) := ⟨_, rfl⟩
    have bq : Below w3.heap.size w3 wq := by rw [hwq]; exact (Below.refl _ _).alloc (Nat.le_refl _) _
    have rq : wq.rowIs w3.heap.size 32 32 (fun _ => .int .u8 0) := by rw [hwq]; exact rowIs_box _ _ _ _
    have HQ : Hid (Below w1.heap.size w1 w3 ∧ Below w3.heap.size w3 wq ∧ wq.rowIs w3.heap.size 32 32 (fun _ => .int .u8 0)) := (show _ ∧ _ ∧ _ from ⟨b2.trans (b3.mono b2.size), bq, rq⟩)
    clear b2 b3 bq rq
    unfold sumV
    go_upto_region 4 with (first | (rw [← hwq]; clear hwq; refine wpList_store_row rfl 32 _ _ rfl rfl w3.heap.size 0 32 (arrV (rootS [])) rfl rfl hi32' (fun _ _ => rfl) _ _ _ HQ.out.2.2 (by omega) ?_; intro w4 r4 z4 b4))
    have r4' : w4.rowIs w3.heap.size 32 32 (arrV (rootS [])) := r4.congr (fun i hi => by rw [if_pos (by omega), Nat.sub_zero])
    obtain ⟨b9, hb9⟩ : ∃ b9, b9 = w3.heap.size := ⟨_, rfl⟩
    have HB9 : Hid (w1.heap.size ≤ b9) := (show w1.heap.size ≤ b9 from by rw [hb9]; exact HQ.out.1.size)
    have HL4 : Hid (w4.rowIs b9 32 32 (arrV (rootS [])) ∧ Below w1.heap.size w1 w4) := (show _ ∧ _ from ⟨by rw [hb9]; exact r4', HQ.out.1.trans ((HQ.out.2.1.trans (b4.below' (Nat.le_refl _) HQ.out.2.1.size)).mono HQ.out.1.size)⟩)
    rw [← hb9]
    have HM2 : Hid (m ≤ 2 ∧ 0 ≤ cnt) := (show _ ∧ _ from ⟨hm2, h0c⟩)
    have hm2i : (m : Int) ≤ 2 := by omega
    have hm0 : (0 : Int) ≤ (m : Int) := by omega
    clear r4 r4' z4 b4 hb9 HQ
    go_wp2_with fail
    go_loopw [10] (fun i wr => ∃ q : Nat, q ≤ m ∧ i = .int .i64 (q : Int) ∧ ∃ t, wr.rowIs b9 32 32 (arrV t) ∧ isSum t ∧ ((q = 0 ∧ t = rootS []) ∨ (0 < q ∧ ∀ j, j < q → toA cnt (y j) = some t)) ∧ Below w1.heap.size w1 wr) (fun i _ => m - (intOf i).toNat)
    case atStart => exact ⟨0, by omega, rfl, rootS [], HL4.out.1, rootS_sum (fun x hx => by simp at hx), Or.inl ⟨rfl, rfl⟩, HL4.out.2⟩
    case round =>
      obtain ⟨q, hqm, rfl, t, r9, hts, htt, hbr⟩ := hrel
      have q0 : (0 : Int) ≤ (q : Int) := by omega
      have HT : Hid ((q = 0 ∧ t = rootS []) ∨ (0 < q ∧ ∀ j, j < q → toA cnt (y j) = some t)) := (show _ from htt)
      have HTS : Hid (isSum t) := (show _ from hts)
      have HR : Hid (wr.rowIs b9 32 32 (arrV t) ∧ Below w1.heap.size w1 wr) := (show _ ∧ _ from ⟨r9, hbr⟩)
      have c1 : wr.cell? ⟨w.heap.size + 1, 1, none⟩ = some (.slice a m cap) := (FACT.out wr hbr).2.2.1.cell (i := 1) (by omega)
      clear r9 hts htt
      by_cases hlt : q < m
      · have q1 : (q : Int) < (m : Int) := by omega
        obtain ⟨g, o, cap', e, hg, hcell⟩ := HPW.out.at (by omega)
        injection e with e1 e2 e3
        subst e1
        subst e3
        obtain ⟨ka, kcap, va, vcap, pa, pcap, hin, H⟩ := hcell q hlt
        have bw := (FACT.out wr hbr).1
        have hc4 : ∀ i, i < 4 → wr.cell? ⟨g, o + q * 4 + i, none⟩ = some ((spG (y q).at_ (.slice ka (y q).pr.1.length kcap) (.slice va (y q).pr.2.length vcap) (.slice pa (y q).path.length pcap)) i) := fun i hi => by
          obtain ⟨q0, q1, q2, q3, _⟩ := H wr bw
          have : i = 0 ∨ i = 1 ∨ i = 2 ∨ i = 3 := by omega
          rcases this with rfl | rfl | rfl | rfl
          · exact q0
          · exact q1
          · exact q2
          · exact q3
        obtain ⟨w6, hw6⟩ : ∃ w6, w6 = wr.alloc (.cells (rowV 4 spZ) 41) := ⟨_, rfl⟩
        have b6 : Below wr.heap.size wr w6 := by rw [hw6]; exact (Below.refl _ _).alloc (Nat.le_refl _) _
        have r6 : w6.rowIs wr.heap.size 41 4 spZ := by rw [hw6]; exact rowIs_box _ _ _ _
        have H6 : Hid (w6.rowIs wr.heap.size 41 4 spZ ∧ Below wr.heap.size wr w6) := (show _ ∧ _ from ⟨r6, b6⟩)
        have FA : Hid (∀ wz, Below w.heap.size w wz → anyBytes wz (.slice ka (y q).pr.1.length kcap) (y q).pr.1 ∧ anyBytes wz (.slice va (y q).pr.2.length vcap) (y q).pr.2 ∧ sumsAt wz (.slice pa (y q).path.length pcap) (y q).path) := (show _ from fun wz hz => (H wz hz).2.2.2.2)
        have HIN : Hid (inI64 (y q).at_) := (show _ from hin)
        clear hcell H r6 b6 hg bw hin hbr
        go_upto_region 8 with (first | (refine wpList_load_seg rfl 41 _ rfl g (o + q * 4) 4 (spG (y q).at_ (.slice ka (y q).pr.1.length kcap) (.slice va (y q).pr.2.length vcap) (.slice pa (y q).path.length pcap)) rfl _ Tryd.underlying41 rfl hiSp hc4 ?_) | (rw [← hw6]; clear hw6; refine wpList_store_row rfl 41 _ _ rfl rfl wr.heap.size 0 4 (spG (y q).at_ (.slice ka (y q).pr.1.length kcap) (.slice va (y q).pr.2.length vcap) (.slice pa (y q).path.length pcap)) rfl rfl hiSp (spG_one _ _ _ _ _ _ _ _ _ _) _ _ _ H6.out.1 (by omega) ?_; intro w5 r5 z5 b5))
        have r5' : w5.rowIs wr.heap.size 41 4 (spG (y q).at_ (.slice ka (y q).pr.1.length kcap) (.slice va (y q).pr.2.length vcap) (.slice pa (y q).path.length pcap)) := r5.congr (fun i hi => by rw [if_pos (by omega), Nat.sub_zero])
        have bw5 : Below wr.heap.size wr w5 := H6.out.2.trans (b5.below' (Nat.le_refl _) H6.out.2.size)
        obtain ⟨bs5, hbs5⟩ : ∃ bs5, bs5 = wr.heap.size := ⟨_, rfl⟩
        rw [← hbs5] at r5' ⊢
        have b15 : Below w1.heap.size w1 w5 := HR.out.2.trans (bw5.mono HR.out.2.size)
        have HB5 : Hid (Below w1.heap.size w1 w5 ∧ w5.rowIs b9 32 32 (arrV t)) := (show _ ∧ _ from ⟨b15, bw5.row HR.out.1 HR.out.1.lt⟩)
        have HF8 : Hid (∀ wz, Below w5.heap.size w5 wz → wz.cell? ⟨w.heap.size + 1, 0, none⟩ = some (.int .i64 cnt) ∧ wz.cell? ⟨bs5, 0, none⟩ = some (.int .i64 (y q).at_) ∧ wz.cell? ⟨bs5, 3, none⟩ = some (.slice pa (y q).path.length pcap) ∧ ∀ j, j < 2 → wz.cell? ⟨bs5, 1 + j, none⟩ = some ((prG (.slice ka (y q).pr.1.length kcap) (.slice va (y q).pr.2.length vcap)) j)) := (show _ from fun wz hz => by
          have rz := hz.row r5' r5'.lt
          refine ⟨(FACT.out wz (b15.trans (hz.mono b15.size))).2.2.1.cell (i := 0) (by omega), rz.cell (i := 0) (by omega), rz.cell (i := 3) (by omega), fun j hj => ?_⟩
          have : j = 0 ∨ j = 1 := by omega
          rcases this with rfl | rfl
          · exact rz.cell (i := 1) (by omega)
          · exact rz.cell (i := 2) (by omega))
        obtain ⟨lv, lb, hlr, hlv, hlb⟩ := leadR_cases cnt (y q)
        have HLV : Hid (isSum lv) := (show _ from hlv)
        have HLB : Hid ((lb = true ∧ toA cnt (y q) = some lv) ∨ (lb = false ∧ toA cnt (y q) = none)) := (show _ from hlb)
        have CLF : Hid (∀ W, Below w5.heap.size w5 W → Calls Tryd.prog 52 #[.agg (rowV 2 (prG (.slice ka (y q).pr.1.length kcap) (.slice va (y q).pr.2.length vcap)))] W fun e w' => e = .returned (.agg (rowV 32 (arrV (leafS (y q).pr)))) ∧ Below W.heap.size W w') := (show ∀ W, Below w5.heap.size w5 W → Calls Tryd.prog 52 #[.agg (rowV 2 (prG (.slice ka (y q).pr.1.length kcap) (.slice va (y q).pr.2.length vcap)))] W fun e w' => e = .returned (.agg (rowV 32 (arrV (leafS (y q).pr)))) ∧ Below W.heap.size W w' from fun W hW => by
          obtain ⟨f1, f2, _⟩ := FA.out W (FACT.out W (b15.trans (hW.mono b15.size))).1
          exact rleaf_any _ _ (y q).pr W f1 f2 (HX.out.1 q hlt).1)
        have CLD : Hid (∀ W, Below w5.heap.size w5 W → Calls Tryd.prog 51 #[.int .i64 cnt, .int .i64 (y q).at_, (.agg (rowV 32 (arrV (leafS (y q).pr)))), (.slice pa (y q).path.length pcap)] W fun e w' => e = .returned (.tuple #[.agg (rowV 32 (arrV lv)), .bool lb]) ∧ Below W.heap.size W w') := (show ∀ W, Below w5.heap.size w5 W → Calls Tryd.prog 51 #[.int .i64 cnt, .int .i64 (y q).at_, (.agg (rowV 32 (arrV (leafS (y q).pr)))), (.slice pa (y q).path.length pcap)] W fun e w' => e = .returned (.tuple #[.agg (rowV 32 (arrV lv)), .bool lb]) ∧ Below W.heap.size W w' from fun W hW => by
          obtain ⟨_, _, f3⟩ := FA.out W (FACT.out W (b15.trans (hW.mono b15.size))).1
          have := rlead_any 1000 cnt (y q).at_ (leafS (y q).pr) (y q).path (.slice pa (y q).path.length pcap) W (HX.out.1 q hlt).2 (Nat.le_refl _) HX.out.2.2.1 HIN.out (leafS_sum _) f3
          rw [hlr] at this
          exact this)
        clear r5 r5' z5 b5 bw5 b15 hc4 hlr hlv hlb hbs5 c1
        have BD : Below w5.heap.size w5 w5.drew := (Below.refl _ _).drew
        have H : rlS w5 w5.drew none := ⟨BD, fun b h => by cases h⟩
        refine wp_region_noPanic ?_
        refine wp_region_held_drew (S := fun w' => Below w5.heap.size w5 w') (by kernel_rfl) BD (fun hHeld => ?_)
        clear BD
        generalize w5.drew = W at hHeld H ⊢
        refine take_op (i := 0) (v := ?va0) rfl (by kernel_rfl) (by kernel_rfl) (by kernel_rfl) (fun _ _ _ h => h) rfl hHeld ?ya0 ?ra0
        case ya0 => (intro wz hz; go_simp; first | done | with_reducible rfl)
        try simp only [Act.put, List.setIfInBounds_toArray, List.set_cons_zero, List.set_cons_succ]
        refine take_op (i := 1) (v := ?va1) rfl (by kernel_rfl) (by kernel_rfl) (by kernel_rfl) (fun _ _ _ h => h) rfl hHeld ?ya1 ?ra1
        case ya1 => (intro wz hz; have hcz := (HF8.out wz hz).1; go_simp; first | done | with_reducible rfl)
        try simp only [Act.put, List.setIfInBounds_toArray, List.set_cons_zero, List.set_cons_succ]
        refine take_op (i := 2) (v := ?va2) rfl (by kernel_rfl) (by kernel_rfl) (by kernel_rfl) (fun _ _ _ h => h) rfl hHeld ?ya2 ?ra2
        case ya2 => (intro wz hz; go_simp; first | done | with_reducible rfl)
        try simp only [Act.put, List.setIfInBounds_toArray, List.set_cons_zero, List.set_cons_succ]
        refine take_op (i := 3) (v := ?va3) rfl (by kernel_rfl) (by kernel_rfl) (by kernel_rfl) (fun _ _ _ h => h) rfl hHeld ?ya3 ?ra3
        case ya3 => (intro wz hz; have hcz := (HF8.out wz hz).2.1; go_simp; first | done | with_reducible rfl)
        try simp only [Act.put, List.setIfInBounds_toArray, List.set_cons_zero, List.set_cons_succ]
        refine take_op (i := 4) (v := ?va4) rfl (by kernel_rfl) (by kernel_rfl) (by kernel_rfl) (fun _ _ _ h => h) rfl hHeld ?ya4 ?ra4
        case ya4 => (intro wz hz; go_simp; first | done | with_reducible rfl)
        try simp only [Act.put, List.setIfInBounds_toArray, List.set_cons_zero, List.set_cons_succ]
        refine take_load (i := 5) rfl (by kernel_rfl) (by kernel_rfl) (by kernel_rfl) 38 _ rfl bs5 1 2 (prG (.slice ka (y q).pr.1.length kcap) (.slice va (y q).pr.2.length vcap)) rfl _ Tryd.underlying38 rfl (by kernel_rfl) (fun _ _ _ h => h) rfl hHeld (fun wz hz => (HF8.out wz hz).2.2.2) ?_
        try simp only [Act.put, List.setIfInBounds_toArray, List.set_cons_zero, List.set_cons_succ]
        refine take_op (i := 7) (v := ?va7) rfl (by kernel_rfl) (by kernel_rfl) (by kernel_rfl) (fun _ _ _ h => h) rfl hHeld ?ya7 ?ra7
        case ya7 => (intro wz hz; go_simp; first | done | with_reducible rfl)
        try simp only [Act.put, List.setIfInBounds_toArray, List.set_cons_zero, List.set_cons_succ]
        refine take_op (i := 8) (v := ?va8) rfl (by kernel_rfl) (by kernel_rfl) (by kernel_rfl) (fun _ _ _ h => h) rfl hHeld ?ya8 ?ra8
        case ya8 => (intro wz hz; have hcz := (HF8.out wz hz).2.2.1; go_simp; first | done | with_reducible rfl)
        try simp only [Act.put, List.setIfInBounds_toArray, List.set_cons_zero, List.set_cons_succ]
        refine regionKK (fun G hG => ?_)
        refine actKK (p := fun a => G 8 _ a W) (fun a0 ha0 => ?_)
        refine listKK (p := fun l => G 8 l a0 W) (fun l0 hl0 => ?_)
        have HG : Hid _ := hG
        have HA0 : Hid _ := ha0
        have HL0 : Hid _ := hl0
        clear hG ha0 hl0 hHeld
        have ST21 : Hid (∀ b12 : Nat, ∀ W : World, rlS w5 W (some b12) → G 2 ((((((l0.setIfInBounds 6 true).setIfInBounds 9 true).setIfInBounds 10 true).setIfInBounds 11 true).setIfInBounds 12 true).setIfInBounds 13 true) ((((((a0.put (some 38) (.agg (rowV 32 (arrV (leafS (y q).pr))))).put (some 41) (.tuple #[.agg (rowV 32 (arrV lv)), .bool lb])).put (some 31) (.tuple #[.agg (rowV 32 (arrV lv)), .bool lb])).put (some 42) (.agg (rowV 32 (arrV lv)))).put (some 43) (.bool lb)).put (some 12) (.pointer (some ⟨b12, 0, none⟩))) W) := (show ∀ b12 : Nat, ∀ W : World, rlS w5 W (some b12) → G 2 ((((((l0.setIfInBounds 6 true).setIfInBounds 9 true).setIfInBounds 10 true).setIfInBounds 11 true).setIfInBounds 12 true).setIfInBounds 13 true) ((((((a0.put (some 38) (.agg (rowV 32 (arrV (leafS (y q).pr))))).put (some 41) (.tuple #[.agg (rowV 32 (arrV lv)), .bool lb])).put (some 31) (.tuple #[.agg (rowV 32 (arrV lv)), .bool lb])).put (some 42) (.agg (rowV 32 (arrV lv)))).put (some 43) (.bool lb)).put (some 12) (.pointer (some ⟨b12, 0, none⟩))) W from by
          intro b12 W H
          rw [HA0.out, HL0.out, HG.out]
          try simp only [Act.put, List.setIfInBounds_toArray, List.set_cons_zero, List.set_cons_succ]
          obtain ⟨hb12, r12⟩ := H.2 b12 rfl
          have hst := stow32T_run W b12 lv r12
          obtain ⟨r6, z6, bu6⟩ := stow32T_row W b12 lv r12
          generalize W.setCells b12 0 (rowV 32 (arrV lv)).toList = W6 at r6 z6 bu6 hst
          have b6 : Below w5.heap.size w5 W6 := H.1.trans ((bu6.mono H.1.size).below hb12)
          refine take_one (i := 14) rfl (by kernel_rfl) rfl (fun K hK => ?_)
          unfold Oper.wp execOp
          simp only [Instr.storeAt, Instr.sureAddr, Sem.run_bind, Sem.run_pure, Result.andThen_ok]
          simp [Act.eval, hst, Oper.upon]
          refine hK.out _ _ b6 (fun hHeld => ?_)
          clear hK K hst
          try simp only [Act.put, List.setIfInBounds_toArray, List.set_cons_zero, List.set_cons_succ]
          refine take_op (i := 15) (v := ?vz) rfl (by kernel_rfl) (by kernel_rfl) (by kernel_rfl) (fun _ _ _ h => h) rfl hHeld ?yz ?rz
          case yz => (intro wz hz; go_simp; first | done | with_reducible rfl)
          try simp only [Act.put, List.setIfInBounds_toArray, List.set_cons_zero, List.set_cons_succ]
          refine wpAnyH_done (by kernel_rfl) ?_ _
          refine NoPanic.normal ?_
          have FIN : Hid (W6.rowIs b12 32 32 (arrV lv) ∧ Below w5.heap.size w5 W6 ∧ w5.heap.size ≤ b12) := (show _ ∧ _ ∧ _ from ⟨r6, b6, hb12⟩)
          clear hHeld r6 z6 bu6 b6 H r12
          obtain ⟨f6, fb6, hbb⟩ := FIN.out
          have B6 : Below w1.heap.size w1 W6 := HB5.out.1.trans (fb6.mono HB5.out.1.size)
          have BBW : Hid (Below w1.heap.size w1 W6 ∧ Below w.heap.size w W6) := (show _ ∧ _ from ⟨B6, (FACT.out W6 B6).1⟩)
          have r9 : W6.rowIs b9 32 32 (arrV t) := fb6.row HB5.out.2 HB5.out.2.lt
          have l12 : ∀ j, j < 32 → W6.cell? ⟨b12, 0 + j, none⟩ = some (arrV lv j) := fun j hj => by rw [Nat.zero_add]; exact f6.cell hj
          have l9 : ∀ j, j < 32 → W6.cell? ⟨b9, 0 + j, none⟩ = some (arrV t j) := fun j hj => by rw [Nat.zero_add]; exact r9.cell hj
          clear f6 fb6 B6 hb12 hbb
          rcases HLB.out with ⟨hlb, hA⟩ | ⟨hlb, hA⟩
          · subst hlb
            by_cases hq1 : q = 1
            · have hqi : (q : Int) = 1 := by omega
              have hT0 : toA cnt (y 0) = some t := by
                rcases HT.out with ⟨h, _⟩ | ⟨_, h⟩
                · omega
                · exact h 0 (by omega)
              have E : ∀ wx, (binOp .neq 32 (.agg (rowV 32 (arrV lv))) (.agg (rowV 32 (arrV t)))).run Tryd.prog wx = .ok (.bool (!decide (lv = t))) wx := fun wx => by
                have := run_neq_arr (P := Tryd.prog) wx 32 5 .u8 32 (fun i => lv.getD i 0) (fun i => t.getD i 0) Tryd.underlying32 Tryd.underlying5 (by kernel_rfl) (by kernel_rfl)
                rw [arrEq_list HLV.out HTS.out] at this
                exact this
              by_cases hlt : lv = t
              · rw [decide_eq_true hlt] at E
                have hA0 : Hid (toA cnt (y 0) = some lv) := (show toA cnt (y 0) = some lv from by rw [hlt]; exact hT0)
                have hA1 : Hid (toA cnt (y q) = some lv) := hA
                have HQ1 : Hid (q = 1) := hq1
                clear hlt hT0 hA hq1
                have NX : Hid (∀ j, j < q + 1 → toA cnt (y j) = some lv) := (show ∀ j, j < q + 1 → toA cnt (y j) = some lv from fun j hj => if h : j = 0 then (by rw [h]; exact hA0.out) else (by have h1 := HQ1.out; rw [show j = q by omega]; exact hA1.out))
                go_wp2_with (first | (refine wpList_load_w 32 (.tmp 12) rfl rfl b12 0 32 (arrV lv) rfl _ Tryd.underlying32 rfl hi32' l12 ?_) | (refine wpList_load_w 32 (.tmp 9) rfl rfl b9 0 32 (arrV t) rfl _ Tryd.underlying32 rfl hi32' l9 ?_) | (refine wpList_store_row rfl 32 _ _ rfl rfl b9 0 32 (arrV lv) rfl rfl hi32' (fun _ _ => rfl) _ _ _ r9 (by omega) ?_; intro W7 r7 z7 b7))
                have FI2 : Hid (W7.rowIs b9 32 32 (arrV lv) ∧ Below w1.heap.size w1 W7) := (show _ ∧ _ from ⟨r7.congr (fun i hi => by rw [if_pos (by omega), Nat.sub_zero]), BBW.out.1.trans ((b7.mono BBW.out.1.size).below HB9.out)⟩)
                clear r7 z7 b7 r9 l9 l12
                go_light
                exact ⟨⟨q + 1, by omega, by go_num, lv, FI2.out.1, HLV.out, Or.inr ⟨by omega, NX.out⟩, FI2.out.2⟩, by simp [intOf]; omega⟩
              · rw [decide_eq_false hlt] at E
                have NOK : Hid (¬ lookOk cnt m y key root) := (show ¬ lookOk cnt m y key root from fun h => by
                  obtain ⟨_, _, s, hs, _⟩ := h
                  rcases hs with ⟨h0, _⟩ | ⟨_, hs⟩
                  · omega
                  · have e1 := (hs 0 (by omega)).symm.trans hT0
                    have e2 := (hs q (by omega)).symm.trans hA
                    exact hlt ((Option.some.inj e2).symm.trans (Option.some.inj e1)))
                clear hlt hT0 hA hq1
                go_wp2_with (first | (refine wpList_load_w 32 (.tmp 12) rfl rfl b12 0 32 (arrV lv) rfl _ Tryd.underlying32 rfl hi32' l12 ?_) | (refine wpList_load_w 32 (.tmp 9) rfl rfl b9 0 32 (arrV t) rfl _ Tryd.underlying32 rfl hi32' l9 ?_))
                exact bodyPost_ret (results_tmp3 rfl _ _ _) rfl (by exact ⟨Or.inl ⟨NOK.out, rfl⟩, BBW.out.2⟩)
            · have hqi : ¬ (q : Int) = 1 := by omega
              have hqb : ((q : Int) == 1) = false := by simp; omega
              have hq00 : q = 0 := by have := HM2.out; omega
              have hA1 : Hid (toA cnt (y q) = some lv ∧ q = 0) := (show _ ∧ _ from ⟨hA, hq00⟩)
              clear hA hq1 hq00
              have NX : Hid (∀ j, j < q + 1 → toA cnt (y j) = some lv) := (show ∀ j, j < q + 1 → toA cnt (y j) = some lv from fun j hj => (by have h0 := hA1.out.2; rw [show j = q by omega]; exact hA1.out.1))
              go_wp2_with (first | (refine wpList_load_w 32 (.tmp 12) rfl rfl b12 0 32 (arrV lv) rfl _ Tryd.underlying32 rfl hi32' l12 ?_) | (refine wpList_load_w 32 (.tmp 9) rfl rfl b9 0 32 (arrV t) rfl _ Tryd.underlying32 rfl hi32' l9 ?_) | (refine wpList_store_row rfl 32 _ _ rfl rfl b9 0 32 (arrV lv) rfl rfl hi32' (fun _ _ => rfl) _ _ _ r9 (by omega) ?_; intro W7 r7 z7 b7))
              have FI2 : Hid (W7.rowIs b9 32 32 (arrV lv) ∧ Below w1.heap.size w1 W7) := (show _ ∧ _ from ⟨r7.congr (fun i hi => by rw [if_pos (by omega), Nat.sub_zero]), BBW.out.1.trans ((b7.mono BBW.out.1.size).below HB9.out)⟩)
              clear r7 z7 b7 r9 l9 l12
              go_light
              exact ⟨⟨q + 1, by omega, by go_num, lv, FI2.out.1, HLV.out, Or.inr ⟨by omega, NX.out⟩, FI2.out.2⟩, by simp [intOf]; omega⟩
          · subst hlb
            have NOK : Hid (¬ lookOk cnt m y key root) := (show ¬ lookOk cnt m y key root from fun h => by
              obtain ⟨_, _, s, hs, _⟩ := h
              rcases hs with ⟨h0, _⟩ | ⟨_, hs⟩
              · omega
              · have e2 := (hs q (by omega)).symm.trans hA
                cases e2)
            clear hA
            go_wp2
            exact bodyPost_ret (results_tmp3 rfl _ _ _) rfl (by exact ⟨Or.inl ⟨NOK.out, rfl⟩, BBW.out.2⟩))
        have ST20 : Hid (∀ W : World, rlS w5 W none → G 3 (((((l0.setIfInBounds 6 true).setIfInBounds 9 true).setIfInBounds 10 true).setIfInBounds 11 true).setIfInBounds 12 true) (((((a0.put (some 38) (.agg (rowV 32 (arrV (leafS (y q).pr))))).put (some 41) (.tuple #[.agg (rowV 32 (arrV lv)), .bool lb])).put (some 31) (.tuple #[.agg (rowV 32 (arrV lv)), .bool lb])).put (some 42) (.agg (rowV 32 (arrV lv)))).put (some 43) (.bool lb)) W) := (show ∀ W : World, rlS w5 W none → G 3 (((((l0.setIfInBounds 6 true).setIfInBounds 9 true).setIfInBounds 10 true).setIfInBounds 11 true).setIfInBounds 12 true) (((((a0.put (some 38) (.agg (rowV 32 (arrV (leafS (y q).pr))))).put (some 41) (.tuple #[.agg (rowV 32 (arrV lv)), .bool lb])).put (some 31) (.tuple #[.agg (rowV 32 (arrV lv)), .bool lb])).put (some 42) (.agg (rowV 32 (arrV lv)))).put (some 43) (.bool lb)) W from by
          intro W H
          rw [HA0.out, HL0.out, HG.out]
          try simp only [Act.put, List.setIfInBounds_toArray, List.set_cons_zero, List.set_cons_succ]
          refine take_one (i := 13) rfl (by kernel_rfl) rfl (fun K hK => ?_)
          refine wp_of_run (exec_alloc32 rfl) ?_
          have H2 := H.box
          refine hK.out _ _ H2.1 (fun hHeld => ?_)
          try simp only [Act.put, List.setIfInBounds_toArray, List.set_cons_zero, List.set_cons_succ]
          have T := ST21.out W.heap.size (W.alloc (.cells (rowV 32 (fun _ => .int .u8 0)) 32)) H2
          rw [HA0.out, HL0.out, HG.out] at T
          try simp only [Act.put, List.setIfInBounds_toArray, List.set_cons_zero, List.set_cons_succ] at T
          exact lcongK (by kernel_rfl) T)
        have ST11 : Hid (∀ b12 : Nat, ∀ W : World, rlS w5 W (some b12) → G 6 ((l0.setIfInBounds 6 true).setIfInBounds 13 true) ((a0.put (some 38) (.agg (rowV 32 (arrV (leafS (y q).pr))))).put (some 12) (.pointer (some ⟨b12, 0, none⟩))) W) := (show ∀ b12 : Nat, ∀ W : World, rlS w5 W (some b12) → G 6 ((l0.setIfInBounds 6 true).setIfInBounds 13 true) ((a0.put (some 38) (.agg (rowV 32 (arrV (leafS (y q).pr))))).put (some 12) (.pointer (some ⟨b12, 0, none⟩))) W from by
          intro b12 W H
          rw [HA0.out, HL0.out, HG.out]
          try simp only [Act.put, List.setIfInBounds_toArray, List.set_cons_zero, List.set_cons_succ]
          refine take_one (i := 9) rfl (by kernel_rfl) rfl (fun K hK => ?_)
          go_simp
          refine Calls.mono (CLD.out W H.1) ?_
          rintro e W2 ⟨rfl, hb⟩
          have H2 := H.step hb
          refine hK.out _ _ H2.1 (fun hHeld => ?_)
          try simp only [Act.put, List.setIfInBounds_toArray, List.set_cons_zero, List.set_cons_succ]
          refine take_op (i := 10) (v := ?vy11x10) rfl (by kernel_rfl) (by kernel_rfl) (by kernel_rfl) (fun _ _ _ h => h) rfl hHeld ?yy11x10 ?ry11x10
          case yy11x10 => (intro wz hz; go_simp; first | done | with_reducible rfl)
          try simp only [Act.put, List.setIfInBounds_toArray, List.set_cons_zero, List.set_cons_succ]
          refine take_op (i := 11) (v := ?vy11x11) rfl (by kernel_rfl) (by kernel_rfl) (by kernel_rfl) (fun _ _ _ h => h) rfl hHeld ?yy11x11 ?ry11x11
          case yy11x11 => (intro wz hz; go_simp; first | done | with_reducible rfl)
          try simp only [Act.put, List.setIfInBounds_toArray, List.set_cons_zero, List.set_cons_succ]
          refine take_op (i := 12) (v := ?vy11x12) rfl (by kernel_rfl) (by kernel_rfl) (by kernel_rfl) (fun _ _ _ h => h) rfl hHeld ?yy11x12 ?ry11x12
          case yy11x12 => (intro wz hz; go_simp; first | done | with_reducible rfl)
          try simp only [Act.put, List.setIfInBounds_toArray, List.set_cons_zero, List.set_cons_succ]
          have T := ST21.out b12 W2 H2
          rw [HA0.out, HL0.out, HG.out] at T
          try simp only [Act.put, List.setIfInBounds_toArray, List.set_cons_zero, List.set_cons_succ] at T
          exact lcongK (by kernel_rfl) T)
        have ST10 : Hid (∀ W : World, rlS w5 W none → G 7 (l0.setIfInBounds 6 true) (a0.put (some 38) (.agg (rowV 32 (arrV (leafS (y q).pr))))) W) := (show ∀ W : World, rlS w5 W none → G 7 (l0.setIfInBounds 6 true) (a0.put (some 38) (.agg (rowV 32 (arrV (leafS (y q).pr))))) W from by
          intro W H
          rw [HA0.out, HL0.out, HG.out]
          try simp only [Act.put, List.setIfInBounds_toArray, List.set_cons_zero, List.set_cons_succ]
          refine take_pair (i := 9) (j := 13) rfl rfl (by kernel_rfl) rfl rfl (fun K hK => ?_) (fun K hK => ?_)
          · go_simp
            refine Calls.mono (CLD.out W H.1) ?_
            rintro e W2 ⟨rfl, hb⟩
            have H2 := H.step hb
            refine hK.out _ _ H2.1 (fun hHeld => ?_)
            try simp only [Act.put, List.setIfInBounds_toArray, List.set_cons_zero, List.set_cons_succ]
            refine take_op (i := 10) (v := ?vy10x10) rfl (by kernel_rfl) (by kernel_rfl) (by kernel_rfl) (fun _ _ _ h => h) rfl hHeld ?yy10x10 ?ry10x10
            case yy10x10 => (intro wz hz; go_simp; first | done | with_reducible rfl)
            try simp only [Act.put, List.setIfInBounds_toArray, List.set_cons_zero, List.set_cons_succ]
            refine take_op (i := 11) (v := ?vy10x11) rfl (by kernel_rfl) (by kernel_rfl) (by kernel_rfl) (fun _ _ _ h => h) rfl hHeld ?yy10x11 ?ry10x11
            case yy10x11 => (intro wz hz; go_simp; first | done | with_reducible rfl)
            try simp only [Act.put, List.setIfInBounds_toArray, List.set_cons_zero, List.set_cons_succ]
            refine take_op (i := 12) (v := ?vy10x12) rfl (by kernel_rfl) (by kernel_rfl) (by kernel_rfl) (fun _ _ _ h => h) rfl hHeld ?yy10x12 ?ry10x12
            case yy10x12 => (intro wz hz; go_simp; first | done | with_reducible rfl)
            try simp only [Act.put, List.setIfInBounds_toArray, List.set_cons_zero, List.set_cons_succ]
            have T := ST20.out W2 H2
            rw [HA0.out, HL0.out, HG.out] at T
            try simp only [Act.put, List.setIfInBounds_toArray, List.set_cons_zero, List.set_cons_succ] at T
            exact lcongK (by kernel_rfl) T
          · refine wp_of_run (exec_alloc32 rfl) ?_
            have H2 := H.box
            refine hK.out _ _ H2.1 (fun hHeld => ?_)
            try simp only [Act.put, List.setIfInBounds_toArray, List.set_cons_zero, List.set_cons_succ]
            have T := ST11.out W.heap.size (W.alloc (.cells (rowV 32 (fun _ => .int .u8 0)) 32)) H2
            rw [HA0.out, HL0.out, HG.out] at T
            try simp only [Act.put, List.setIfInBounds_toArray, List.set_cons_zero, List.set_cons_succ] at T
            exact lcongK (by kernel_rfl) T)
        have ST01 : Hid (∀ b12 : Nat, ∀ W : World, rlS w5 W (some b12) → G 7 (l0.setIfInBounds 13 true) (a0.put (some 12) (.pointer (some ⟨b12, 0, none⟩))) W) := (show ∀ b12 : Nat, ∀ W : World, rlS w5 W (some b12) → G 7 (l0.setIfInBounds 13 true) (a0.put (some 12) (.pointer (some ⟨b12, 0, none⟩))) W from by
          intro b12 W H
          rw [HA0.out, HL0.out, HG.out]
          try simp only [Act.put, List.setIfInBounds_toArray, List.set_cons_zero, List.set_cons_succ]
          refine take_one (i := 6) rfl (by kernel_rfl) rfl (fun K hK => ?_)
          go_simp
          refine Calls.mono (CLF.out W H.1) ?_
          rintro e W2 ⟨rfl, hb⟩
          have H2 := H.step hb
          refine hK.out _ _ H2.1 (fun hHeld => ?_)
          try simp only [Act.put, List.setIfInBounds_toArray, List.set_cons_zero, List.set_cons_succ]
          have T := ST11.out b12 W2 H2
          rw [HA0.out, HL0.out, HG.out] at T
          try simp only [Act.put, List.setIfInBounds_toArray, List.set_cons_zero, List.set_cons_succ] at T
          exact lcongK (by kernel_rfl) T)
        have ST00 : Hid (∀ W : World, rlS w5 W none → G 8 l0 a0 W) := (show ∀ W : World, rlS w5 W none → G 8 l0 a0 W from by
          intro W H
          rw [HA0.out, HL0.out, HG.out]
          try simp only [Act.put, List.setIfInBounds_toArray, List.set_cons_zero, List.set_cons_succ]
          refine take_pair (i := 6) (j := 13) rfl rfl (by kernel_rfl) rfl rfl (fun K hK => ?_) (fun K hK => ?_)
          · go_simp
            refine Calls.mono (CLF.out W H.1) ?_
            rintro e W2 ⟨rfl, hb⟩
            have H2 := H.step hb
            refine hK.out _ _ H2.1 (fun hHeld => ?_)
            try simp only [Act.put, List.setIfInBounds_toArray, List.set_cons_zero, List.set_cons_succ]
            have T := ST10.out W2 H2
            rw [HA0.out, HL0.out, HG.out] at T
            try simp only [Act.put, List.setIfInBounds_toArray, List.set_cons_zero, List.set_cons_succ] at T
            exact lcongK (by kernel_rfl) T
          · refine wp_of_run (exec_alloc32 rfl) ?_
            have H2 := H.box
            refine hK.out _ _ H2.1 (fun hHeld => ?_)
            try simp only [Act.put, List.setIfInBounds_toArray, List.set_cons_zero, List.set_cons_succ]
            have T := ST01.out W.heap.size (W.alloc (.cells (rowV 32 (fun _ => .int .u8 0)) 32)) H2
            rw [HA0.out, HL0.out, HG.out] at T
            try simp only [Act.put, List.setIfInBounds_toArray, List.set_cons_zero, List.set_cons_succ] at T
            exact lcongK (by kernel_rfl) T)
        exact ST00.out W H
      · obtain rfl : q = m := by omega
        have q1 : ¬ (q : Int) < (q : Int) := by omega
        have SOK : Hid (saysB cnt q y key = true) := (show saysB cnt q y key = true from by
          have h := HSY.out
          unfold rsaysB at h
          rw [Bool.and_eq_true] at h
          exact h.2)
        have OKL : Hid (okLd cnt q y t) := (show okLd cnt q y t from by
          rcases HT.out with ⟨h0, ht⟩ | ⟨h0, ht⟩
          · exact Or.inl ⟨h0, ht⟩
          · exact Or.inr ⟨h0, ht⟩)
        have LOK : Hid (lookOk cnt q y key root ↔ krootS cnt t = root) := (show lookOk cnt q y key root ↔ krootS cnt t = root from ⟨fun h => by
          obtain ⟨_, _, s, hs, he⟩ := h
          rw [okLd_one OKL.out hs]; exact he, fun h => ⟨HM2.out.2, SOK.out, t, OKL.out, h⟩⟩)
        have HF12 : Hid (∀ wz, Below wr.heap.size wr wz → Below w.heap.size w wz ∧ wz.cell? ⟨w.heap.size + 1, 0, none⟩ = some (.int .i64 cnt) ∧ (∀ j, j < 32 → wz.cell? ⟨b9, 0 + j, none⟩ = some (arrV t j)) ∧ (∀ j, j < 32 → wz.cell? ⟨w.heap.size, 0 + j, none⟩ = some (arrV root j)) ∧ wz.cell? ⟨w.heap.size + 1, 1, none⟩ = some (.slice a q cap) ∧ anyBytes wz (.slice ta key.length tcap) key) := (show _ from fun wz hz => by
          have hz1 := HR.out.2.trans (hz.mono HR.out.2.size)
          obtain ⟨f1, f2, f3, f4, f5⟩ := FACT.out wz hz1
          have r9 := hz.row HR.out.1 HR.out.1.lt
          exact ⟨f1, f3.cell (i := 0) (by omega), fun j hj => by rw [Nat.zero_add]; exact r9.cell hj, fun j hj => by rw [Nat.zero_add]; exact f2.cell hj, f3.cell (i := 1) (by omega), f5⟩)
        clear hlt hbr
        go_upto_region 12 with fail
        clear c1
        have BD : Below wr.heap.size wr wr.drew := (Below.refl _ _).drew
        refine wp_region_noPanic ?_
        refine wp_region_held_drew (S := fun w' => Below wr.heap.size wr w') (by kernel_rfl) BD (fun hHeld => ?_)
        have HBD : Hid (Below wr.heap.size wr wr.drew) := BD
        clear BD
        generalize wr.drew = W at hHeld HBD ⊢
        refine take_op (i := 0) (v := ?vw0) rfl (by kernel_rfl) (by kernel_rfl) (by kernel_rfl) (fun _ _ _ h => h) rfl hHeld ?yw0 ?rw0
        case yw0 => (intro wz hz; go_simp; first | done | with_reducible rfl)
        try simp only [Act.put, List.setIfInBounds_toArray, List.set_cons_zero, List.set_cons_succ]
        refine take_op (i := 1) (v := ?vw1) rfl (by kernel_rfl) (by kernel_rfl) (by kernel_rfl) (fun _ _ _ h => h) rfl hHeld ?yw1 ?rw1
        case yw1 => (intro wz hz; have hcz := (HF12.out wz hz).2.1; go_simp; first | done | with_reducible rfl)
        try simp only [Act.put, List.setIfInBounds_toArray, List.set_cons_zero, List.set_cons_succ]
        refine take_load (i := 2) rfl (by kernel_rfl) (by kernel_rfl) (by kernel_rfl) 32 _ rfl b9 0 32 (arrV t) rfl _ Tryd.underlying32 rfl (by kernel_rfl) (fun _ _ _ h => h) rfl hHeld (fun wz hz => (HF12.out wz hz).2.2.1) ?_
        try simp only [Act.put, List.setIfInBounds_toArray, List.set_cons_zero, List.set_cons_succ]
        refine take_load (i := 4) rfl (by kernel_rfl) (by kernel_rfl) (by kernel_rfl) 32 _ rfl w.heap.size 0 32 (arrV root) rfl _ Tryd.underlying32 rfl (by kernel_rfl) (fun _ _ _ h => h) rfl hHeld (fun wz hz => (HF12.out wz hz).2.2.2.1) ?_
        try simp only [Act.put, List.setIfInBounds_toArray, List.set_cons_zero, List.set_cons_succ]
        refine take_one (i := 3) rfl (by kernel_rfl) rfl (fun K hK => ?_)
        have XW := rwhole_any cnt t W HM2.out.2 HX.out.2.2.1.2 HTS.out
        unfold sumV at XW
        go_simp
        refine Calls.mono XW ?_
        rintro e W2 ⟨rfl, hb2⟩
        have b2 : Below wr.heap.size wr W2 := HBD.out.trans (hb2.mono HBD.out.size)
        refine hK.out _ _ b2 (fun hHeld => ?_)
        clear hK K XW hb2
        try simp only [Act.put, List.setIfInBounds_toArray, List.set_cons_zero, List.set_cons_succ]
        obtain ⟨bq, hbq⟩ : ∃ bq, bq = !decide (krootS cnt t = root) := ⟨_, rfl⟩
        have E : ∀ wx, (binOp .neq 32 (.agg (rowV 32 (arrV (krootS cnt t)))) (.agg (rowV 32 (arrV root)))).run Tryd.prog wx = .ok (.bool bq) wx := fun wx => by
          have := run_neq_arr (P := Tryd.prog) wx 32 5 .u8 32 (fun i => (krootS cnt t).getD i 0) (fun i => root.getD i 0) Tryd.underlying32 Tryd.underlying5 (by kernel_rfl) (by kernel_rfl)
          rw [arrEq_list (krootS_sum _ _) HX.out.2.1] at this
          rw [hbq]; exact this
        have HBQ : Hid (bq = !decide (krootS cnt t = root)) := hbq
        clear hbq
        refine take_op (i := 5) (v := ?vq5) rfl (by kernel_rfl) (by kernel_rfl) (by kernel_rfl) (fun _ _ _ h => h) rfl hHeld ?yq5 ?rq5
        case yq5 => (intro wz hz; go_simp; first | done | with_reducible rfl)
        try simp only [Act.put, List.setIfInBounds_toArray, List.set_cons_zero, List.set_cons_succ]
        refine wpAnyH_done (by kernel_rfl) ?_ _
        refine NoPanic.normal ?_
        have HB2 : Hid (Below wr.heap.size wr W2) := (show _ from b2)
        clear b2 E
        cases bq with
        | true =>
          have NOK : Hid (¬ lookOk cnt q y key root) := (show ¬ lookOk cnt q y key root from fun h => by
            have h1 := LOK.out.1 h
            have h2 := HBQ.out
            rw [decide_eq_true h1] at h2
            cases h2)
          have FI : Hid (Below w.heap.size w W2) := (show _ from (HF12.out W2 HB2.out).1)
          clear hHeld
          go_wp2
          exact bodyPost_ret (results_tmp3 rfl _ _ _) rfl (by exact ⟨Or.inl ⟨NOK.out, rfl⟩, FI.out⟩)
        | false =>
          have OK : Hid (lookOk cnt q y key root) := (show lookOk cnt q y key root from LOK.out.2 (by
            have h2 := HBQ.out
            exact of_decide_eq_true (by simpa using h2.symm)))
          obtain ⟨f1, _, _, _, d1, fk⟩ := HF12.out W2 HB2.out
          have FI : Hid (Below w.heap.size w W2) := (show _ from f1)
          have v2 : ∀ n, (convert 23 9 (.slice ta key.length tcap)).run Tryd.prog (W2.drewN n) = .ok (.string (strOf key)) (W2.drewN n) := fun n => convK (W2.drewN n) _ _ (fk.below ((Below.refl W2.heap.size W2).drewN n) (Nat.le_refl _))
          clear hHeld f1
          by_cases hq : q = 1
          · subst hq
            obtain ⟨g, o, cap', e, hg, hcell⟩ := HPW.out.at (by omega)
            injection e with e1 e2 e3
            subst e1
            subst e3
            obtain ⟨ka, kcap, va, vcap, pa, pcap, hin, H⟩ := hcell 0 (by omega)
            obtain ⟨s0, s1, s2, s3, s4, s5, _⟩ := H W2 FI.out
            simp only [Nat.zero_mul, Nat.add_zero] at s0 s1 s2 s3
            have v1 : ∀ n, (convert 23 9 (.slice ka (y 0).pr.1.length kcap)).run Tryd.prog (W2.drewN n) = .ok (.string (strOf (y 0).pr.1)) (W2.drewN n) := fun n => convK (W2.drewN n) _ _ (s4.below ((Below.refl W2.heap.size W2).drewN n) (Nat.le_refl _))
            have E1 : ((strOf (y 0).pr.1).toList == (strOf key).toList) = decide ((y 0).pr.1 = key) := by
              rw [str_beq]; exact decide_eq_decide.mpr (strOf_eq s4 fk)
            have HV : Hid (∀ n, anyBytes (W2.drewN n) (.slice va (y 0).pr.2.length vcap) (y 0).pr.2) := (show _ from fun n => s5.below ((Below.refl W2.heap.size W2).drewN n) (Nat.le_refl _))
            clear H hcell hg s0 s3 s4 s5 fk hin
            generalize hA : strOf (y 0).pr.1 = A at v1 E1
            generalize hB : strOf key = B at v2 E1
            clear hA hB
            by_cases hk : (y 0).pr.1 = key
            · rw [decide_eq_true hk] at E1
              have hG : ∀ ty, (binOp .eql ty (.string A) (.string B)) = pure (.bool true) := fun ty => by simp [binOp, Op.stringOp, E1]
              have HK0 : Hid ((y 0).pr.1 = key) := hk
              clear hk
              go_upto_region 14 with fail
              go_quiet (fail)
              obtain ⟨WN, hWN⟩ : ∃ WN, WN = W2.drewN nq := ⟨_, rfl⟩
              have b2N : Below W2.heap.size W2 WN := by rw [hWN]; exact (Below.refl W2.heap.size W2).drewN nq
              have bN : Below w.heap.size w WN := by rw [hWN]; exact FI.out.drewN _
              have hvN : anyBytes WN (.slice va (y 0).pr.2.length vcap) (y 0).pr.2 := by rw [hWN]; exact HV.out nq
              have P0 : pq WN WN none none := ⟨Below.refl _ _, (fun u l h => by cases h), (fun u l h => by cases h), fun a la b lb h => by cases h⟩
              have P1 := P0.make
              have b3 : Below WN.heap.size WN (WN.alloc (.cells #[] 5)) := (Below.refl _ _).alloc (Nat.le_refl _) _
              obtain ⟨u, W4, hcr, P2⟩ := P1.fill (hvN.below b3 (Nat.le_refl _)) (by have := (HX.out.1 0 (by omega)).1; omega)
              obtain ⟨W3, hW3⟩ : ∃ W3, W3 = WN.alloc (.cells #[] 5) := ⟨_, rfl⟩
              rw [← hW3] at hcr b3
              have b23 : Below W2.heap.size W2 W3 := b2N.trans (b3.mono b2N.size)
              have d1' : W3.cell? ⟨w.heap.size + 1, 1, none⟩ = some (.slice (some ⟨g, o, none⟩) 1 cap) := (b23.cell (p := ⟨w.heap.size + 1, 1, none⟩) (block_lt_of_cell d1)).trans d1
              have s2' : W3.cell? ⟨g, o + 2, none⟩ = some (.slice va (y 0).pr.2.length vcap) := (b23.cell (p := ⟨g, o + 2, none⟩) (block_lt_of_cell s2)).trans s2
              have FIN : Hid (newBytes W4 WN.heap.size u (y 0).pr.2 ∧ Below w.heap.size w W4) := (show _ ∧ _ from ⟨P2.2.1 _ _ rfl, bN.trans (P2.1.mono bN.size)⟩)
              rw [← hWN]
              clear hWN b2N bN hvN P0 P1 P2 b3 b23 d1 s1 s2 v1 v2 E1
              go_wp2_with (first | (refine wpList_runC rfl (exec_bslice0' 23 0 rfl (build_b0 WN)) ?_; rw [← hW3]; clear hW3) | (at_builtin; refine wpList_append_run rfl (.tmp 78) (.tmp 84) _ rfl rfl rfl hcr ?_))
              exact bodyPost_ret (results_tmp3 rfl _ _ _) rfl (by exact ⟨Or.inr ⟨OK.out, Or.inl ⟨0, by omega, HK0.out, fun j hj => by omega, _, Or.inl FIN.out.1.is, rfl⟩⟩, FIN.out.2⟩)
            · rw [decide_eq_false hk] at E1
              have E2 : ¬ A.toList = B.toList := fun e => by rw [beq_eq_false_iff_ne] at E1; exact E1 e
              have hG : ∀ ty, (binOp .eql ty (.string A) (.string B)) = pure (.bool false) := fun ty => by simp [binOp, Op.stringOp, E1]
              have NK : Hid (∀ j, j < 1 → ¬ (y j).pr.1 = key) := (show ∀ j, j < 1 → ¬ (y j).pr.1 = key from fun j hj => by rw [show j = 0 by omega]; exact hk)
              clear hk s2
              go_upto_region 14 with fail
              go_quiet (fail)
              go_wp2
              exact bodyPost_ret (results_tmp3 rfl _ _ _) rfl (by exact ⟨Or.inr ⟨OK.out, Or.inr ⟨NK.out, rfl⟩⟩, FI.out.drewN _⟩)
          · have hqi : ¬ (q : Int) = 1 := by omega
            have hqb : ((q : Int) == 1) = false := by simp; omega
            have NK : Hid (∀ j, j < q → ¬ (y j).pr.1 = key) := (show ∀ j, j < q → ¬ (y j).pr.1 = key from fun j hj e => by
              have h := SOK.out
              unfold saysB at h
              rw [if_neg (by omega), if_neg hq] at h
              split at h
              · have h := of_decide_eq_true h
                rcases (show j = 0 ∨ j = 1 by omega) with h0 | h0
                · rw [h0] at e; rw [e, cmpI_self] at h; omega
                · rw [h0] at e; rw [e, cmpI_self] at h; omega
              · cases h)
            clear v2 fk hq
            go_upto_region 14 with fail
            go_quiet (fail)
            go_wp2
            exact bodyPost_ret (results_tmp3 rfl _ _ _) rfl (by exact ⟨Or.inr ⟨OK.out, Or.inr ⟨NK.out, rfl⟩⟩, FI.out.drewN _⟩)
  · have NOK : Hid (¬ lookOk cnt m y key root) := (show ¬ lookOk cnt m y key root from fun h => hsy (by
      unfold rsaysB; rw [Bool.and_eq_true]; exact ⟨decide_eq_true h.1, h.2.1⟩))
    have hsf : rsaysB cnt m y key = false := by simpa using hsy
    have BW : Hid (Below w.heap.size w w2) := (show _ from (FACT.out w2 HW2.out).1)
    rw [hsf]
    clear hsf hsy b2
    go_wp2
    exact bodyPost_ret (results_tmp3 rfl _ _ _) rfl (by exact ⟨Or.inl ⟨NOK.out, rfl⟩, BW.out⟩)
end Go.Proofs.YtgchnobifidjcaaDoor

/- Two rows of sums: the document's Same. -/
namespace Go.Proofs.YtgchnobifidjcaaDoor
set_option linter.unusedSimpArgs false
set_option linter.unusedVariables false
open Go.RowKit Go.Deep

set_option maxHeartbeats 2000000 in
set_option maxRecDepth 100000 in
theorem rsame_any (A B : List (List Int)) (v u : Value) (w : World) (hA : sumsAt w v A) (hB : sumsAt w u B) (hm : A.length ≤ 100000) :
    Calls Tryd.prog 44 #[v, u] w fun e w' => e = .returned (.bool (decide (A = B))) ∧ Below w.heap.size w w' := by
  obtain ⟨sA, a, ac, rfl, ha, ham, cA⟩ := hA
  obtain ⟨sB, b, bc, rfl, hb, hbm, cB⟩ := hB
  have q0 : (A.length : Int) ≤ 100000 := by omega
  by_cases hl : A.length = B.length
  · have CA : Hid _ := cA
    have CB : Hid _ := cB
    have SA : Hid _ := sA
    have SB : Hid _ := sB
    obtain ⟨n, hn⟩ : ∃ n, n = A.length := ⟨_, rfl⟩
    have HN : Hid (n = A.length ∧ A.length = B.length) := (show n = A.length ∧ A.length = B.length from ⟨hn, hl⟩)
    rw [← hl, ← hn]
    rw [← hn] at q0
    clear cA cB sA sB ham hbm ha hb hl hn
    go_enter Tryd.func44, Tryd.ntmps44
    go_wp2
    go_loopw [5] (fun i wr => ∃ k : Nat, k ≤ n ∧ i = .int .i64 k ∧ (∀ j, j < k → A[j]? = B[j]?) ∧ Below w.heap.size w wr) (fun i _ => n - (intOf i).toNat)
    case atStart => exact ⟨0, by omega, rfl, fun j hj => by omega, Below.refl _ _⟩
    case round =>
      obtain ⟨k, hk, rfl, hall, hbw⟩ := hrel
      have HL : Hid _ := hall
      have HW : Hid _ := hbw
      clear hall hbw
      have p0 : (0 : Int) ≤ (k : Int) := by omega
      by_cases hlt : k < n
      · have p1 : (k : Int) < (n : Int) := by omega
        have hkA : k < A.length := by have := HN.out; omega
        have hkB : k < B.length := by have := HN.out; omega
        obtain ⟨g, o, rfl, hg, hc⟩ := CA.out (by omega)
        obtain ⟨g', o', rfl, hg', hc'⟩ := CB.out (by omega)
        obtain ⟨x, hx⟩ : ∃ x, x = A[k] := ⟨_, rfl⟩
        obtain ⟨y, hy⟩ : ∃ y, y = B[k] := ⟨_, rfl⟩
        have hxs : isSum x := by rw [hx]; exact SA.out _ (List.getElem_mem _)
        have hys : isSum y := by rw [hy]; exact SB.out _ (List.getElem_mem _)
        have lx : ∀ wz, Below w.heap.size w wz → ∀ i, i < 32 → wz.cell? ⟨g, o + k * 32 + i, none⟩ = some (arrV x i) := fun wz hz i hi => by rw [hx]; exact (hz.cell (p := ⟨g, o + k * 32 + i, none⟩) hg).trans (hc k hkA i hi)
        have ly : ∀ wz, Below w.heap.size w wz → ∀ i, i < 32 → wz.cell? ⟨g', o' + k * 32 + i, none⟩ = some (arrV y i) := fun wz hz i hi => by rw [hy]; exact (hz.cell (p := ⟨g', o' + k * 32 + i, none⟩) hg').trans (hc' k hkB i hi)
        have LX : Hid _ := lx
        have LY : Hid _ := ly
        obtain ⟨bq, hbq⟩ : ∃ bq, bq = !decide (x = y) := ⟨_, rfl⟩
        have E : ∀ wx, (binOp .neq 32 (.agg (rowV 32 (arrV x))) (.agg (rowV 32 (arrV y)))).run Tryd.prog wx = .ok (.bool bq) wx := fun wx => by
          have := run_neq_arr (P := Tryd.prog) wx 32 5 .u8 32 (fun i => x.getD i 0) (fun i => y.getD i 0) Tryd.underlying32 Tryd.underlying5 (by kernel_rfl) (by kernel_rfl)
          rw [arrEq_list hxs hys] at this
          rw [hbq]; exact this
        have HX : Hid (A[k]? = some x ∧ B[k]? = some y) := (show A[k]? = some x ∧ B[k]? = some y from ⟨by rw [hx]; exact List.getElem?_eq_getElem hkA, by rw [hy]; exact List.getElem?_eq_getElem hkB⟩)
        have HBQ : Hid _ := hbq
        clear hc hc' lx ly hx hy hbq CA CB
        go_upto_region 6 with fail
        go_cut [5, 25] from 11 to 25 (fun i c wx => i = .int .i64 (k : Int) ∧ c = .bool bq ∧ Below w.heap.size w wx)
        case first =>
          refine wp_region_noPanic ?_
          refine wp_region_held_drew (S := fun w' => Below w.heap.size w w') (by kernel_rfl) (HW.out.drew) (fun hHeld => ?_)
          refine take_op (i := 0) (v := ?va0) rfl (by kernel_rfl) (by kernel_rfl) (by kernel_rfl) (fun _ _ _ h => h) rfl hHeld ?ya0 ?ra0
          case ya0 => (intro wz hz; go_simp; first | done | with_reducible rfl)
          try simp only [Act.put, List.setIfInBounds_toArray, List.set_cons_zero, List.set_cons_succ]
          refine take_op (i := 1) (v := ?va1) rfl (by kernel_rfl) (by kernel_rfl) (by kernel_rfl) (fun _ _ _ h => h) rfl hHeld ?ya1 ?ra1
          case ya1 => (intro wz hz; go_simp; first | done | with_reducible rfl)
          try simp only [Act.put, List.setIfInBounds_toArray, List.set_cons_zero, List.set_cons_succ]
          refine take_op (i := 2) (v := ?va2) rfl (by kernel_rfl) (by kernel_rfl) (by kernel_rfl) (fun _ _ _ h => h) rfl hHeld ?ya2 ?ra2
          case ya2 => (intro wz hz; go_simp; first | done | with_reducible rfl)
          try simp only [Act.put, List.setIfInBounds_toArray, List.set_cons_zero, List.set_cons_succ]
          refine take_load (i := 3) rfl (by kernel_rfl) (by kernel_rfl) (by kernel_rfl) 32 _ rfl g (o + k * 32) 32 (arrV x) rfl _ Tryd.underlying32 rfl (by kernel_rfl) (fun _ _ _ h => h) rfl hHeld (fun wz hz => LX.out wz hz) ?_
          try simp only [Act.put, List.setIfInBounds_toArray, List.set_cons_zero, List.set_cons_succ]
          refine take_op (i := 4) (v := ?va4) rfl (by kernel_rfl) (by kernel_rfl) (by kernel_rfl) (fun _ _ _ h => h) rfl hHeld ?ya4 ?ra4
          case ya4 => (intro wz hz; go_simp; first | done | with_reducible rfl)
          try simp only [Act.put, List.setIfInBounds_toArray, List.set_cons_zero, List.set_cons_succ]
          refine take_op (i := 5) (v := ?va5) rfl (by kernel_rfl) (by kernel_rfl) (by kernel_rfl) (fun _ _ _ h => h) rfl hHeld ?ya5 ?ra5
          case ya5 => (intro wz hz; go_simp; first | done | with_reducible rfl)
          try simp only [Act.put, List.setIfInBounds_toArray, List.set_cons_zero, List.set_cons_succ]
          refine take_op (i := 6) (v := ?va6) rfl (by kernel_rfl) (by kernel_rfl) (by kernel_rfl) (fun _ _ _ h => h) rfl hHeld ?ya6 ?ra6
          case ya6 => (intro wz hz; go_simp; first | done | with_reducible rfl)
          try simp only [Act.put, List.setIfInBounds_toArray, List.set_cons_zero, List.set_cons_succ]
          refine take_load (i := 7) rfl (by kernel_rfl) (by kernel_rfl) (by kernel_rfl) 32 _ rfl g' (o' + k * 32) 32 (arrV y) rfl _ Tryd.underlying32 rfl (by kernel_rfl) (fun _ _ _ h => h) rfl hHeld (fun wz hz => LY.out wz hz) ?_
          try simp only [Act.put, List.setIfInBounds_toArray, List.set_cons_zero, List.set_cons_succ]
          refine take_op (i := 8) (v := ?va8) rfl (by kernel_rfl) (by kernel_rfl) (by kernel_rfl) (fun _ _ _ h => h) rfl hHeld ?ya8 ?ra8
          case ya8 => (intro wz hz; go_simp; first | done | with_reducible rfl)
          try simp only [Act.put, List.setIfInBounds_toArray, List.set_cons_zero, List.set_cons_succ]
          refine wpAnyH_done (by kernel_rfl) ?_ _
          refine NoPanic.normal ?_
          have HB2 : Hid _ := hHeld
          clear hHeld
          go_wp2_with fail
          go_meet
          case rel => exact ⟨rfl, rfl, HB2.out⟩
        case rest =>
          obtain ⟨rfl, rfl, hb2⟩ := hcut
          have HB2 : Hid _ := hb2
          clear hb2 E LX LY
          cases bq with
          | false =>
            have hxy : x = y := by
              have := HBQ.out
              simpa using this
            have HE : Hid (A[k]? = B[k]?) := (show A[k]? = B[k]? from by rw [HX.out.1, HX.out.2, hxy])
            clear hxy
            go_wp2
            go_light
            refine ⟨⟨k + 1, by omega, by go_num, fun j hj => ?_, HB2.out⟩, by simp [intOf]; omega⟩
            by_cases e : j < k
            · exact HL.out j e
            · obtain rfl : j = k := by omega
              exact HE.out
          | true =>
            have hne : Hid (decide (A = B) = false) := (show decide (A = B) = false from decide_eq_false fun e => by
              have h1 := HX.out
              rw [e] at h1
              have h2 : x = y := Option.some.inj (h1.1.symm.trans h1.2)
              have h3 := HBQ.out
              rw [h2] at h3
              simp at h3)
            go_wp2
            go_ret
            exact ⟨by rw [hne.out]; rfl, HB2.out⟩
      · obtain rfl : k = n := by omega
        have heq : Hid (decide (A = B) = true) := (show decide (A = B) = true from decide_eq_true (List.ext_getElem? fun j => by
          have := HN.out
          by_cases e : j < k
          · exact HL.out j e
          · rw [List.getElem?_eq_none (by omega), List.getElem?_eq_none (by omega)]))
        go_wp2
        go_ret
        exact ⟨by rw [heq.out]; rfl, HW.out⟩
  · have q1 : ¬ (A.length : Int) = (B.length : Int) := by omega
    have hne : Hid (decide (A = B) = false) := (show decide (A = B) = false from decide_eq_false fun e => hl (by rw [e]))
    clear cA cB sA sB hl
    go_enter Tryd.func44, Tryd.ntmps44
    go_wp2
    go_ret
    exact ⟨by rw [hne.out]; rfl, Below.refl _ _⟩
end Go.Proofs.YtgchnobifidjcaaDoor

/- The document's Same of what is shown. -/
namespace Go.Proofs.YtgchnobifidjcaaDoor
set_option linter.unusedSimpArgs false
set_option linter.unusedVariables false
open Go.RowKit Go.Deep

/-- what is shown is the same, through and through. -/
def sameS (c d : Int) (m n : Nat) (x y : Nat → Sp) : Prop := c = d ∧ m = n ∧ ∀ i, i < m → x i = y i
def sameP (c d : Int) (m n : Nat) (x y : Nat → Sp) (e : Ending) : Prop := ∃ b, e = .returned (.bool b) ∧ (b = true ↔ sameS c d m n x y)
/-- a spot of a row that stays. -/
def spotFact (w2 : World) (a : Option Addr) (m : Nat) (x : Nat → Sp) (k : Nat) (g o : Nat) (gx : Nat → Value) (ka va pa : Option Addr) (kcap vcap pcap : Nat) : Prop :=
  (a = some ⟨g, o, none⟩ ∧ gx = spG (x k).at_ (.slice ka (x k).pr.1.length kcap) (.slice va (x k).pr.2.length vcap) (.slice pa (x k).path.length pcap)) ∧ (∀ i, i < 4 → (gx i).oneCell' = true) ∧
  ∀ wz, Below w2.heap.size w2 wz → (∀ i, i < 4 → wz.cell? ⟨g, o + k * 4 + i, none⟩ = some (gx i)) ∧ anyBytes wz (.slice ka (x k).pr.1.length kcap) (x k).pr.1 ∧ anyBytes wz (.slice va (x k).pr.2.length vcap) (x k).pr.2 ∧ sumsAt wz (.slice pa (x k).path.length pcap) (x k).path
theorem spot_fact {w : World} {a : Option Addr} {m cap : Nat} {x : Nat → Sp} (h : spotsAt w (.slice a m cap) m x) {k : Nat} (hk : k < m) : ∃ g o gx ka va pa kcap vcap pcap, spotFact w a m x k g o gx ka va pa kcap vcap pcap := by
  obtain ⟨g, o, cap', e, hg, hcell⟩ := h.at (by omega)
  injection e with e1 e2 e3
  subst e1
  subst e3
  obtain ⟨ka, kcap, va, vcap, pa, pcap, _, H⟩ := hcell k hk
  refine ⟨g, o, _, ka, va, pa, kcap, vcap, pcap, ⟨rfl, rfl⟩, spG_one _ _ _ _ _ _ _ _ _ _, fun wz hz => ?_⟩
  obtain ⟨q0, q1, q2, q3, q4, q5, q6⟩ := H wz hz
  refine ⟨fun i hi => ?_, q4, q5, q6⟩
  have : i = 0 ∨ i = 1 ∨ i = 2 ∨ i = 3 := by omega
  rcases this with rfl | rfl | rfl | rfl
  · exact q0
  · exact q1
  · exact q2
  · exact q3
set_option maxHeartbeats 4000000 in
set_option maxRecDepth 100000 in
theorem rsames_any (c d : Int) (m n : Nat) (sv tv : Value) (x y : Nat → Sp) (w : World) (hp : spotsAt w sv m x) (hq : spotsAt w tv n y) (hlp : ∀ i, i < m → (x i).path.length ≤ 100000) :
    Calls Tryd.prog 17 #[.agg #[.int .i64 c, sv], .agg #[.int .i64 d, tv]] w fun e w' => sameP c d m n x y e ∧ Below w.heap.size w w' := by
  obtain ⟨a, cap, hv, hmc, hcm, _⟩ := (id hp : spotsAt w sv m x)
  obtain ⟨a', cap', hv', hmc', hcm', _⟩ := (id hq : spotsAt w tv n y)
  have hmm : (m : Int) ≤ 9223372036854775807 := by unfold maxLen at hcm; omega
  subst hv
  subst hv'
  obtain ⟨w1, hw1⟩ : ∃ w1, w1 = w.alloc (.cells #[.int .i64 c, .slice a m cap] 29) := ⟨_, rfl⟩
  obtain ⟨w2, hw2⟩ : ∃ w2, w2 = w1.alloc (.cells #[.int .i64 d, .slice a' n cap'] 29) := ⟨_, rfl⟩
  have b1 : Below w.heap.size w w1 := by rw [hw1]; exact (Below.refl _ _).alloc (Nat.le_refl _) _
  have b2 : Below w1.heap.size w1 w2 := by rw [hw2]; exact (Below.refl _ _).alloc (Nat.le_refl _) _
  have b12 : Below w.heap.size w w2 := b1.trans (b2.mono b1.size)
  have hz1 : w1.heap.size = w.heap.size + 1 := by rw [hw1]; simp
  have hb0 : w1.heap[w.heap.size]? = some (.cells #[.int .i64 c, .slice a m cap] 29) := by rw [hw1, blk_alloc_new]
  have hb1 : w2.heap[w1.heap.size]? = some (.cells #[.int .i64 d, .slice a' n cap'] 29) := by rw [hw2, blk_alloc_new]
  have k0 : w1.cell? ⟨w.heap.size, 0, none⟩ = some (.int .i64 c) := by rw [cell_of_row _ _ _ _ _ _ hb0]; rfl
  have k1 : w1.cell? ⟨w.heap.size, 1, none⟩ = some (.slice a m cap) := by rw [cell_of_row _ _ _ _ _ _ hb0]; rfl
  have c0 : w2.cell? ⟨w.heap.size, 0, none⟩ = some (.int .i64 c) := (b2.cell (p := ⟨w.heap.size, 0, none⟩) (by show w.heap.size < _; omega)).trans k0
  have c1 : w2.cell? ⟨w.heap.size, 1, none⟩ = some (.slice a m cap) := (b2.cell (p := ⟨w.heap.size, 1, none⟩) (by show w.heap.size < _; omega)).trans k1
  have d0 : w2.cell? ⟨w1.heap.size, 0, none⟩ = some (.int .i64 d) := by rw [cell_of_row _ _ _ _ _ _ hb1]; rfl
  have d1 : w2.cell? ⟨w1.heap.size, 1, none⟩ = some (.slice a' n cap') := by rw [cell_of_row _ _ _ _ _ _ hb1]; rfl
  have C1 : Hid (∀ wz, Below w2.heap.size w2 wz → wz.cell? ⟨w.heap.size, 1, none⟩ = some (.slice a m cap) ∧ wz.cell? ⟨w1.heap.size, 1, none⟩ = some (.slice a' n cap')) := (show _ from fun wz hz => ⟨(hz.cell (p := ⟨w.heap.size, 1, none⟩) (block_lt_of_cell c1)).trans c1, (hz.cell (p := ⟨w1.heap.size, 1, none⟩) (block_lt_of_cell d1)).trans d1⟩)
  have C0 : Hid (∀ wz, Below w2.heap.size w2 wz → Below w.heap.size w wz) := (show _ from fun wz hz => b12.trans (hz.mono b12.size))
  have HP : Hid (spotsAt w2 (.slice a m cap) m x ∧ spotsAt w2 (.slice a' n cap') n y) := (show _ ∧ _ from ⟨hp.below b12 (Nat.le_refl _), hq.below b12 (Nat.le_refl _)⟩)
  have HLP : Hid (∀ i, i < m → (x i).path.length ≤ 100000) := (show _ from hlp)
  have hm0 : (0 : Int) ≤ (m : Int) := by omega
  have B12 : Hid (Below w.heap.size w w2) := (show Below w.heap.size w w2 from b12)
  obtain ⟨bs, hbs⟩ : ∃ bs, bs = w.heap.size := ⟨_, rfl⟩
  obtain ⟨bt, hbt⟩ : ∃ bt, bt = w1.heap.size := ⟨_, rfl⟩
  have hbt' : bt = w.heap.size + 1 := by rw [hbt, hz1]
  rw [← hbs] at c0 c1 
  rw [← hbt] at d0 d1
  rw [← hbs, ← hbt] at C1
  clear hp hq hmc hcm hmc' hcm' b1 b2 b12 hb0 hb1 k0 k1 hlp
  go_enter Tryd.func17, Tryd.ntmps17
  go_upto_region 1 with fail
  rw [← hw1, ← hw2]
  try rw [← hz1]
  try rw [← hbt]
  try rw [← hbs]
  clear hw1 hw2 hbs hbt hbt' hz1
  by_cases hcd : c = d
  · by_cases hmn : m = n
    · obtain rfl := hcd
      have EQ : Hid (m = n) := hmn
      have hmn' : (m : Int) = (n : Int) := by omega
      clear hmn
      go_wp2
      go_loopw [5] (fun i wr => ∃ k : Nat, k ≤ m ∧ i = .int .i64 (k : Int) ∧ (∀ j, j < k → x j = y j) ∧ Below w2.heap.size w2 wr) (fun i _ => m - (intOf i).toNat)
      case atStart => exact ⟨0, by omega, rfl, fun j hj => by omega, Below.refl _ _⟩
      case round =>
        obtain ⟨k, hkm, rfl, hall, hbr⟩ := hrel
        have p0 : (0 : Int) ≤ (k : Int) := by omega
        have HAL : Hid (∀ j, j < k → x j = y j) := (show _ from hall)
        have HBR : Hid (Below w2.heap.size w2 wr) := (show Below w2.heap.size w2 wr from hbr)
        have c1r := (C1.out wr hbr).1
        clear hall hmn'
        by_cases hlt : k < m
        · have p1 : (k : Int) < (m : Int) := by omega
          have p1' : (k : Int) < (n : Int) := by have := EQ.out; omega
          obtain ⟨g, o, gx, ka, va, pa, kcap, vcap, pcap, F1⟩ := spot_fact HP.out.1 hlt
          obtain ⟨g', o', gy, kb, vb, pb, kbcap, vbcap, pbcap, F2⟩ := spot_fact HP.out.2 (show k < n by have := EQ.out; omega)
          obtain ⟨⟨rfl, hgx⟩, one1, F1⟩ := F1
          obtain ⟨⟨rfl, hgy⟩, one2, F2⟩ := F2
          have ONE : Hid ((∀ i, i < 4 → (gx i).oneCell' = true) ∧ (∀ i, i < 4 → (gy i).oneCell' = true)) := (show _ ∧ _ from ⟨one1, one2⟩)
          have GX : Hid (gx = _) := hgx
          have GY : Hid (gy = _) := hgy
          have FA : Hid _ := F1
          have FB : Hid _ := F2
          clear one1 one2 hgx hgy F1 F2 c0 c1 d0 d1
          go_upto_region 6 with fail
          clear c1r hbr
          go_cut [5, 6, 7] from 29 to 38 (fun i p6 p7 wx => i = .int .i64 (k : Int) ∧ ∃ b6 b7, p6 = .pointer (some ⟨b6, 0, none⟩) ∧ p7 = .pointer (some ⟨b7, 0, none⟩) ∧ wx.rowIs b6 41 4 gx ∧ wx.rowIs b7 41 4 gy ∧ Below w2.heap.size w2 wx)
          case first =>
            have BD : Hid (Below w2.heap.size w2 wr.drew) := (show Below w2.heap.size w2 wr.drew from HBR.out.trans ((Below.refl wr.heap.size wr).drew.mono HBR.out.size))
            refine wp_region_noPanic ?_
            refine wp_region_held_drew (S := fun w' => Below w2.heap.size w2 w') (by kernel_rfl) BD.out (fun hHeld => ?_)
            generalize wr.drew = wd at BD hHeld ⊢
            refine take_op (i := 0) (v := ?va0) rfl (by kernel_rfl) (by kernel_rfl) (by kernel_rfl) (fun _ _ _ h => h) rfl hHeld ?ya0 ?ra0
            case ya0 => (intro wz hz; go_simp; first | done | with_reducible rfl)
            try simp only [Act.put, List.setIfInBounds_toArray, List.set_cons_zero, List.set_cons_succ]
            refine take_op (i := 1) (v := ?va1) rfl (by kernel_rfl) (by kernel_rfl) (by kernel_rfl) (fun _ _ _ h => h) rfl hHeld ?ya1 ?ra1
            case ya1 => (intro wz hz; have hcz := (C1.out wz hz).1; go_simp; first | done | with_reducible rfl)
            try simp only [Act.put, List.setIfInBounds_toArray, List.set_cons_zero, List.set_cons_succ]
            refine take_op (i := 2) (v := ?va2) rfl (by kernel_rfl) (by kernel_rfl) (by kernel_rfl) (fun _ _ _ h => h) rfl hHeld ?ya2 ?ra2
            case ya2 => (intro wz hz; go_simp; first | done | with_reducible rfl)
            try simp only [Act.put, List.setIfInBounds_toArray, List.set_cons_zero, List.set_cons_succ]
            refine take_op (i := 3) (v := ?va3) rfl (by kernel_rfl) (by kernel_rfl) (by kernel_rfl) (fun _ _ _ h => h) rfl hHeld ?ya3 ?ra3
            case ya3 => (intro wz hz; go_simp; first | done | with_reducible rfl)
            try simp only [Act.put, List.setIfInBounds_toArray, List.set_cons_zero, List.set_cons_succ]
            refine take_load (i := 4) rfl (by kernel_rfl) (by kernel_rfl) (by kernel_rfl) 41 _ rfl g (o + k * 4) 4 gx rfl _ Tryd.underlying41 rfl (by kernel_rfl) (fun _ _ _ h => h) rfl hHeld (fun wz hz => (FA.out wz hz).1) ?_
            try simp only [Act.put, List.setIfInBounds_toArray, List.set_cons_zero, List.set_cons_succ]
            refine take_op (i := 5) (v := ?va5) rfl (by kernel_rfl) (by kernel_rfl) (by kernel_rfl) (fun _ _ _ h => h) rfl hHeld ?ya5 ?ra5
            case ya5 => (intro wz hz; go_simp; first | done | with_reducible rfl)
            try simp only [Act.put, List.setIfInBounds_toArray, List.set_cons_zero, List.set_cons_succ]
            refine take_op (i := 6) (v := ?va6) rfl (by kernel_rfl) (by kernel_rfl) (by kernel_rfl) (fun _ _ _ h => h) rfl hHeld ?ya6 ?ra6
            case ya6 => (intro wz hz; have hcz := (C1.out wz hz).2; go_simp; first | done | with_reducible rfl)
            try simp only [Act.put, List.setIfInBounds_toArray, List.set_cons_zero, List.set_cons_succ]
            refine take_op (i := 7) (v := ?va7) rfl (by kernel_rfl) (by kernel_rfl) (by kernel_rfl) (fun _ _ _ h => h) rfl hHeld ?ya7 ?ra7
            case ya7 => (intro wz hz; go_simp; first | done | with_reducible rfl)
            try simp only [Act.put, List.setIfInBounds_toArray, List.set_cons_zero, List.set_cons_succ]
            refine take_op (i := 8) (v := ?va8) rfl (by kernel_rfl) (by kernel_rfl) (by kernel_rfl) (fun _ _ _ h => h) rfl hHeld ?ya8 ?ra8
            case ya8 => (intro wz hz; go_simp; first | done | with_reducible rfl)
            try simp only [Act.put, List.setIfInBounds_toArray, List.set_cons_zero, List.set_cons_succ]
            refine take_load (i := 9) rfl (by kernel_rfl) (by kernel_rfl) (by kernel_rfl) 41 _ rfl g' (o' + k * 4) 4 gy rfl _ Tryd.underlying41 rfl (by kernel_rfl) (fun _ _ _ h => h) rfl hHeld (fun wz hz => (FB.out wz hz).1) ?_
            try simp only [Act.put, List.setIfInBounds_toArray, List.set_cons_zero, List.set_cons_succ]
            refine take_pair (i := 10) (j := 11) rfl rfl (by kernel_rfl) rfl rfl (fun K hK => ?_) (fun K hK => ?_)
            · refine wp_of_run (exec_allocSp rfl) ?_
              refine hK.out _ _ (BD.out.alloc BD.out.size _) (fun hHeld => ?_)
              clear hK K
              try simp only [Act.put, List.setIfInBounds_toArray, List.set_cons_zero, List.set_cons_succ]
              refine take_one (i := 11) rfl (by kernel_rfl) rfl (fun K hK => ?_)
              refine wp_of_run (exec_allocSp rfl) ?_
              obtain ⟨z1, z2, bz⟩ := two_sp wd
              rw [World.size_alloc]
              generalize (wd.alloc (.cells (rowV 4 spZ) 41)).alloc (.cells (rowV 4 spZ) 41) = W at z1 z2 bz ⊢
              have BW : Hid (Below w2.heap.size w2 W) := (show Below w2.heap.size w2 W from BD.out.trans (bz.mono BD.out.size))
              refine hK.out _ _ BW.out (fun hHeld => ?_)
              clear hK K
              try simp only [Act.put, List.setIfInBounds_toArray, List.set_cons_zero, List.set_cons_succ]
              obtain ⟨V1, s1, q1, y1, c1'⟩ := sp_store W wd.heap.size gx z1 ONE.out.1
              obtain ⟨V2, s2, q2, y2, c2'⟩ := sp_store V1 (wd.heap.size + 1) gy (c1'.row z2 z2.lt (by omega)) ONE.out.2
              have q1' := c2'.row q1 q1.lt (by omega)
              have hwd := BD.out.size
              have bV1 : Below w2.heap.size w2 V1 := BW.out.trans ((c1'.mono BW.out.size).below (by omega))
              have bV2 : Below w2.heap.size w2 V2 := bV1.trans ((c2'.mono bV1.size).below (by omega))
              refine take_one (i := 12) rfl (by kernel_rfl) rfl (fun K hK => ?_)
              unfold Oper.wp execOp
              simp only [Instr.storeAt, Instr.sureAddr, Sem.run_bind, Sem.run_pure, Result.andThen_ok]
              simp [Act.eval, s1, Oper.upon]
              refine hK.out _ _ bV1 (fun hHeld => ?_)
              clear hK K
              try simp only [Act.put, List.setIfInBounds_toArray, List.set_cons_zero, List.set_cons_succ]
              refine take_one (i := 13) rfl (by kernel_rfl) rfl (fun K hK => ?_)
              unfold Oper.wp execOp
              simp only [Instr.storeAt, Instr.sureAddr, Sem.run_bind, Sem.run_pure, Result.andThen_ok]
              simp [Act.eval, s2, Oper.upon]
              refine hK.out _ _ bV2 (fun hHeld => ?_)
              clear hK K
              try simp only [Act.put, List.setIfInBounds_toArray, List.set_cons_zero, List.set_cons_succ]
              refine wpAnyH_done (by kernel_rfl) ?_ _
              refine NoPanic.normal ?_
              have FIN : Hid (V2.rowIs wd.heap.size 41 4 gx ∧ V2.rowIs (wd.heap.size + 1) 41 4 gy ∧ Below w2.heap.size w2 V2) := (show _ ∧ _ ∧ _ from ⟨q1', q2, bV2⟩)
              clear s1 s2 q1 q2 y1 y2 c1' c2' q1' bV1 bV2 z1 z2 bz hHeld hwd
              go_wp2_with fail
              go_meet
              case rel => exact ⟨rfl, _, _, rfl, rfl, FIN.out.1, FIN.out.2.1, FIN.out.2.2⟩
            · refine wp_of_run (exec_allocSp rfl) ?_
              refine hK.out _ _ (BD.out.alloc BD.out.size _) (fun hHeld => ?_)
              clear hK K
              try simp only [Act.put, List.setIfInBounds_toArray, List.set_cons_zero, List.set_cons_succ]
              refine take_one (i := 10) rfl (by kernel_rfl) rfl (fun K hK => ?_)
              refine wp_of_run (exec_allocSp rfl) ?_
              obtain ⟨z1, z2, bz⟩ := two_sp wd
              rw [World.size_alloc]
              generalize (wd.alloc (.cells (rowV 4 spZ) 41)).alloc (.cells (rowV 4 spZ) 41) = W at z1 z2 bz ⊢
              have BW : Hid (Below w2.heap.size w2 W) := (show Below w2.heap.size w2 W from BD.out.trans (bz.mono BD.out.size))
              refine hK.out _ _ BW.out (fun hHeld => ?_)
              clear hK K
              try simp only [Act.put, List.setIfInBounds_toArray, List.set_cons_zero, List.set_cons_succ]
              obtain ⟨V1, s1, q1, y1, c1'⟩ := sp_store W (wd.heap.size + 1) gx z2 ONE.out.1
              obtain ⟨V2, s2, q2, y2, c2'⟩ := sp_store V1 wd.heap.size gy (c1'.row z1 z1.lt (by omega)) ONE.out.2
              have q1' := c2'.row q1 q1.lt (by omega)
              have hwd := BD.out.size
              have bV1 : Below w2.heap.size w2 V1 := BW.out.trans ((c1'.mono BW.out.size).below (by omega))
              have bV2 : Below w2.heap.size w2 V2 := bV1.trans ((c2'.mono bV1.size).below (by omega))
              refine take_one (i := 12) rfl (by kernel_rfl) rfl (fun K hK => ?_)
              unfold Oper.wp execOp
              simp only [Instr.storeAt, Instr.sureAddr, Sem.run_bind, Sem.run_pure, Result.andThen_ok]
              simp [Act.eval, s1, Oper.upon]
              refine hK.out _ _ bV1 (fun hHeld => ?_)
              clear hK K
              try simp only [Act.put, List.setIfInBounds_toArray, List.set_cons_zero, List.set_cons_succ]
              refine take_one (i := 13) rfl (by kernel_rfl) rfl (fun K hK => ?_)
              unfold Oper.wp execOp
              simp only [Instr.storeAt, Instr.sureAddr, Sem.run_bind, Sem.run_pure, Result.andThen_ok]
              simp [Act.eval, s2, Oper.upon]
              refine hK.out _ _ bV2 (fun hHeld => ?_)
              clear hK K
              try simp only [Act.put, List.setIfInBounds_toArray, List.set_cons_zero, List.set_cons_succ]
              refine wpAnyH_done (by kernel_rfl) ?_ _
              refine NoPanic.normal ?_
              have FIN : Hid (V2.rowIs (wd.heap.size + 1) 41 4 gx ∧ V2.rowIs wd.heap.size 41 4 gy ∧ Below w2.heap.size w2 V2) := (show _ ∧ _ ∧ _ from ⟨q1', q2, bV2⟩)
              clear s1 s2 q1 q2 y1 y2 c1' c2' q1' bV1 bV2 z1 z2 bz hHeld hwd
              go_wp2_with fail
              go_meet
              case rel => exact ⟨rfl, _, _, rfl, rfl, FIN.out.1, FIN.out.2.1, FIN.out.2.2⟩
          case rest =>
            obtain ⟨rfl, b6, b7, rfl, rfl, r6, r7, b3⟩ := hcut
            rename World => w3
            have x0 : w3.cell? ⟨b6, 0, none⟩ = some (.int .i64 (x k).at_) := by have := r6.cell (i := 0) (by omega); rw [GX.out] at this; exact this
            have x1 : w3.cell? ⟨b6, 1, none⟩ = some (.slice ka (x k).pr.1.length kcap) := by have := r6.cell (i := 1) (by omega); rw [GX.out] at this; exact this
            have x2 : w3.cell? ⟨b6, 2, none⟩ = some (.slice va (x k).pr.2.length vcap) := by have := r6.cell (i := 2) (by omega); rw [GX.out] at this; exact this
            have x3 : w3.cell? ⟨b6, 3, none⟩ = some (.slice pa (x k).path.length pcap) := by have := r6.cell (i := 3) (by omega); rw [GX.out] at this; exact this
            have y0 : w3.cell? ⟨b7, 0, none⟩ = some (.int .i64 (y k).at_) := by have := r7.cell (i := 0) (by omega); rw [GY.out] at this; exact this
            have y1 : w3.cell? ⟨b7, 1, none⟩ = some (.slice kb (y k).pr.1.length kbcap) := by have := r7.cell (i := 1) (by omega); rw [GY.out] at this; exact this
            have y2 : w3.cell? ⟨b7, 2, none⟩ = some (.slice vb (y k).pr.2.length vbcap) := by have := r7.cell (i := 2) (by omega); rw [GY.out] at this; exact this
            have y3 : w3.cell? ⟨b7, 3, none⟩ = some (.slice pb (y k).path.length pbcap) := by have := r7.cell (i := 3) (by omega); rw [GY.out] at this; exact this
            obtain ⟨_, fa1, fa2, fa3⟩ := FA.out w3 b3
            obtain ⟨_, fb1, fb2, fb3⟩ := FB.out w3 b3
            have X := rsame_any _ _ _ _ w3 fa3 fb3 (HLP.out k hlt)
            have v1 := convK w3 _ _ fa1
            have v2 := convK w3 _ _ fa2
            have v3 := convK w3 _ _ fb1
            have v4 := convK w3 _ _ fb2
            have hE1 : decide (strOf (x k).pr.1 = strOf (y k).pr.1) = decide ((x k).pr.1 = (y k).pr.1) := decide_eq_decide.mpr (strOf_eq fa1 fb1)
            have hE2 : decide (strOf (x k).pr.2 = strOf (y k).pr.2) = decide ((x k).pr.2 = (y k).pr.2) := decide_eq_decide.mpr (strOf_eq fa2 fb2)
            have B3 : Hid (Below w2.heap.size w2 w3 ∧ Below w.heap.size w w3) := (show _ ∧ _ from ⟨b3, C0.out w3 b3⟩)
            have NOT : Hid (¬ x k = y k → sameP c c m n x y (.returned (.bool false))) := (show _ from fun h => ⟨false, rfl, fun e => (by cases e), fun e => absurd (e.2.2 k hlt) h⟩)
            have NXT : Hid (x k = y k → ∀ j, j < k + 1 → x j = y j) := (show _ from fun h j hj => by
              by_cases e : j = k
              · rw [e]; exact h
              · exact HAL.out j (by omega))
            clear r6 r7 b3 fa1 fa2 fa3 fb1 fb2 fb3 GX GY FA FB ONE C1 HP HLP HAL HBR
            obtain ⟨xk, hxk⟩ : ∃ s, s = x k := ⟨_, rfl⟩
            obtain ⟨yk, hyk⟩ : ∃ s, s = y k := ⟨_, rfl⟩
            rw [← hxk, ← hyk] at NOT NXT
            rw [← hxk, ← hyk] at X hE1 hE2
            rw [← hxk] at x0 x1 x2 x3 v1 v2
            rw [← hyk] at y0 y1 y2 y3 v3 v4
            clear hxk hyk
            obtain ⟨xa, ⟨xp, xq⟩, xs⟩ := xk
            obtain ⟨ya, ⟨yp, yq⟩, ys⟩ := yk
            simp only at x0 x1 x2 x3 y0 y1 y2 y3 X v1 v2 v3 v4 hE1 hE2
            by_cases h1 : xa = ya
            · by_cases h2 : xp = yp
              · by_cases h3 : xq = yq
                · subst h1 h2 h3
                  have NX2 : Hid (xs = ys → ∀ j, j < k + 1 → x j = y j) := (show _ from fun h => NXT.out (by rw [h]))
                  have NO2 : Hid (¬ xs = ys → sameP c c m n x y (.returned (.bool false))) := (show _ from fun h => NOT.out (fun e => h (by injection e)))
                  clear NOT NXT hE1 hE2
                  go_wp2_with fail
                  refine X.mono ?_
                  rintro e w' ⟨rfl, hb⟩
                  have B4 : Hid (Below w2.heap.size w2 w' ∧ Below w.heap.size w w') := (show _ ∧ _ from ⟨B3.out.1.trans (hb.mono B3.out.1.size), B3.out.2.trans (hb.mono B3.out.2.size)⟩)
                  clear X hb x0 x1 x2 x3 y0 y1 y2 y3
                  by_cases h4 : xs = ys
                  · rw [decide_eq_true h4]
                    have NX3 : Hid (∀ j, j < k + 1 → x j = y j) := (show _ from NX2.out h4)
                    clear h4 NX2 NO2
                    go_wp2
                    go_light
                    exact ⟨⟨k + 1, by omega, by go_num, NX3.out, B4.out.1⟩, by simp [intOf]; omega⟩
                  · rw [decide_eq_false h4]
                    have NO3 : Hid (sameP c c m n x y (.returned (.bool false))) := (show _ from NO2.out h4)
                    clear h4 NX2 NO2
                    go_wp2
                    go_ret
                    exact ⟨NO3.out, B4.out.2⟩
                · have NO3 : Hid (sameP c c m n x y (.returned (.bool false))) := (show _ from NOT.out (fun e => h3 (by injection e with e1 e2 e3; injection e2)))
                  rw [decide_eq_false h3] at hE2
                  have hs : ((strOf xq).toList == (strOf yq).toList) = false := by rw [str_beq]; exact hE2
                  have hs2 : ¬ (strOf xq).toList = (strOf yq).toList := fun e => by rw [beq_eq_false_iff_ne] at hs; exact hs e
                  clear X
                  subst h1 h2
                  clear NOT NXT hE1 hE2 h3
                  go_wp2
                  go_ret
                  exact ⟨NO3.out, B3.out.2⟩
              · have NO3 : Hid (sameP c c m n x y (.returned (.bool false))) := (show _ from NOT.out (fun e => h2 (by injection e with e1 e2 e3; injection e2)))
                rw [decide_eq_false h2] at hE1
                have hs : ((strOf xp).toList == (strOf yp).toList) = false := by rw [str_beq]; exact hE1
                have hs2 : ¬ (strOf xp).toList = (strOf yp).toList := fun e => by rw [beq_eq_false_iff_ne] at hs; exact hs e
                clear X
                subst h1
                clear NOT NXT hE1 hE2 h2
                go_wp2
                go_ret
                exact ⟨NO3.out, B3.out.2⟩
            · have NO3 : Hid (sameP c c m n x y (.returned (.bool false))) := (show _ from NOT.out (fun e => h1 (by injection e)))
              clear NOT NXT hE1 hE2
              go_wp2
              go_ret
              exact ⟨NO3.out, B3.out.2⟩
        · obtain rfl : k = m := by omega
          have p1 : ¬ (k : Int) < (k : Int) := by omega
          have FI : Hid (sameP c c k n x y (.returned (.bool true)) ∧ Below w.heap.size w wr) := (show _ ∧ _ from ⟨⟨true, rfl, fun _ => ⟨rfl, EQ.out, HAL.out⟩, fun _ => rfl⟩, C0.out wr hbr⟩)
          clear hbr c0 c1 d0 d1
          go_wp2
          go_ret
          exact FI.out
    · have hmn' : ¬ (m : Int) = (n : Int) := by omega
      have FI : Hid (sameP c d m n x y (.returned (.bool false))) := (show _ from ⟨false, rfl, fun e => (by cases e), fun e => absurd e.2.1 hmn⟩)
      clear hmn
      go_wp2
      go_ret
      exact ⟨FI.out, B12.out⟩
  · have FI : Hid (sameP c d m n x y (.returned (.bool false))) := (show _ from ⟨false, rfl, fun e => (by cases e), fun e => absurd e.1 hcd⟩)
    go_wp2
    go_ret
    exact ⟨FI.out, B12.out⟩
end Go.Proofs.YtgchnobifidjcaaDoor

/- the laws' stands. -/
namespace Go.Proofs.YtgchnobifidjcaaDoor
set_option linter.unusedSimpArgs false
set_option linter.unusedVariables false
open Go.RowKit Go.Deep

def standP (n : Nat) (x : Nat → Pr) (key : List Int) (e : Ending) : Prop :=
  (∃ i, i < n ∧ (x i).1 = key ∧ (∀ j, j < i → ¬ (x j).1 = key) ∧ e = .returned (.tuple #[.string (strOf (x i).2), .bool true])) ∨ ((∀ j, j < n → ¬ (x j).1 = key) ∧ e = .returned (.tuple #[.string { data := #[] }, .bool false]))
end Go.Proofs.YtgchnobifidjcaaDoor
