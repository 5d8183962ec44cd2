import Derived.Test.YthpnenblmkdmcaaDoorOwn8
set_option linter.unusedVariables false
set_option linter.unusedSimpArgs false
/- grow.Between of no book: its walk. -/
namespace Go.Proofs.YthpnenblmkdmcaaDoor
set_option linter.unusedSimpArgs false
set_option linter.unusedVariables false
open Go.RowKit Go.Deep Go.Shelf
attribute [local go_sem] Oper.semAt_some

set_option maxRecDepth 100000 in
set_option maxHeartbeats 2000000 in
theorem between_nil (L : List (List Int)) (lv0 : Value) (m : Int) (w : World) (hm : -9223372036854775808 ≤ m ∧ m ≤ 9223372036854775807) (h : sumsAt w lv0 L) (hL : L.length ≤ 1000) (ht : tabIs w) :
    Calls Tryd.prog 10 #[.pointer none, lv0, .int .i64 m] w fun e w' => ∃ u, e = .returned u ∧ newSums w' w.heap.size u (gPath L m) ∧ Below w.heap.size w w' := by
  have hsl : ∃ a cap, lv0 = .slice a L.length cap := by
    obtain ⟨_, a, cap, e, _⟩ := h; exact ⟨a, cap, e⟩
  obtain ⟨w1, hw1⟩ : ∃ w1, w1 = w.alloc (.cells #[.pointer none] 30) := ⟨_, rfl⟩
  have b1 : Below w.heap.size w w1 := by rw [hw1]; exact (Below.refl _ _).alloc (Nat.le_refl _) _
  have z1 : w1.heap.size = w.heap.size + 1 := by rw [hw1]; simp
  have r1 : w1.rowIs w.heap.size 30 1 (fun _ => .pointer none) := by rw [hw1]; exact rowIs_one _ _ _
  have X := gway_any m (L.length : Int) hm (by omega) w1
  have hlen := gI_len m (L.length : Int) (by omega)
  obtain ⟨Y, hY⟩ : ∃ Y, Y = gI m (L.length : Int) := ⟨_, rfl⟩
  rw [← hY] at X hlen
  have EP : Hid (gPath L m = ((gDown Y L ++ if gIn Y = true then [gKeptF Y L] else []).reverse.map rootS)) := (show gPath L m = ((gDown Y L ++ if gIn Y = true then [gKeptF Y L] else []).reverse.map rootS) from by unfold gPath gShown; rw [← hY])
  have q0 : (Y.length : Int) ≤ 63 := by omega
  have q1 : (L.length : Int) ≤ 1000 := by omega
  obtain ⟨la, lc, rfl⟩ := hsl
  have HS : Hid (sumsAt w (.slice la L.length lc) L) := (show sumsAt w (.slice la L.length lc) L from h)
  have HY : Hid _ := hY
  have HT : Hid (tabIs w) := (show tabIs w from ht)
  have B1 : Hid _ := b1
  have Z1 : Hid _ := z1
  have R1 : Hid (w1.rowIs w.heap.size 30 1 (fun _ => .pointer none)) := (show w1.rowIs w.heap.size 30 1 (fun _ => .pointer none) from r1)
  clear h hY b1 z1 r1 ht
  refine callsIn_wide (n := 3) |>.1 ?_
  refine callsIn_of_wp_marks Tryd.func10 rfl trivial ?_ rfl
  refine wpIn_wide.2 ?_
  simp only [Tryd.ntmps10, List.size_toArray, List.length_cons, List.length_nil, Nat.reduceAdd, Nat.reduceSub, Array.replicate_succ, Array.replicate_zero, List.push_toArray, List.append_toArray, List.nil_append, List.cons_append]
  go_wp2_with fail
  rw [← hw1]
  clear hw1
  refine X.mono ?_
  rintro e w2 ⟨sv, rfl, hv, hb⟩
  clear X
  have B12 : Hid (Below w1.heap.size w1 w2) := (show Below w1.heap.size w1 w2 from hb)
  have b2 : Below w.heap.size w w2 := B1.out.trans (hb.mono (by have := Z1.out; omega))
  have h2 := HS.out.below b2 (Nat.le_refl _)
  obtain ⟨va, vc, rfl, hc1, _, hcell⟩ := newSteps.slice hv
  have HV : Hid (newSteps w2 w1.heap.size (.slice va Y.length vc) Y) := (show newSteps w2 w1.heap.size (.slice va Y.length vc) Y from hv)
  have HC : Hid _ := hcell
  have B2 : Hid _ := b2
  have H2 : Hid (sumsAt w2 (.slice la L.length lc) L) := (show sumsAt w2 (.slice la L.length lc) L from h2)
  have P0 : Hid (betAt w2 Y L 0 (.slice la L.length lc) (.slice none 0 0) w2) := (show betAt w2 Y L 0 (.slice la L.length lc) (.slice none 0 0) w2 from
    ⟨[], m, by rw [List.take_zero]; exact h2, by rw [List.take_zero, List.drop_zero]; exact HY.out, ⟨rfl, Or.inl ⟨rfl, rfl⟩⟩, by rw [List.take_zero]; exact allS.nil _, Below.refl _ _⟩)
  clear hv hb b2 h2 hcell
  go_wp2
  go_loopw [1, 8, 22] (fun x1 x8 x22 wr => ∃ (k : Nat) (lv sv : Value), lv = x1 ∧ sv = x8 ∧ x22 = .int .i64 (k : Int) ∧ k ≤ Y.length ∧ betAt w2 Y L k lv sv wr) (fun _ _ x _ => Y.length - (intOf x).toNat)
  case atStart => exact ⟨0, _, _, rfl, rfl, rfl, Nat.zero_le _, P0.out⟩
  case round =>
    obtain ⟨k, lv, sv, rfl, rfl, rfl, hk, hP⟩ := hrel
    by_cases hlt : k < Y.length
    · obtain ⟨vs, mk, g1, g2, g3, g4, g5⟩ := hP
      obtain ⟨d1, d2, m', d3⟩ := gI_take_len mk _ Y k hlt g2
      obtain ⟨gb, rfl, hgb, _, hcl⟩ := HC.out (by omega)
      obtain ⟨c1, c2⟩ := hcl k Y[k] (List.getElem?_eq_getElem hlt)
      have e1 := (g5.cell (p := ⟨gb, k * 2, none⟩) hgb).trans c1
      have e2 := (g5.cell (p := ⟨gb, k * 2 + 1, none⟩) hgb).trans c2
      have i0 : (0 : Int) ≤ (k : Int) := by omega
      have i1 : (k : Int) < (Y.length : Int) := by omega
      have TK := take_snoc Y k hlt
      have hvl : vs.length = k := by rw [g4.1, gDown_len, List.length_take]; omega
      obtain ⟨x, hx⟩ : ∃ x, x = Y[k] := ⟨_, rfl⟩
      rw [← hx] at d2 d3 e1 e2 TK
      obtain ⟨K, hK⟩ : ∃ K, K = gKeptF (Y.take k) L := ⟨_, rfl⟩
      have hKl : K.length ≤ 1000 := by
        have : ∀ (w : List (Nat × Bool)) (L : List (List Int)), (gKeptF w L).length ≤ L.length := by
          intro w
          induction w with
          | nil => intro L; exact Nat.le_refl _
          | cons y r ih =>
            intro L
            have h1 := ih (gKept y L)
            have h2 : (gKept y L).length ≤ L.length := by unfold gKept; split <;> simp <;> omega
            rw [gKeptF_cons]; omega
        have := this (Y.take k) L
        rw [hK]; omega
      have hGK := gKeptF_snoc (Y.take k) x L
      have hGD := gDown_snoc (Y.take k) x L
      rw [← TK, ← hK] at hGK hGD
      rw [← hK] at g1 d1 d2 d3
      have hhf := halfN_is d1
      obtain ⟨xn, xb⟩ := x
      simp only at d2 e1 e2
      obtain ⟨ua, ra, sa, _, xa, ya, rfl⟩ := g1.to' xn (by omega)
      obtain ⟨ub, rb, sb, _, xc, yc, rfl⟩ := g1.from' xn (by omega)
      have hslv : ∃ a cap, lv = .slice a K.length cap := by
        obtain ⟨_, a, cap, e, _⟩ := g1; exact ⟨a, cap, e⟩
      obtain ⟨lva, lvc, rfl⟩ := hslv
      obtain ⟨W4, hW4⟩ : ∃ W4, W4 = (wr.alloc (.cells #[.int .i64 (xn : Int), .bool xb] 51)).drew := ⟨_, rfl⟩
      have bW4 : Below w2.heap.size w2 W4 := by rw [hW4]; exact (g5.trans (((Below.refl wr.heap.size wr).alloc (Nat.le_refl _) _).mono g5.size)).drew
      have oW4 : owns W4 w2.heap.size 22 sv vs := by
        rw [hW4]; exact g3.alloc _
      have hbox : W4.rowIs wr.heap.size 51 2 (fun i => if i = 0 then .int .i64 (xn : Int) else .bool xb) := by
        rw [hW4]
        exact rowIs_new wr _ _ 2 _ rfl (fun i hi => by
          match i, hi with
          | 0, _ => rfl
          | 1, _ => rfl)
      have b0 := hbox.cell (i := 0) (by omega)
      have bb := hbox.cell (i := 1) (by omega)
      have HW4 : Hid _ := hW4
      have S4 : Hid (W4.cell? ⟨wr.heap.size, 0, none⟩ = some (.int .i64 (xn : Int)) ∧ W4.cell? ⟨wr.heap.size, 1, none⟩ = some (.bool xb)) := (show W4.cell? ⟨wr.heap.size, 0, none⟩ = some (.int .i64 (xn : Int)) ∧ W4.cell? ⟨wr.heap.size, 1, none⟩ = some (.bool xb) from ⟨b0, bb⟩)
      have HGK : Hid _ := hGK
      have HGD : Hid _ := hGD
      have HD3 : Hid _ := d3
      have HG4 : Hid (allS w2 vs (gDown (Y.take k) L)) := (show allS w2 vs (gDown (Y.take k) L) from g4)
      have HSA : Hid (sumsAt w2 (.slice xa xn ya) (K.take xn)) := (show sumsAt w2 (.slice xa xn ya) (K.take xn) from sa)
      have HSB : Hid (sumsAt w2 (.slice xc (K.length - xn) yc) (K.drop xn)) := (show sumsAt w2 (.slice xc (K.length - xn) yc) (K.drop xn) from sb)
      have HXN : Hid _ := d2
      have HIN : Hid ((0 : Int) ≤ (xn : Int) ∧ (xn : Int) < (K.length : Int)) := (show (0 : Int) ≤ (xn : Int) ∧ (xn : Int) < (K.length : Int) from by omega)
      have HVL : Hid _ := hvl
      have HKL : Hid _ := hKl
      have HB4 : Hid _ := bW4
      have HO4 : Hid (owns W4 w2.heap.size 22 sv vs) := (show owns W4 w2.heap.size 22 sv vs from oW4)
      clear hcl c1 c2 hW4 hbox b0 bb hGK hGD d3 g4 sa sb d2 hvl hKl bW4 oW4 g1 g2 g3 g5 hx hK TK d1 hhf
      go_upto_region 6 with fail
      refine wp_region_noPanic ?_
      refine wp_region_held_drew (S := fun w' => w'.cell? ⟨wr.heap.size, 0, none⟩ = some (.int .i64 (xn : Int)) ∧ w'.cell? ⟨wr.heap.size, 1, none⟩ = some (.bool xb)) (by kernel_rfl) (HW4.out ▸ S4.out) (fun hHeld => ?_)
      rw [← HW4.out] at hHeld ⊢
      refine take_op (i := 0) (v := ?va0) rfl (by kernel_rfl) (by kernel_rfl) (by kernel_rfl) (fun _ _ _ h => h) rfl hHeld ?ya0 ?ra0
      case ya0 => (intro wz hz; go_simp; first | done | with_reducible rfl)
      try simp only [Act.put, List.setIfInBounds_toArray, List.set_cons_zero, List.set_cons_succ]
      refine take_op (i := 1) (v := ?va1) rfl (by kernel_rfl) (by kernel_rfl) (by kernel_rfl) (fun _ _ _ h => h) rfl hHeld ?ya1 ?ra1
      case ya1 => (intro wz hz; go_simp; first | done | with_reducible rfl)
      try simp only [Act.put, List.setIfInBounds_toArray, List.set_cons_zero, List.set_cons_succ]
      refine take_op (i := 2) (v := ?va2) rfl (by kernel_rfl) (by kernel_rfl) (by kernel_rfl) (fun _ _ _ h => h) rfl hHeld ?ya2 ?ra2
      case ya2 => (intro wz hz; have hz1 := hz.1; go_simp; first | done | with_reducible rfl)
      try simp only [Act.put, List.setIfInBounds_toArray, List.set_cons_zero, List.set_cons_succ]
      refine take_op (i := 3) (v := ?va3) rfl (by kernel_rfl) (by kernel_rfl) (by kernel_rfl) (fun _ _ _ h => h) rfl hHeld ?ya3 ?ra3
      case ya3 => (intro wz hz; have hcz := ra wz; go_simp; first | done | with_reducible rfl)
      try simp only [Act.put, List.setIfInBounds_toArray, List.set_cons_zero, List.set_cons_succ]
      refine take_op (i := 4) (v := ?va4) rfl (by kernel_rfl) (by kernel_rfl) (by kernel_rfl) (fun _ _ _ h => h) rfl hHeld ?ya4 ?ra4
      case ya4 => (intro wz hz; go_simp; first | done | with_reducible rfl)
      try simp only [Act.put, List.setIfInBounds_toArray, List.set_cons_zero, List.set_cons_succ]
      refine take_op (i := 5) (v := ?va5) rfl (by kernel_rfl) (by kernel_rfl) (by kernel_rfl) (fun _ _ _ h => h) rfl hHeld ?ya5 ?ra5
      case ya5 => (intro wz hz; go_simp; first | done | with_reducible rfl)
      try simp only [Act.put, List.setIfInBounds_toArray, List.set_cons_zero, List.set_cons_succ]
      refine take_op (i := 6) (v := ?va6) rfl (by kernel_rfl) (by kernel_rfl) (by kernel_rfl) (fun _ _ _ h => h) rfl hHeld ?ya6 ?ra6
      case ya6 => (intro wz hz; have hz1 := hz.1; go_simp; first | done | with_reducible rfl)
      try simp only [Act.put, List.setIfInBounds_toArray, List.set_cons_zero, List.set_cons_succ]
      refine take_op (i := 7) (v := ?va7) rfl (by kernel_rfl) (by kernel_rfl) (by kernel_rfl) (fun _ _ _ h => h) rfl hHeld ?ya7 ?ra7
      case ya7 => (intro wz hz; have hcz := rb wz; go_simp; first | done | with_reducible rfl)
      try simp only [Act.put, List.setIfInBounds_toArray, List.set_cons_zero, List.set_cons_succ]
      refine take_op (i := 8) (v := ?va8) rfl (by kernel_rfl) (by kernel_rfl) (by kernel_rfl) (fun _ _ _ h => h) rfl hHeld ?ya8 ?ra8
      case ya8 => (intro wz hz; go_simp; first | done | with_reducible rfl)
      try simp only [Act.put, List.setIfInBounds_toArray, List.set_cons_zero, List.set_cons_succ]
      refine take_op (i := 9) (v := ?va9) rfl (by kernel_rfl) (by kernel_rfl) (by kernel_rfl) (fun _ _ _ h => h) rfl hHeld ?ya9 ?ra9
      case ya9 => (intro wz hz; go_simp; first | done | with_reducible rfl)
      try simp only [Act.put, List.setIfInBounds_toArray, List.set_cons_zero, List.set_cons_succ]
      refine wpAnyH_done (by kernel_rfl) ?_ _
      refine NoPanic.normal ?_
      clear hHeld ra rb e1 e2
      have cb := S4.out.2
      cases xb with
      | true =>
        obtain ⟨a9, c9, w9, hr9, o9, b9⟩ := ss_append w2 W4 sv (.slice xc (K.length - xn) yc) vs HO4.out rfl (by have := HVL.out; omega) HB4.out
        rw [HVL.out] at hr9 o9
        have FIN : Hid (betAt w2 Y L (k + 1) (.slice xa xn ya) (.slice a9 (k + 1) c9) w9) := (show betAt w2 Y L (k + 1) (.slice xa xn ya) (.slice a9 (k + 1) c9) w9 from
          ⟨_, m', by rw [HGK.out]; unfold gKept; rw [if_pos rfl]; exact HSA.out, by rw [HGK.out]; exact HD3.out, o9, by rw [HGD.out]; exact HG4.out.snoc (by unfold gOther; rw [if_pos rfl]; exact HSB.out), b9⟩)
        clear o9 b9 HW4 S4 HGK HGD HD3 HG4 HSA HSB HO4 HB4
        go_wp2_with (first | (at_builtin; refine wpList_append_run rfl (.tmp 36) (.tmp 38) _ rfl rfl rfl hr9 ?_))
        go_roundw
        case rel => exact ⟨k + 1, _, _, rfl, rfl, by go_num, by omega, FIN.out⟩
        case measure => simp [intOf]; omega
      | false =>
        obtain ⟨a9, c9, w9, hr9, o9, b9⟩ := ss_append w2 W4 sv (.slice xa xn ya) vs HO4.out rfl (by have := HVL.out; omega) HB4.out
        rw [HVL.out] at hr9 o9
        have FIN : Hid (betAt w2 Y L (k + 1) (.slice xc (K.length - xn) yc) (.slice a9 (k + 1) c9) w9) := (show betAt w2 Y L (k + 1) (.slice xc (K.length - xn) yc) (.slice a9 (k + 1) c9) w9 from
          ⟨_, m', by rw [HGK.out]; unfold gKept; rw [if_neg (by simp)]; exact HSB.out, by rw [HGK.out]; exact HD3.out, o9, by rw [HGD.out]; exact HG4.out.snoc (by unfold gOther; rw [if_neg (by simp)]; exact HSA.out), b9⟩)
        clear o9 b9 HW4 S4 HGK HGD HD3 HG4 HSA HSB HO4 HB4
        go_wp2_with (first | (at_builtin; refine wpList_append_run rfl (.tmp 41) (.tmp 43) _ rfl rfl rfl hr9 ?_))
        go_roundw
        case rel => exact ⟨k + 1, _, _, rfl, rfl, by go_num, by omega, FIN.out⟩
        case measure => simp [intOf]; omega
    · obtain rfl : k = Y.length := by omega
      obtain ⟨vs, mk, g1, g2, g3, g4, g5⟩ := hP
      rw [List.take_length] at g1 g4
      have HG1 : Hid (sumsAt w2 lv (gKeptF Y L)) := (show sumsAt w2 lv (gKeptF Y L) from g1)
      have HG3 : Hid (owns wr w2.heap.size 22 sv vs) := (show owns wr w2.heap.size 22 sv vs from g3)
      have HG4 : Hid (allS w2 vs (gDown Y L)) := (show allS w2 vs (gDown Y L) from g4)
      have HG5 : Hid _ := g5
      have XI := inside_any Y w1.heap.size (.slice va Y.length vc) wr (HV.out.below g5 (Nat.le_refl _)) (by omega)
      have hKl : (gKeptF Y L).length ≤ 1000 := by
        have : ∀ (w : List (Nat × Bool)) (L : List (List Int)), (gKeptF w L).length ≤ L.length := by
          intro w
          induction w with
          | nil => intro L; exact Nat.le_refl _
          | cons y r ih =>
            intro L
            have h1 := ih (gKept y L)
            have h2 : (gKept y L).length ≤ L.length := by unfold gKept; split <;> simp <;> omega
            rw [gKeptF_cons]; omega
        have := this Y L
        omega
      have HKL : Hid _ := hKl
      clear g1 g2 g3 g4 g5 hKl
      have RK2 : Hid (∀ W, Below w2.heap.size w2 W → W.rowIs w.heap.size 30 1 (fun _ => .pointer none)) := (show ∀ W, Below w2.heap.size w2 W → W.rowIs w.heap.size 30 1 (fun _ => .pointer none) from fun W hW =>
        (hW.row (B12.out.row R1.out (gRow_lt R1.out)) (by have := B2.out.size; have := Z1.out; have := B12.out.size; omega)))
      cases hin : gIn Y with
      | true =>
        rw [hin] at XI
        have hslv : ∃ a cap, lv = .slice a (gKeptF Y L).length cap := by
          obtain ⟨_, a, cap, e, _⟩ := HG1.out; exact ⟨a, cap, e⟩
        obtain ⟨lva, lvc, rfl⟩ := hslv
        have EP2 : Hid (gPath L m = (gDown Y L ++ [gKeptF Y L]).reverse.map rootS) := (show gPath L m = (gDown Y L ++ [gKeptF Y L]).reverse.map rootS from by rw [EP.out, hin]; rfl)
        clear hin EP
        go_wp2_with fail
        refine XI.mono ?_
        rintro e w4 ⟨rfl, b4⟩
        clear XI
        have bb4 : Below w2.heap.size w2 w4 := HG5.out.trans (b4.mono HG5.out.size)
        have o4 : owns w4 w2.heap.size 22 sv vs := ownsRow_far HG3.out fun k hk => b4.block k (ownsRow_block HG3.out k hk).2
        obtain ⟨sa, sc, w5, hr5, o5, b5⟩ := ss_append w2 w4 sv (.slice lva (gKeptF Y L).length lvc) vs o4 rfl (by have := HG4.out.1; rw [gDown_len] at this; omega) bb4
        have hvs : vs.length + 1 = (vs ++ [Value.slice lva (gKeptF Y L).length lvc]).length := by simp
        rw [hvs] at hr5 o5
        have A5 : Hid (allS w2 (vs ++ [Value.slice lva (gKeptF Y L).length lvc]) (gDown Y L ++ [gKeptF Y L])) := (show allS w2 (vs ++ [Value.slice lva (gKeptF Y L).length lvc]) (gDown Y L ++ [gKeptF Y L]) from HG4.out.snoc HG1.out)
        have SHL : Hid ((gDown Y L ++ [gKeptF Y L]).length ≤ 100) := (show (gDown Y L ++ [gKeptF Y L]).length ≤ 100 from by rw [List.length_append, gDown_len]; simp; omega)
        have SHK : Hid (∀ K ∈ gDown Y L ++ [gKeptF Y L], K.length ≤ 1000) := (show ∀ K ∈ gDown Y L ++ [gKeptF Y L], K.length ≤ 1000 from fun K hK => by
          rcases List.mem_append.1 hK with h | h
          · have := gDown_le Y L K h; omega
          · rw [List.mem_singleton.1 h]; exact HKL.out)
        generalize vs ++ [Value.slice lva (gKeptF Y L).length lvc] = vs2 at hr5 o5 A5
        generalize gDown Y L ++ [gKeptF Y L] = SH at A5 SHL SHK EP2
        have T5 : Hid (tabIs w5) := (show tabIs w5 from HT.out.below (B2.out.trans (b5.mono B2.out.size)) HT.out.1)
        have RK : Hid (w5.rowIs w.heap.size 30 1 (fun _ => .pointer none)) := (show w5.rowIs w.heap.size 30 1 (fun _ => .pointer none) from RK2.out w5 b5)
        have B5 : Hid (Below w2.heap.size w2 w5) := (show Below w2.heap.size w2 w5 from b5)
        have O5 : Hid (owns w5 w2.heap.size 22 (.slice sa vs2.length sc) vs2) := (show owns w5 w2.heap.size 22 (.slice sa vs2.length sc) vs2 from o5)
        clear bb4 o4 o5 b5 hvs HG1 HG3 HG4 HG5 b4 P0
        go_upto_region 12 with fail
        go_upto_region 13 with (first | (at_builtin; refine wpList_append_run rfl (.tmp 49) (.tmp 51) _ rfl rfl rfl hr5 ?_))
        clear hr5
        obtain ⟨w6, hw6⟩ : ∃ w6, w6 = w5.alloc (.cells #[.slice none 0 0] 22) := ⟨_, rfl⟩
        obtain ⟨w7, hw7⟩ : ∃ w7, w7 = w6.alloc (.cells #[.slice sa vs2.length sc] 49) := ⟨_, rfl⟩
        have z6 : w6.heap.size = w5.heap.size + 1 := by rw [hw6]; simp
        have z7 : w7.heap.size = w5.heap.size + 2 := by rw [hw7]; simp; omega
        have b7 : Below w5.heap.size w5 w7 := by rw [hw7, hw6]; exact (((Below.refl _ _).alloc (Nat.le_refl _) _).alloc (by simp) _)
        have XB := backL_any sa vs2.length sc w6
        rw [← hw7] at XB
        have x6 : w7.rowIs w5.heap.size 22 1 (fun _ => .slice none 0 0) := by
          have r := rowIs_one w5 (.slice none 0 0) 22
          rw [← hw6] at r
          rw [hw7]; exact ((Below.refl w6.heap.size w6).alloc (Nat.le_refl _) _).row r (by omega)
        have x7 : w7.rowIs (w5.heap.size + 1) 49 1 (fun _ => .slice sa vs2.length sc) := by
          have r := rowIs_one w6 (.slice sa vs2.length sc) 49
          rw [z6, ← hw7] at r; exact r
        have P0 : Hid (betI w.heap.size w7.heap.size w5 (.slice sa vs2.length sc) SH 0 w7) := (show betI w.heap.size w7.heap.size w5 (.slice sa vs2.length sc) SH 0 w7 from
          ⟨_, b7.row RK.out (gRow_lt RK.out), x6, x7, by rw [List.take_zero]; exact newSums.nil _ _, b7, by omega⟩)
        have Z7 : Hid _ := z7
        have Z6 : Hid _ := z6
        have lk := gRow_lt RK.out
        have LK : Hid _ := lk
        have RR : Hid (∀ k W, betI w.heap.size w7.heap.size w5 (.slice sa vs2.length sc) SH k W → slsIn w6.heap.size sa sc vs2 W) := (show ∀ k W, betI w.heap.size w7.heap.size w5 (.slice sa vs2.length sc) SH k W → slsIn w6.heap.size sa sc vs2 W from fun k W h => by
          obtain ⟨pv, _, _, h3, _, h5, _⟩ := h
          refine ⟨?_, fun h0 => ?_⟩
          · rw [z6]; exact h3.cell (i := 0) (by omega)
          · obtain ⟨a', c', e, _, _, hh⟩ := ownsRow_slice O5.out
            obtain ⟨g, ha, hg, _, hc⟩ := hh h0
            have e1 : sa = a' := by injection e
            exact ⟨g, by rw [e1, ha], fun i x hx => (h5.cell (p := ⟨g, i, none⟩) hg).trans (hc i x hx)⟩)
        have HH := backL_hands 2 w6.heap.size sa sc vs2 w7 (by have := SHL.out; have := A5.out.1; omega) (by
          obtain ⟨a', c', e, hc, _, _⟩ := ownsRow_slice O5.out
          have e1 : sc = c' := by injection e
          omega)
        have HHD : Hid _ := HH
        clear z6 z7 b7 x6 x7 lk HH
        go_wp2_with fail
        rw [← hw6]
        refine XB.mono ?_
        rintro e w' ⟨rfl, hw⟩
        obtain rfl := hw.symm
        clear XB hw hw7 hw6
        go_wp2_with fail
        refine (wpIn_wide (n := 3)).1 ?_
        refine wpIn_range_asg (gf := 38) (lb := #[.pointer (some ⟨w6.heap.size, 0, none⟩)]) (encs := backLV) (ys := vs2.zipIdx.reverse) rfl (enters_of Tryd.func38 (by kernel_rfl) rfl) HHD.out (fun _ => rfl)
          (fun k W => betI w.heap.size w7.heap.size w5 (.slice sa vs2.length sc) SH k W)
          (fun k W x y h hx => h.keep LK.out Z7.out ⟨rfl, rfl, rfl⟩ (by simp [World.putObj]) (fun j _ h1 h2 => putObj_block W _ _ h2))
          (fun k W h => h.keep LK.out Z7.out ⟨rfl, rfl, rfl⟩ (Nat.le_refl _) (fun j _ _ _ => rfl)) RR.out
          (fun o o' => betI.keep P0.out LK.out Z7.out ⟨rfl, rfl, rfl⟩ (by simp; omega) (fun j hj _ _ => (((Below.refl w7.heap.size w7).alloc (Nat.le_refl _) o).alloc (by simp) o').block j hj))
          (fun y _ => [(55, .int .i64 (y.2 : Int)), (56, y.1), (15, y.1)]) (fun k _ W => betI w.heap.size w7.heap.size w5 (.slice sa vs2.length sc) SH k W)
          (fun k _ W x y h hx => h.keep LK.out Z7.out ⟨rfl, rfl, rfl⟩ (by simp [World.putObj]) (fun j _ h1 h2 => putObj_block W _ _ h2)) ?assign ?body ?done
        case assign =>
          intro l k hk W x hI hDd hDl K hK
          have hK0 := hK 0 W rfl rfl hI
          clear hK
          generalize vs2.zipIdx.reverse[k] = y at hK0
          simp only [List.foldl_cons, List.foldl_nil, List.setIfInBounds_toArray, List.set_cons_succ, List.set_cons_zero] at hK0
          simp only [backLV, List.zip_toArray, List.zip_cons_cons, List.zip_nil_left, List.zip_nil_right, List.foldl_toArray, List.foldl_cons, List.foldl_nil, List.setIfInBounds_toArray, List.set_cons_succ, List.set_cons_zero]
          gi_wp2
          exact hK0
        case body =>
          rintro l k hk _ W x0 hP hDd hDl
          have hgx := zipRev_get vs2 k hk
          have hkl : k < vs2.length := by rw [zipRev_len] at hk; exact hk
          generalize vs2.zipIdx.reverse[k] = y at hgx ⊢
          obtain ⟨u, yi⟩ := y
          obtain ⟨hu, _⟩ := hgx
          simp only at hu
          obtain ⟨hvl, hall⟩ := A5.out
          have hks : SH.length - 1 - k < SH.length := by omega
          have hSg : SH[vs2.length - 1 - k]? = some (SH[SH.length - 1 - k]'hks) := by rw [hvl]; exact List.getElem?_eq_getElem hks
          have hSr : SH.reverse[k]? = some (SH[SH.length - 1 - k]'hks) := by rw [List.getElem?_reverse (by omega)]; exact List.getElem?_eq_getElem hks
          have hKm : SH[SH.length - 1 - k]'hks ∈ SH := List.getElem_mem _
          have hK1 := SHK.out _ hKm
          have hSu := hall _ _ _ hu hSg
          generalize SH[SH.length - 1 - k]'hks = K0 at hSg hSr hKm hK1 hSu
          obtain ⟨pv, h1, h2, h3, h4, h5, h6⟩ := hP
          have hpv : ∃ pa pn pc, pv = .slice pa pn pc := by
            obtain ⟨pa, pc, e, _⟩ := ownsRow_slice h4.2; exact ⟨pa, _, pc, e⟩
          obtain ⟨pa, pn, pc, rfl⟩ := hpv
          have hD : w7.heap.size + 1 < W.heap.size := (Array.getElem?_eq_some_iff.1 hDl).1
          obtain ⟨wd, hwd⟩ : ∃ wd, wd = W.drew := ⟨_, rfl⟩
          have hSW : sumsAt wd u K0 := by rw [hwd]; exact hSu.below ((B5.out.trans (h5.mono B5.out.size)).drew) (Nat.le_refl _)
          have X7 := betI.step (kb := w.heap.size) (sv := .slice sa vs2.length sc) (W := wd) LK.out Z7.out T5.out SHL.out (by rw [hwd]; exact h1) (by rw [hwd]; exact h2) (by rw [hwd]; exact h3) (by rw [hwd]; exact h4) (by rw [hwd]; exact h5.drew) (by rw [hwd]; exact hD) hSr hSW hK1
          have c1 := h1.cell (i := 0) (by omega)
          have c5 := (World.rowIs.of_block (w' := wd) h2 (by rw [hwd]; rfl)).cell (i := 0) (by omega)
          have hDe : wd.heap[w7.heap.size]? = W.heap[w7.heap.size]? ∧ wd.heap[w7.heap.size + 1]? = W.heap[w7.heap.size + 1]? := by rw [hwd]; exact ⟨rfl, rfl⟩
          have HDE : Hid _ := hDe
          have HWD : Hid _ := hwd
          have C1 : Hid _ := c1
          have C5 : Hid _ := c5
          clear hkl hu hvl hall hks hSg hSr hKm hK1 hSu h1 h2 h3 h4 h5 h6 hD hwd hSW c1 c5 hDe hDd hDl
          simp only [List.foldl_cons, List.foldl_nil, List.setIfInBounds_toArray, List.set_cons_succ, List.set_cons_zero]
          gi_wp2_with fail
          refine wpIn_region_round (S := fun w' => w'.cell? ⟨w.heap.size, 0, none⟩ = some (.pointer none)) (by kernel_rfl) (by kernel_rfl) C1.out (fun hHeld => ?_)
          rw [← HWD.out] at hHeld ⊢
          refine take_op (i := 1) (v := ?vp1) rfl (by kernel_rfl) (by kernel_rfl) (by kernel_rfl) (fun _ _ _ h => h) rfl hHeld ?yp1 ?rp1
          case yp1 => (intro wz hz; go_simp; first | done | with_reducible rfl)
          try simp only [Act.put, List.setIfInBounds_toArray, List.set_cons_zero, List.set_cons_succ]
          refine take_op (i := 2) (v := ?vp2) rfl (by kernel_rfl) (by kernel_rfl) (by kernel_rfl) (fun _ _ _ h => h) rfl hHeld ?yp2 ?rp2
          case yp2 => (intro wz hz; go_simp; first | done | with_reducible rfl)
          try simp only [Act.put, List.setIfInBounds_toArray, List.set_cons_zero, List.set_cons_succ]
          refine take_pair (i := 0) (j := 3) rfl rfl (by kernel_rfl) rfl rfl ?p1 ?p2
          case p1 =>
            intro K hK
            refine wp_of_run (v := .slice pa pn pc) (w' := wd) ?p3 ?_
            case p3 => (have hcz := C5.out; go_simp; first | done | with_reducible rfl)
            refine hK.out _ _ hHeld (fun hHeld => ?_)
            clear hK K
            try simp only [Act.put, List.setIfInBounds_toArray, List.set_cons_zero, List.set_cons_succ]
            refine take_one (i := 3) rfl (by kernel_rfl) rfl (fun K hK => ?_)
            go_simp
            refine Calls.mono X7 ?_
            rintro e wR ⟨rfl, r5, r1, hS⟩
            obtain ⟨wS, hwS⟩ : ∃ wS, wS = wR.alloc (.cells (rowV 32 (arrV (rootS K0))) 29) := ⟨_, rfl⟩
            obtain ⟨s5, s1, aa, am, ac, w8, hr, t5, t1, h9⟩ := hS wS hwS
            clear X7 hS
            refine hK.out _ _ (r1.cell (i := 0) (by omega)) (fun hHeld => ?_)
            clear hK K
            try simp only [Act.put, List.setIfInBounds_toArray, List.set_cons_zero, List.set_cons_succ]
            refine take_one (i := 4) rfl (by kernel_rfl) rfl (fun K hK => ?_)
            refine wp_of_run (w' := wS) (by rw [hwS]; exact exec_bslice1' 22 1 0 (.tmp 60) _ rfl rfl (build_one (arrV (rootS K0)) wR)) ?_
            refine hK.out _ _ (s1.cell (i := 0) (by omega)) (fun hHeld => ?_)
            clear hK K
            try simp only [Act.put, List.setIfInBounds_toArray, List.set_cons_zero, List.set_cons_succ]
            refine take_one (i := 5) rfl (by kernel_rfl) rfl (fun K hK => ?_)
            refine wp_append_run (.tmp 57) (.tmp 61) _ rfl rfl rfl hr ?_
            refine hK.out _ _ (t1.cell (i := 0) (by omega)) (fun hHeld => ?_)
            clear hK K hr
            try simp only [Act.put, List.setIfInBounds_toArray, List.set_cons_zero, List.set_cons_succ]
            have c8 := t5.cell (i := 0) (by omega)
            have f8 := t5.frozen 0
            obtain ⟨w9, hw9⟩ : ∃ w9, w9 = w8.setCell ⟨w5.heap.size, 0, none⟩ (.slice aa am ac) := ⟨_, rfl⟩
            obtain ⟨g1, g2, g3, g4⟩ := h9 w9 hw9
            have G2 : Hid _ := g2
            have G3 : Hid _ := g3
            have G4 : Hid (betI w.heap.size w7.heap.size w5 (.slice sa vs2.length sc) SH (k + 1) w9) := (show betI w.heap.size w7.heap.size w5 (.slice sa vs2.length sc) SH (k + 1) w9 from g4)
            clear g2 g3 g4 h9
            refine take_one (i := 6) rfl (by kernel_rfl) rfl (fun K hK => ?_)
            go_simp
            rw [← hw9]
            refine hK.out _ _ (g1.cell (i := 0) (by omega)) (fun hHeld => ?_)
            clear hK K c8 f8
            try simp only [Act.put, List.setIfInBounds_toArray, List.set_cons_zero, List.set_cons_succ]
            refine wpAnyH_done (by kernel_rfl) ?_ _
            refine Calm.normal ?_
            clear hw9 g1 t1 t5 hHeld
            gi_wp2
            exact ⟨G2.out.trans HDE.out.1, G3.out.trans HDE.out.2, G4.out⟩
          case p2 =>
            intro K hK
            go_simp
            refine Calls.mono X7 ?_
            rintro e wR ⟨rfl, r5, r1, hS⟩
            obtain ⟨wS, hwS⟩ : ∃ wS, wS = wR.alloc (.cells (rowV 32 (arrV (rootS K0))) 29) := ⟨_, rfl⟩
            obtain ⟨s5, s1, aa, am, ac, w8, hr, t5, t1, h9⟩ := hS wS hwS
            clear X7 hS
            refine hK.out _ _ (r1.cell (i := 0) (by omega)) (fun hHeld => ?_)
            clear hK K
            try simp only [Act.put, List.setIfInBounds_toArray, List.set_cons_zero, List.set_cons_succ]
            refine take_pair (i := 0) (j := 4) rfl rfl (by kernel_rfl) rfl rfl ?q4 ?q5
            case q4 =>
              intro K hK
              refine wp_of_run (v := .slice pa pn pc) (w' := wR) ?q6 ?_
              case q6 => (have hcz := r5.cell (i := 0) (by omega); go_simp; first | done | with_reducible rfl)
              refine hK.out _ _ hHeld (fun hHeld => ?_)
              clear hK K
              try simp only [Act.put, List.setIfInBounds_toArray, List.set_cons_zero, List.set_cons_succ]
              refine take_one (i := 4) rfl (by kernel_rfl) rfl (fun K hK => ?_)
              refine wp_of_run (w' := wS) (by rw [hwS]; exact exec_bslice1' 22 1 0 (.tmp 60) _ rfl rfl (build_one (arrV (rootS K0)) wR)) ?_
              refine hK.out _ _ (s1.cell (i := 0) (by omega)) (fun hHeld => ?_)
              clear hK K
              try simp only [Act.put, List.setIfInBounds_toArray, List.set_cons_zero, List.set_cons_succ]
              refine take_one (i := 5) rfl (by kernel_rfl) rfl (fun K hK => ?_)
              refine wp_append_run (.tmp 57) (.tmp 61) _ rfl rfl rfl hr ?_
              refine hK.out _ _ (t1.cell (i := 0) (by omega)) (fun hHeld => ?_)
              clear hK K hr
              try simp only [Act.put, List.setIfInBounds_toArray, List.set_cons_zero, List.set_cons_succ]
              have c8 := t5.cell (i := 0) (by omega)
              have f8 := t5.frozen 0
              obtain ⟨w9, hw9⟩ : ∃ w9, w9 = w8.setCell ⟨w5.heap.size, 0, none⟩ (.slice aa am ac) := ⟨_, rfl⟩
              obtain ⟨g1, g2, g3, g4⟩ := h9 w9 hw9
              have G2 : Hid _ := g2
              have G3 : Hid _ := g3
              have G4 : Hid (betI w.heap.size w7.heap.size w5 (.slice sa vs2.length sc) SH (k + 1) w9) := (show betI w.heap.size w7.heap.size w5 (.slice sa vs2.length sc) SH (k + 1) w9 from g4)
              clear g2 g3 g4 h9
              refine take_one (i := 6) rfl (by kernel_rfl) rfl (fun K hK => ?_)
              go_simp
              rw [← hw9]
              refine hK.out _ _ (g1.cell (i := 0) (by omega)) (fun hHeld => ?_)
              clear hK K c8 f8
              try simp only [Act.put, List.setIfInBounds_toArray, List.set_cons_zero, List.set_cons_succ]
              refine wpAnyH_done (by kernel_rfl) ?_ _
              refine Calm.normal ?_
              clear hw9 g1 t1 t5 hHeld
              gi_wp2
              exact ⟨G2.out.trans HDE.out.1, G3.out.trans HDE.out.2, G4.out⟩
            case q5 =>
              intro K hK
              refine wp_of_run (w' := wS) (by rw [hwS]; exact exec_bslice1' 22 1 0 (.tmp 60) _ rfl rfl (build_one (arrV (rootS K0)) wR)) ?_
              refine hK.out _ _ (s1.cell (i := 0) (by omega)) (fun hHeld => ?_)
              clear hK K
              try simp only [Act.put, List.setIfInBounds_toArray, List.set_cons_zero, List.set_cons_succ]
              refine take_run (i := 0) (v := .slice pa pn pc) (w' := wS) rfl (by kernel_rfl) rfl ?q7 hHeld ?_
              case q7 => (clear hwS; have hcz := s5.cell (i := 0) (by omega); go_simp; first | done | with_reducible rfl)
              try simp only [Act.put, List.setIfInBounds_toArray, List.set_cons_zero, List.set_cons_succ]
              refine take_one (i := 5) rfl (by kernel_rfl) rfl (fun K hK => ?_)
              refine wp_append_run (.tmp 57) (.tmp 61) _ rfl rfl rfl hr ?_
              refine hK.out _ _ (t1.cell (i := 0) (by omega)) (fun hHeld => ?_)
              clear hK K hr
              try simp only [Act.put, List.setIfInBounds_toArray, List.set_cons_zero, List.set_cons_succ]
              have c8 := t5.cell (i := 0) (by omega)
              have f8 := t5.frozen 0
              obtain ⟨w9, hw9⟩ : ∃ w9, w9 = w8.setCell ⟨w5.heap.size, 0, none⟩ (.slice aa am ac) := ⟨_, rfl⟩
              obtain ⟨g1, g2, g3, g4⟩ := h9 w9 hw9
              have G2 : Hid _ := g2
              have G3 : Hid _ := g3
              have G4 : Hid (betI w.heap.size w7.heap.size w5 (.slice sa vs2.length sc) SH (k + 1) w9) := (show betI w.heap.size w7.heap.size w5 (.slice sa vs2.length sc) SH (k + 1) w9 from g4)
              clear g2 g3 g4 h9
              refine take_one (i := 6) rfl (by kernel_rfl) rfl (fun K hK => ?_)
              go_simp
              rw [← hw9]
              refine hK.out _ _ (g1.cell (i := 0) (by omega)) (fun hHeld => ?_)
              clear hK K c8 f8
              try simp only [Act.put, List.setIfInBounds_toArray, List.set_cons_zero, List.set_cons_succ]
              refine wpAnyH_done (by kernel_rfl) ?_ _
              refine Calm.normal ?_
              clear hw9 g1 t1 t5 hHeld
              gi_wp2
              exact ⟨G2.out.trans HDE.out.1, G3.out.trans HDE.out.2, G4.out⟩
        case done =>
          rintro W hP hDd
          obtain ⟨pv, h1, h2, h3, h4, h5, h6⟩ := hP
          have hvl : vs2.zipIdx.reverse.length = SH.reverse.length := by rw [zipRev_len, List.length_reverse]; exact A5.out.1
          rw [hvl, List.take_length, ← EP2.out] at h4
          have c5 := h2.cell (i := 0) (by omega)
          have hz := h5.size
          have hpv : ∃ pa pn pc, pv = .slice pa pn pc := by
            obtain ⟨pa, pc, e, _⟩ := ownsRow_slice h4.2; exact ⟨pa, _, pc, e⟩
          obtain ⟨pa, pn, pc, rfl⟩ := hpv
          have zz := Z7.out
          have z5 := B5.out.size
          have zw := B2.out.size
          have FIN : Hid (newSums (W.putObj w7.heap.size (.deferred none)) w.heap.size (.slice pa pn pc) (gPath L m) ∧ Below w.heap.size w (W.putObj w7.heap.size (.deferred none))) := (show _ ∧ _ from by
            refine ⟨(h4.lower (by omega)).far (fun j hj => putObj_block W _ _ (by have := h4.block j hj; omega)), ?_⟩
            have bW : Below w.heap.size w W := B2.out.trans ((B5.out.mono (by omega)).trans (h5.mono (by omega)))
            exact ⟨bW.os, bW.tape, bW.output, by simp [World.putObj]; exact bW.size, fun j hj => (putObj_block W _ _ (by omega)).trans (bW.block j hj)⟩)
          have DD : Hid _ := hDd
          clear hvl h1 h2 h3 h4 h5 h6 hz zz z5 zw hDd
          go_wp2
          refine bodyPostM_mark rfl DD.out (results_tmp rfl _ _ _) ?_
          exact ⟨.slice pa pn pc, rfl, FIN.out.1, FIN.out.2⟩
      | false =>
        rw [hin] at XI
        have EP2 : Hid (gPath L m = (gDown Y L).reverse.map rootS) := (show gPath L m = (gDown Y L).reverse.map rootS from by rw [EP.out, hin]; simp)
        clear hin EP
        go_wp2_with fail
        refine XI.mono ?_
        rintro e w5 ⟨rfl, b4⟩
        clear XI
        have b5 : Below w2.heap.size w2 w5 := HG5.out.trans (b4.mono HG5.out.size)
        have o5 : owns w5 w2.heap.size 22 sv vs := ownsRow_far HG3.out fun k hk => b4.block k (ownsRow_block HG3.out k hk).2
        obtain ⟨sa, sc, rfl, _⟩ := ownsRow_slice o5
        have A5 : Hid (allS w2 vs (gDown Y L)) := (show allS w2 vs (gDown Y L) from HG4.out)
        have SHL : Hid ((gDown Y L).length ≤ 100) := (show (gDown Y L).length ≤ 100 from by rw [gDown_len]; omega)
        have SHK : Hid (∀ K ∈ gDown Y L, K.length ≤ 1000) := (show ∀ K ∈ gDown Y L, K.length ≤ 1000 from fun K hK => by have := gDown_le Y L K hK; omega)
        generalize gDown Y L = SH at A5 SHL SHK EP2
        have T5 : Hid (tabIs w5) := (show tabIs w5 from HT.out.below (B2.out.trans (b5.mono B2.out.size)) HT.out.1)
        have RK : Hid (w5.rowIs w.heap.size 30 1 (fun _ => .pointer none)) := (show w5.rowIs w.heap.size 30 1 (fun _ => .pointer none) from RK2.out w5 b5)
        have B5 : Hid (Below w2.heap.size w2 w5) := (show Below w2.heap.size w2 w5 from b5)
        have O5 : Hid (owns w5 w2.heap.size 22 (.slice sa vs.length sc) vs) := (show owns w5 w2.heap.size 22 (.slice sa vs.length sc) vs from o5)
        clear o5 b5 HG1 HG3 HG4 HG5 b4 P0
        go_upto_region 13 with fail
        obtain ⟨w6, hw6⟩ : ∃ w6, w6 = w5.alloc (.cells #[.slice none 0 0] 22) := ⟨_, rfl⟩
        obtain ⟨w7, hw7⟩ : ∃ w7, w7 = w6.alloc (.cells #[.slice sa vs.length sc] 49) := ⟨_, rfl⟩
        have z6 : w6.heap.size = w5.heap.size + 1 := by rw [hw6]; simp
        have z7 : w7.heap.size = w5.heap.size + 2 := by rw [hw7]; simp; omega
        have b7 : Below w5.heap.size w5 w7 := by rw [hw7, hw6]; exact (((Below.refl _ _).alloc (Nat.le_refl _) _).alloc (by simp) _)
        have XB := backL_any sa vs.length sc w6
        rw [← hw7] at XB
        have x6 : w7.rowIs w5.heap.size 22 1 (fun _ => .slice none 0 0) := by
          have r := rowIs_one w5 (.slice none 0 0) 22
          rw [← hw6] at r
          rw [hw7]; exact ((Below.refl w6.heap.size w6).alloc (Nat.le_refl _) _).row r (by omega)
        have x7 : w7.rowIs (w5.heap.size + 1) 49 1 (fun _ => .slice sa vs.length sc) := by
          have r := rowIs_one w6 (.slice sa vs.length sc) 49
          rw [z6, ← hw7] at r; exact r
        have P0 : Hid (betI w.heap.size w7.heap.size w5 (.slice sa vs.length sc) SH 0 w7) := (show betI w.heap.size w7.heap.size w5 (.slice sa vs.length sc) SH 0 w7 from
          ⟨_, b7.row RK.out (gRow_lt RK.out), x6, x7, by rw [List.take_zero]; exact newSums.nil _ _, b7, by omega⟩)
        have Z7 : Hid _ := z7
        have Z6 : Hid _ := z6
        have lk := gRow_lt RK.out
        have LK : Hid _ := lk
        have RR : Hid (∀ k W, betI w.heap.size w7.heap.size w5 (.slice sa vs.length sc) SH k W → slsIn w6.heap.size sa sc vs W) := (show ∀ k W, betI w.heap.size w7.heap.size w5 (.slice sa vs.length sc) SH k W → slsIn w6.heap.size sa sc vs W from fun k W h => by
          obtain ⟨pv, _, _, h3, _, h5, _⟩ := h
          refine ⟨?_, fun h0 => ?_⟩
          · rw [z6]; exact h3.cell (i := 0) (by omega)
          · obtain ⟨a', c', e, _, _, hh⟩ := ownsRow_slice O5.out
            obtain ⟨g, ha, hg, _, hc⟩ := hh h0
            have e1 : sa = a' := by injection e
            exact ⟨g, by rw [e1, ha], fun i x hx => (h5.cell (p := ⟨g, i, none⟩) hg).trans (hc i x hx)⟩)
        have HH := backL_hands 2 w6.heap.size sa sc vs w7 (by have := SHL.out; have := A5.out.1; omega) (by
          obtain ⟨a', c', e, hc, _, _⟩ := ownsRow_slice O5.out
          have e1 : sc = c' := by injection e
          omega)
        have HHD : Hid _ := HH
        clear z6 z7 b7 x6 x7 lk HH
        go_wp2_with fail
        rw [← hw6]
        refine XB.mono ?_
        rintro e w' ⟨rfl, hw⟩
        obtain rfl := hw.symm
        clear XB hw hw7 hw6
        go_wp2_with fail
        refine (wpIn_wide (n := 3)).1 ?_
        refine wpIn_range_asg (gf := 38) (lb := #[.pointer (some ⟨w6.heap.size, 0, none⟩)]) (encs := backLV) (ys := vs.zipIdx.reverse) rfl (enters_of Tryd.func38 (by kernel_rfl) rfl) HHD.out (fun _ => rfl)
          (fun k W => betI w.heap.size w7.heap.size w5 (.slice sa vs.length sc) SH k W)
          (fun k W x y h hx => h.keep LK.out Z7.out ⟨rfl, rfl, rfl⟩ (by simp [World.putObj]) (fun j _ h1 h2 => putObj_block W _ _ h2))
          (fun k W h => h.keep LK.out Z7.out ⟨rfl, rfl, rfl⟩ (Nat.le_refl _) (fun j _ _ _ => rfl)) RR.out
          (fun o o' => betI.keep P0.out LK.out Z7.out ⟨rfl, rfl, rfl⟩ (by simp; omega) (fun j hj _ _ => (((Below.refl w7.heap.size w7).alloc (Nat.le_refl _) o).alloc (by simp) o').block j hj))
          (fun y _ => [(55, .int .i64 (y.2 : Int)), (56, y.1), (15, y.1)]) (fun k _ W => betI w.heap.size w7.heap.size w5 (.slice sa vs.length sc) SH k W)
          (fun k _ W x y h hx => h.keep LK.out Z7.out ⟨rfl, rfl, rfl⟩ (by simp [World.putObj]) (fun j _ h1 h2 => putObj_block W _ _ h2)) ?assign ?body ?done
        case assign =>
          intro l k hk W x hI hDd hDl K hK
          have hK0 := hK 0 W rfl rfl hI
          clear hK
          generalize vs.zipIdx.reverse[k] = y at hK0
          simp only [List.foldl_cons, List.foldl_nil, List.setIfInBounds_toArray, List.set_cons_succ, List.set_cons_zero] at hK0
          simp only [backLV, List.zip_toArray, List.zip_cons_cons, List.zip_nil_left, List.zip_nil_right, List.foldl_toArray, List.foldl_cons, List.foldl_nil, List.setIfInBounds_toArray, List.set_cons_succ, List.set_cons_zero]
          gi_wp2
          exact hK0
        case body =>
          rintro l k hk _ W x0 hP hDd hDl
          have hgx := zipRev_get vs k hk
          have hkl : k < vs.length := by rw [zipRev_len] at hk; exact hk
          generalize vs.zipIdx.reverse[k] = y at hgx ⊢
          obtain ⟨u, yi⟩ := y
          obtain ⟨hu, _⟩ := hgx
          simp only at hu
          obtain ⟨hvl, hall⟩ := A5.out
          have hks : SH.length - 1 - k < SH.length := by omega
          have hSg : SH[vs.length - 1 - k]? = some (SH[SH.length - 1 - k]'hks) := by rw [hvl]; exact List.getElem?_eq_getElem hks
          have hSr : SH.reverse[k]? = some (SH[SH.length - 1 - k]'hks) := by rw [List.getElem?_reverse (by omega)]; exact List.getElem?_eq_getElem hks
          have hKm : SH[SH.length - 1 - k]'hks ∈ SH := List.getElem_mem _
          have hK1 := SHK.out _ hKm
          have hSu := hall _ _ _ hu hSg
          generalize SH[SH.length - 1 - k]'hks = K0 at hSg hSr hKm hK1 hSu
          obtain ⟨pv, h1, h2, h3, h4, h5, h6⟩ := hP
          have hpv : ∃ pa pn pc, pv = .slice pa pn pc := by
            obtain ⟨pa, pc, e, _⟩ := ownsRow_slice h4.2; exact ⟨pa, _, pc, e⟩
          obtain ⟨pa, pn, pc, rfl⟩ := hpv
          have hD : w7.heap.size + 1 < W.heap.size := (Array.getElem?_eq_some_iff.1 hDl).1
          obtain ⟨wd, hwd⟩ : ∃ wd, wd = W.drew := ⟨_, rfl⟩
          have hSW : sumsAt wd u K0 := by rw [hwd]; exact hSu.below ((B5.out.trans (h5.mono B5.out.size)).drew) (Nat.le_refl _)
          have X7 := betI.step (kb := w.heap.size) (sv := .slice sa vs.length sc) (W := wd) LK.out Z7.out T5.out SHL.out (by rw [hwd]; exact h1) (by rw [hwd]; exact h2) (by rw [hwd]; exact h3) (by rw [hwd]; exact h4) (by rw [hwd]; exact h5.drew) (by rw [hwd]; exact hD) hSr hSW hK1
          have c1 := h1.cell (i := 0) (by omega)
          have c5 := (World.rowIs.of_block (w' := wd) h2 (by rw [hwd]; rfl)).cell (i := 0) (by omega)
          have hDe : wd.heap[w7.heap.size]? = W.heap[w7.heap.size]? ∧ wd.heap[w7.heap.size + 1]? = W.heap[w7.heap.size + 1]? := by rw [hwd]; exact ⟨rfl, rfl⟩
          have HDE : Hid _ := hDe
          have HWD : Hid _ := hwd
          have C1 : Hid _ := c1
          have C5 : Hid _ := c5
          clear hkl hu hvl hall hks hSg hSr hKm hK1 hSu h1 h2 h3 h4 h5 h6 hD hwd hSW c1 c5 hDe hDd hDl
          simp only [List.foldl_cons, List.foldl_nil, List.setIfInBounds_toArray, List.set_cons_succ, List.set_cons_zero]
          gi_wp2_with fail
          refine wpIn_region_round (S := fun w' => w'.cell? ⟨w.heap.size, 0, none⟩ = some (.pointer none)) (by kernel_rfl) (by kernel_rfl) C1.out (fun hHeld => ?_)
          rw [← HWD.out] at hHeld ⊢
          refine take_op (i := 1) (v := ?vfp1) rfl (by kernel_rfl) (by kernel_rfl) (by kernel_rfl) (fun _ _ _ h => h) rfl hHeld ?yfp1 ?rfp1
          case yfp1 => (intro wz hz; go_simp; first | done | with_reducible rfl)
          try simp only [Act.put, List.setIfInBounds_toArray, List.set_cons_zero, List.set_cons_succ]
          refine take_op (i := 2) (v := ?vfp2) rfl (by kernel_rfl) (by kernel_rfl) (by kernel_rfl) (fun _ _ _ h => h) rfl hHeld ?yfp2 ?rfp2
          case yfp2 => (intro wz hz; go_simp; first | done | with_reducible rfl)
          try simp only [Act.put, List.setIfInBounds_toArray, List.set_cons_zero, List.set_cons_succ]
          refine take_pair (i := 0) (j := 3) rfl rfl (by kernel_rfl) rfl rfl ?fp1 ?fp2
          case fp1 =>
            intro K hK
            refine wp_of_run (v := .slice pa pn pc) (w' := wd) ?fp3 ?_
            case fp3 => (have hcz := C5.out; go_simp; first | done | with_reducible rfl)
            refine hK.out _ _ hHeld (fun hHeld => ?_)
            clear hK K
            try simp only [Act.put, List.setIfInBounds_toArray, List.set_cons_zero, List.set_cons_succ]
            refine take_one (i := 3) rfl (by kernel_rfl) rfl (fun K hK => ?_)
            go_simp
            refine Calls.mono X7 ?_
            rintro e wR ⟨rfl, r5, r1, hS⟩
            obtain ⟨wS, hwS⟩ : ∃ wS, wS = wR.alloc (.cells (rowV 32 (arrV (rootS K0))) 29) := ⟨_, rfl⟩
            obtain ⟨s5, s1, aa, am, ac, w8, hr, t5, t1, h9⟩ := hS wS hwS
            clear X7 hS
            refine hK.out _ _ (r1.cell (i := 0) (by omega)) (fun hHeld => ?_)
            clear hK K
            try simp only [Act.put, List.setIfInBounds_toArray, List.set_cons_zero, List.set_cons_succ]
            refine take_one (i := 4) rfl (by kernel_rfl) rfl (fun K hK => ?_)
            refine wp_of_run (w' := wS) (by rw [hwS]; exact exec_bslice1' 22 1 0 (.tmp 60) _ rfl rfl (build_one (arrV (rootS K0)) wR)) ?_
            refine hK.out _ _ (s1.cell (i := 0) (by omega)) (fun hHeld => ?_)
            clear hK K
            try simp only [Act.put, List.setIfInBounds_toArray, List.set_cons_zero, List.set_cons_succ]
            refine take_one (i := 5) rfl (by kernel_rfl) rfl (fun K hK => ?_)
            refine wp_append_run (.tmp 57) (.tmp 61) _ rfl rfl rfl hr ?_
            refine hK.out _ _ (t1.cell (i := 0) (by omega)) (fun hHeld => ?_)
            clear hK K hr
            try simp only [Act.put, List.setIfInBounds_toArray, List.set_cons_zero, List.set_cons_succ]
            have c8 := t5.cell (i := 0) (by omega)
            have f8 := t5.frozen 0
            obtain ⟨w9, hw9⟩ : ∃ w9, w9 = w8.setCell ⟨w5.heap.size, 0, none⟩ (.slice aa am ac) := ⟨_, rfl⟩
            obtain ⟨g1, g2, g3, g4⟩ := h9 w9 hw9
            have G2 : Hid _ := g2
            have G3 : Hid _ := g3
            have G4 : Hid (betI w.heap.size w7.heap.size w5 (.slice sa vs.length sc) SH (k + 1) w9) := (show betI w.heap.size w7.heap.size w5 (.slice sa vs.length sc) SH (k + 1) w9 from g4)
            clear g2 g3 g4 h9
            refine take_one (i := 6) rfl (by kernel_rfl) rfl (fun K hK => ?_)
            go_simp
            rw [← hw9]
            refine hK.out _ _ (g1.cell (i := 0) (by omega)) (fun hHeld => ?_)
            clear hK K c8 f8
            try simp only [Act.put, List.setIfInBounds_toArray, List.set_cons_zero, List.set_cons_succ]
            refine wpAnyH_done (by kernel_rfl) ?_ _
            refine Calm.normal ?_
            clear hw9 g1 t1 t5 hHeld
            gi_wp2
            exact ⟨G2.out.trans HDE.out.1, G3.out.trans HDE.out.2, G4.out⟩
          case fp2 =>
            intro K hK
            go_simp
            refine Calls.mono X7 ?_
            rintro e wR ⟨rfl, r5, r1, hS⟩
            obtain ⟨wS, hwS⟩ : ∃ wS, wS = wR.alloc (.cells (rowV 32 (arrV (rootS K0))) 29) := ⟨_, rfl⟩
            obtain ⟨s5, s1, aa, am, ac, w8, hr, t5, t1, h9⟩ := hS wS hwS
            clear X7 hS
            refine hK.out _ _ (r1.cell (i := 0) (by omega)) (fun hHeld => ?_)
            clear hK K
            try simp only [Act.put, List.setIfInBounds_toArray, List.set_cons_zero, List.set_cons_succ]
            refine take_pair (i := 0) (j := 4) rfl rfl (by kernel_rfl) rfl rfl ?fq4 ?fq5
            case fq4 =>
              intro K hK
              refine wp_of_run (v := .slice pa pn pc) (w' := wR) ?fq6 ?_
              case fq6 => (have hcz := r5.cell (i := 0) (by omega); go_simp; first | done | with_reducible rfl)
              refine hK.out _ _ hHeld (fun hHeld => ?_)
              clear hK K
              try simp only [Act.put, List.setIfInBounds_toArray, List.set_cons_zero, List.set_cons_succ]
              refine take_one (i := 4) rfl (by kernel_rfl) rfl (fun K hK => ?_)
              refine wp_of_run (w' := wS) (by rw [hwS]; exact exec_bslice1' 22 1 0 (.tmp 60) _ rfl rfl (build_one (arrV (rootS K0)) wR)) ?_
              refine hK.out _ _ (s1.cell (i := 0) (by omega)) (fun hHeld => ?_)
              clear hK K
              try simp only [Act.put, List.setIfInBounds_toArray, List.set_cons_zero, List.set_cons_succ]
              refine take_one (i := 5) rfl (by kernel_rfl) rfl (fun K hK => ?_)
              refine wp_append_run (.tmp 57) (.tmp 61) _ rfl rfl rfl hr ?_
              refine hK.out _ _ (t1.cell (i := 0) (by omega)) (fun hHeld => ?_)
              clear hK K hr
              try simp only [Act.put, List.setIfInBounds_toArray, List.set_cons_zero, List.set_cons_succ]
              have c8 := t5.cell (i := 0) (by omega)
              have f8 := t5.frozen 0
              obtain ⟨w9, hw9⟩ : ∃ w9, w9 = w8.setCell ⟨w5.heap.size, 0, none⟩ (.slice aa am ac) := ⟨_, rfl⟩
              obtain ⟨g1, g2, g3, g4⟩ := h9 w9 hw9
              have G2 : Hid _ := g2
              have G3 : Hid _ := g3
              have G4 : Hid (betI w.heap.size w7.heap.size w5 (.slice sa vs.length sc) SH (k + 1) w9) := (show betI w.heap.size w7.heap.size w5 (.slice sa vs.length sc) SH (k + 1) w9 from g4)
              clear g2 g3 g4 h9
              refine take_one (i := 6) rfl (by kernel_rfl) rfl (fun K hK => ?_)
              go_simp
              rw [← hw9]
              refine hK.out _ _ (g1.cell (i := 0) (by omega)) (fun hHeld => ?_)
              clear hK K c8 f8
              try simp only [Act.put, List.setIfInBounds_toArray, List.set_cons_zero, List.set_cons_succ]
              refine wpAnyH_done (by kernel_rfl) ?_ _
              refine Calm.normal ?_
              clear hw9 g1 t1 t5 hHeld
              gi_wp2
              exact ⟨G2.out.trans HDE.out.1, G3.out.trans HDE.out.2, G4.out⟩
            case fq5 =>
              intro K hK
              refine wp_of_run (w' := wS) (by rw [hwS]; exact exec_bslice1' 22 1 0 (.tmp 60) _ rfl rfl (build_one (arrV (rootS K0)) wR)) ?_
              refine hK.out _ _ (s1.cell (i := 0) (by omega)) (fun hHeld => ?_)
              clear hK K
              try simp only [Act.put, List.setIfInBounds_toArray, List.set_cons_zero, List.set_cons_succ]
              refine take_run (i := 0) (v := .slice pa pn pc) (w' := wS) rfl (by kernel_rfl) rfl ?fq7 hHeld ?_
              case fq7 => (clear hwS; have hcz := s5.cell (i := 0) (by omega); go_simp; first | done | with_reducible rfl)
              try simp only [Act.put, List.setIfInBounds_toArray, List.set_cons_zero, List.set_cons_succ]
              refine take_one (i := 5) rfl (by kernel_rfl) rfl (fun K hK => ?_)
              refine wp_append_run (.tmp 57) (.tmp 61) _ rfl rfl rfl hr ?_
              refine hK.out _ _ (t1.cell (i := 0) (by omega)) (fun hHeld => ?_)
              clear hK K hr
              try simp only [Act.put, List.setIfInBounds_toArray, List.set_cons_zero, List.set_cons_succ]
              have c8 := t5.cell (i := 0) (by omega)
              have f8 := t5.frozen 0
              obtain ⟨w9, hw9⟩ : ∃ w9, w9 = w8.setCell ⟨w5.heap.size, 0, none⟩ (.slice aa am ac) := ⟨_, rfl⟩
              obtain ⟨g1, g2, g3, g4⟩ := h9 w9 hw9
              have G2 : Hid _ := g2
              have G3 : Hid _ := g3
              have G4 : Hid (betI w.heap.size w7.heap.size w5 (.slice sa vs.length sc) SH (k + 1) w9) := (show betI w.heap.size w7.heap.size w5 (.slice sa vs.length sc) SH (k + 1) w9 from g4)
              clear g2 g3 g4 h9
              refine take_one (i := 6) rfl (by kernel_rfl) rfl (fun K hK => ?_)
              go_simp
              rw [← hw9]
              refine hK.out _ _ (g1.cell (i := 0) (by omega)) (fun hHeld => ?_)
              clear hK K c8 f8
              try simp only [Act.put, List.setIfInBounds_toArray, List.set_cons_zero, List.set_cons_succ]
              refine wpAnyH_done (by kernel_rfl) ?_ _
              refine Calm.normal ?_
              clear hw9 g1 t1 t5 hHeld
              gi_wp2
              exact ⟨G2.out.trans HDE.out.1, G3.out.trans HDE.out.2, G4.out⟩
        case done =>
          rintro W hP hDd
          obtain ⟨pv, h1, h2, h3, h4, h5, h6⟩ := hP
          have hvl : vs.zipIdx.reverse.length = SH.reverse.length := by rw [zipRev_len, List.length_reverse]; exact A5.out.1
          rw [hvl, List.take_length, ← EP2.out] at h4
          have c5 := h2.cell (i := 0) (by omega)
          have hz := h5.size
          have hpv : ∃ pa pn pc, pv = .slice pa pn pc := by
            obtain ⟨pa, pc, e, _⟩ := ownsRow_slice h4.2; exact ⟨pa, _, pc, e⟩
          obtain ⟨pa, pn, pc, rfl⟩ := hpv
          have zz := Z7.out
          have z5 := B5.out.size
          have zw := B2.out.size
          have FIN : Hid (newSums (W.putObj w7.heap.size (.deferred none)) w.heap.size (.slice pa pn pc) (gPath L m) ∧ Below w.heap.size w (W.putObj w7.heap.size (.deferred none))) := (show _ ∧ _ from by
            refine ⟨(h4.lower (by omega)).far (fun j hj => putObj_block W _ _ (by have := h4.block j hj; omega)), ?_⟩
            have bW : Below w.heap.size w W := B2.out.trans ((B5.out.mono (by omega)).trans (h5.mono (by omega)))
            exact ⟨bW.os, bW.tape, bW.output, by simp [World.putObj]; exact bW.size, fun j hj => (putObj_block W _ _ (by omega)).trans (bW.block j hj)⟩)
          have DD : Hid _ := hDd
          clear hvl h1 h2 h3 h4 h5 h6 hz zz z5 zw hDd
          go_wp2
          refine bodyPostM_mark rfl DD.out (results_tmp rfl _ _ _) ?_
          exact ⟨.slice pa pn pc, rfl, FIN.out.1, FIN.out.2⟩
end Go.Proofs.YthpnenblmkdmcaaDoor

/- The chapter's examples: five leaves. -/
namespace Go.Proofs.YthpnenblmkdmcaaDoor
set_option linter.unusedSimpArgs false
set_option linter.unusedVariables false
open Go.RowKit Go.Deep

def lf (k : Int) : List Int := k :: List.replicate 31 0
theorem lf_sum {k : Int} (h : 0 ≤ k ∧ k ≤ 255) : isSum (lf k) := ⟨rfl, fun i => by
  unfold lf
  cases i with
  | zero => exact h
  | succ j =>
    rw [List.getD_cons_succ, List.getD_eq_getElem?_getD, List.getElem?_replicate]
    split <;> simp⟩
def five : List (List Int) := [lf 1, lf 2, lf 3, lf 4, lf 5]
theorem five_sum : ∀ x ∈ five, isSum x := by
  intro x hx
  simp only [five, List.mem_cons, List.not_mem_nil, or_false] at hx
  rcases hx with rfl | rfl | rfl | rfl | rfl <;> exact lf_sum (by omega)
theorem gI_five : gI 3 5 = [(4, true), (2, false), (1, true)] ∧ gI 4 5 = [(4, true)] ∧ gI 5 5 = [] ∧ gI 0 5 = [] := by decide +kernel
theorem gSteps_five : gSteps 3 5 = 4 ∧ gSteps 4 5 = 1 ∧ gSteps 5 5 = 0 ∧ gSteps 0 5 = 0 := by
  unfold gSteps
  rw [gI_five.1, gI_five.2.1, gI_five.2.2.1, gI_five.2.2.2]
  decide
theorem gPath_five : gPath five 3 = [lf 3, lf 4, rootS [lf 1, lf 2], lf 5] ∧ gPath five 4 = [lf 5] := by
  unfold gPath gShown
  rw [show ((five.length : Nat) : Int) = 5 from rfl, gI_five.1, gI_five.2.1]
  constructor
  · simp [gIn, gDown, gKeptF, gKept, gOther, five, rootS_one]
  · simp [gIn, gDown, gOther, five, rootS_one]
set_option maxRecDepth 1000000 in
theorem kn1 : nodeS [lf 1, lf 2] = [88, 237, 81, 123, 239, 100, 254, 12, 94, 25, 116, 60, 221, 77, 114, 235, 232, 233, 199, 80, 85, 162, 253, 60, 201, 145, 109, 15, 100, 18, 80, 30] := by kernel_rfl
set_option maxRecDepth 1000000 in
theorem kn2 : nodeS [lf 3, lf 4] = [192, 26, 65, 7, 210, 184, 126, 179, 202, 49, 47, 244, 174, 158, 102, 23, 232, 95, 15, 183, 136, 145, 177, 200, 194, 73, 110, 198, 165, 4, 154, 104] := by kernel_rfl
set_option maxRecDepth 1000000 in
theorem kn3 : nodeS [[88, 237, 81, 123, 239, 100, 254, 12, 94, 25, 116, 60, 221, 77, 114, 235, 232, 233, 199, 80, 85, 162, 253, 60, 201, 145, 109, 15, 100, 18, 80, 30], [192, 26, 65, 7, 210, 184, 126, 179, 202, 49, 47, 244, 174, 158, 102, 23, 232, 95, 15, 183, 136, 145, 177, 200, 194, 73, 110, 198, 165, 4, 154, 104]] = [18, 130, 185, 139, 42, 70, 135, 157, 229, 39, 21, 37, 20, 87, 54, 187, 201, 225, 138, 252, 48, 159, 38, 169, 166, 67, 232, 39, 64, 69, 64, 13] := by kernel_rfl
set_option maxRecDepth 1000000 in
theorem kn4 : nodeS [[18, 130, 185, 139, 42, 70, 135, 157, 229, 39, 21, 37, 20, 87, 54, 187, 201, 225, 138, 252, 48, 159, 38, 169, 166, 67, 232, 39, 64, 69, 64, 13], lf 5] = [0, 249, 67, 132, 41, 198, 54, 240, 58, 233, 196, 226, 142, 71, 110, 35, 117, 35, 172, 196, 194, 75, 210, 160, 234, 39, 163, 120, 150, 22, 177, 134] := by kernel_rfl
set_option maxRecDepth 1000000 in
theorem kn5 : nodeS [[0, 249, 67, 132, 41, 198, 54, 240, 58, 233, 196, 226, 142, 71, 110, 35, 117, 35, 172, 196, 194, 75, 210, 160, 234, 39, 163, 120, 150, 22, 177, 134], lf 5] = [118, 181, 139, 240, 43, 17, 250, 46, 232, 121, 119, 210, 168, 141, 24, 120, 130, 36, 114, 16, 3, 240, 100, 145, 10, 145, 121, 130, 151, 56, 43, 28] := by kernel_rfl
def R4 : List Int := rootS [lf 1, lf 2, lf 3, lf 4]
def R5 : List Int := rootS five
theorem half_54 : halfN 5 = 4 ∧ halfN 4 = 2 ∧ halfN 2 = 1 := by decide +kernel
theorem R5_is : R5 = nodeS [R4, lf 5] := by
  unfold R5 R4
  rw [rootS_more (by simp [five]), show five.length = 5 from rfl, half_54.1]
  simp [five, rootS_one]
theorem R4_val : R4 = [18, 130, 185, 139, 42, 70, 135, 157, 229, 39, 21, 37, 20, 87, 54, 187, 201, 225, 138, 252, 48, 159, 38, 169, 166, 67, 232, 39, 64, 69, 64, 13] := by
  unfold R4
  rw [rootS_more (by simp), show ([lf 1, lf 2, lf 3, lf 4] : List (List Int)).length = 4 from rfl, half_54.2.1]
  simp only [List.take_succ_cons, List.take_zero, List.drop_succ_cons, List.drop_zero]
  rw [rootS_more (L := [lf 1, lf 2]) (by simp), rootS_more (L := [lf 3, lf 4]) (by simp), show ([lf 1, lf 2] : List (List Int)).length = 2 from rfl, show ([lf 3, lf 4] : List (List Int)).length = 2 from rfl, half_54.2.2]
  simp only [List.take_succ_cons, List.take_zero, List.drop_succ_cons, List.drop_zero, rootS_one (L := [lf 1]) rfl, rootS_one (L := [lf 2]) rfl, rootS_one (L := [lf 3]) rfl, rootS_one (L := [lf 4]) rfl, List.getD_cons_zero]
  rw [kn1, kn2, kn3]
theorem R5_other : nodeS [R5, lf 5] ≠ R5 := by
  have h : R5 = [0, 249, 67, 132, 41, 198, 54, 240, 58, 233, 196, 226, 142, 71, 110, 35, 117, 35, 172, 196, 194, 75, 210, 160, 234, 39, 163, 120, 150, 22, 177, 134] := by rw [R5_is, R4_val, kn4]
  rw [h, kn5]
  decide
theorem no_five : extNo 4 5 1 = false ∧ extNo 0 5 0 = false ∧ extNo 6 5 0 = true := by
  unfold extNo
  rw [gSteps_five.2.1, gSteps_five.2.2.2]
  decide
theorem tell_five (o : List Int) : gTell (gI 4 5) o [lf 5] = (o, nodeS [o, lf 5]) := by
  rw [gI_five.2.1]; rfl
theorem ext_five : extR 4 5 R4 R5 [lf 5] = true ∧ extR 4 5 R5 R5 [lf 5] = false ∧ extR 0 5 (rootS []) R5 [] = true ∧ extR 6 5 R4 R5 [] = false := by
  have h1 : extNo 4 5 ([lf 5] : List (List Int)).length = false := no_five.1
  have h2 : extNo 0 5 ([] : List (List Int)).length = false := no_five.2.1
  have h3 : extNo 6 5 ([] : List (List Int)).length = true := no_five.2.2
  refine ⟨?_, ?_, ?_, ?_⟩
  · unfold extR; rw [if_neg (by rw [h1]; simp), if_neg (by omega), if_neg (by omega), tell_five, ← R5_is]; simp
  · unfold extR; rw [if_neg (by rw [h1]; simp), if_neg (by omega), if_neg (by omega), tell_five]; simp only; rw [decide_eq_false R5_other]; simp
  · unfold extR; rw [if_neg (by rw [h2]; simp), if_neg (by omega), if_pos rfl]; simp
  · unfold extR; rw [if_pos h3]
end Go.Proofs.YthpnenblmkdmcaaDoor

/- The chapter's examples, walked. -/
namespace Go.Proofs.YthpnenblmkdmcaaDoor
set_option linter.unusedSimpArgs false
set_option linter.unusedVariables false
open Go.RowKit Go.Deep

theorem exec_build1G {P : Program} {o : Oper} {ev : Operand → Value} {w w' : World} {v : Value} (t : TypeId) (i : Nat) (x : Operand) (a : Value) (ho : o.op = .build t #[(i, x)]) (hx : ev x = a)
    (hr : (Instr.build t #[(i, a)]).run P w = .ok v w') : (execOp ev o).run P w = .ok (.value v) w' := by
  unfold execOp
  simp only [ho, List.map_toArray, List.map_cons, List.map_nil, hx, Sem.run_bind, hr, Result.andThen_ok, Sem.run_pure]
theorem exec_bslice5 {P : Program} {o : Oper} {ev : Operand → Value} {w w' : World} {v : Value} (t : TypeId) (n : Nat) (x0 x1 x2 x3 x4 : Operand) (a0 a1 a2 a3 a4 : Value) (ho : o.op = .buildSlice t n #[(0, x0), (1, x1), (2, x2), (3, x3), (4, x4)]) (h0 : ev x0 = a0) (h1 : ev x1 = a1) (h2 : ev x2 = a2) (h3 : ev x3 = a3) (h4 : ev x4 = a4)
    (hr : (Instr.buildSlice t n #[(0, a0), (1, a1), (2, a2), (3, a3), (4, a4)]).run P w = .ok v w') : (execOp ev o).run P w = .ok (.value v) w' := by
  unfold execOp
  simp only [ho, List.map_toArray, List.map_cons, List.map_nil, h0, h1, h2, h3, h4, Sem.run_bind, hr, Result.andThen_ok, Sem.run_pure]
theorem bl1 (w : World) : (Instr.build 29 #[(0, .int .u8 1)]).run Tryd.prog w = .ok (.agg (rowV 32 (arrV (lf 1)))) w := by kernel_rfl
theorem bl2 (w : World) : (Instr.build 29 #[(0, .int .u8 2)]).run Tryd.prog w = .ok (.agg (rowV 32 (arrV (lf 2)))) w := by kernel_rfl
theorem bl3 (w : World) : (Instr.build 29 #[(0, .int .u8 3)]).run Tryd.prog w = .ok (.agg (rowV 32 (arrV (lf 3)))) w := by kernel_rfl
theorem bl4 (w : World) : (Instr.build 29 #[(0, .int .u8 4)]).run Tryd.prog w = .ok (.agg (rowV 32 (arrV (lf 4)))) w := by kernel_rfl
theorem bl5 (w : World) : (Instr.build 29 #[(0, .int .u8 5)]).run Tryd.prog w = .ok (.agg (rowV 32 (arrV (lf 5)))) w := by kernel_rfl
theorem bs5 (w : World) : (Instr.buildSlice 22 5 #[(0, .agg (rowV 32 (arrV (lf 1)))), (1, .agg (rowV 32 (arrV (lf 2)))), (2, .agg (rowV 32 (arrV (lf 3)))), (3, .agg (rowV 32 (arrV (lf 4)))), (4, .agg (rowV 32 (arrV (lf 5))))]).run Tryd.prog w = .ok (.slice (some ⟨w.heap.size, 0, none⟩) 5 5) (w.alloc (.cells (rowV 160 (fun j => arrV (five.getD (j / 32) []) (j % 32))) 29)) := by
  show (_ : Result Value) = _
  kernel_rfl
set_option maxRecDepth 100000 in
theorem five_any (w : World) : Calls Tryd.prog 20 #[] w fun e w' => ∃ b, e = .returned (.slice (some ⟨b, 0, none⟩) 5 5) ∧ sumsAt w' (.slice (some ⟨b, 0, none⟩) 5 5) five ∧ b < w'.heap.size ∧ w.heap.size ≤ b ∧ Below w.heap.size w w' := by
  obtain ⟨w1, hw1⟩ : ∃ w1, w1 = w.alloc (.cells (rowV 160 (fun j => arrV (five.getD (j / 32) []) (j % 32))) 29) := ⟨_, rfl⟩
  have b1 : Below w.heap.size w w1 := by rw [hw1]; exact (Below.refl _ _).alloc (Nat.le_refl _) _
  have r1 : w1.rowIs w.heap.size 29 160 (fun j => arrV (five.getD (j / 32) []) (j % 32)) := by rw [hw1]; exact rowIs_box w _ _ _
  have h1 : sumsAt w1 (.slice (some ⟨w.heap.size, 0, none⟩) 5 5) five := by
    refine ⟨five_sum, _, 5, rfl, Nat.le_refl _, by unfold maxLen; omega, fun _ => ⟨w.heap.size, 0, rfl, gRow_lt r1, fun i hi j hj => ?_⟩⟩
    have hi5 : i < 5 := hi
    rw [show 0 + i * 32 + j = i * 32 + j by omega, r1.cell (by omega), show (i * 32 + j) / 32 = i by omega, show (i * 32 + j) % 32 = j by omega, List.getD_eq_getElem?_getD, List.getElem?_eq_getElem hi]; rfl
  have FIN : Hid (∃ b, Ending.returned (.slice (some ⟨w.heap.size, 0, none⟩) 5 5) = .returned (.slice (some ⟨b, 0, none⟩) 5 5) ∧ sumsAt w1 (.slice (some ⟨b, 0, none⟩) 5 5) five ∧ b < w1.heap.size ∧ w.heap.size ≤ b ∧ Below w.heap.size w w1) := (show ∃ b, Ending.returned (.slice (some ⟨w.heap.size, 0, none⟩) 5 5) = .returned (.slice (some ⟨b, 0, none⟩) 5 5) ∧ _ from ⟨w.heap.size, rfl, h1, gRow_lt r1, Nat.le_refl _, b1⟩)
  clear b1 r1 h1
  go_enter Tryd.func20, Tryd.ntmps20
  go_upto_region 1 with fail
  refine wp_region_lit ?_
  refine wpList_runG (v := .agg (rowV 32 (arrV (lf 1)))) (w' := w) rfl (exec_build1G 29 0 _ _ rfl rfl (bl1 w)) ?_
  try simp only [Act.put, List.setIfInBounds_toArray, List.set_cons_zero, List.set_cons_succ]
  refine wpList_runG (v := .agg (rowV 32 (arrV (lf 2)))) (w' := w) rfl (exec_build1G 29 0 _ _ rfl rfl (bl2 w)) ?_
  try simp only [Act.put, List.setIfInBounds_toArray, List.set_cons_zero, List.set_cons_succ]
  refine wpList_runG (v := .agg (rowV 32 (arrV (lf 3)))) (w' := w) rfl (exec_build1G 29 0 _ _ rfl rfl (bl3 w)) ?_
  try simp only [Act.put, List.setIfInBounds_toArray, List.set_cons_zero, List.set_cons_succ]
  refine wpList_runG (v := .agg (rowV 32 (arrV (lf 4)))) (w' := w) rfl (exec_build1G 29 0 _ _ rfl rfl (bl4 w)) ?_
  try simp only [Act.put, List.setIfInBounds_toArray, List.set_cons_zero, List.set_cons_succ]
  refine wpList_runG (v := .agg (rowV 32 (arrV (lf 5)))) (w' := w) rfl (exec_build1G 29 0 _ _ rfl rfl (bl5 w)) ?_
  try simp only [Act.put, List.setIfInBounds_toArray, List.set_cons_zero, List.set_cons_succ]
  refine wpList_runG (v := .slice (some ⟨w.heap.size, 0, none⟩) 5 5) (w' := w1) rfl (by rw [hw1]; exact exec_bslice5 22 5 _ _ _ _ _ _ _ _ _ _ rfl rfl rfl rfl rfl rfl (bs5 w)) ?_
  try simp only [Act.put, List.setIfInBounds_toArray, List.set_cons_zero, List.set_cons_succ]
  clear hw1
  go_wp2
  go_ret
  obtain ⟨b, e1, h⟩ := FIN.out
  exact ⟨b, e1, h⟩
theorem al32 (w : World) : (Instr.alloc 29 true (.tuple #[])).run Tryd.prog w = .ok (.pointer (some ⟨w.heap.size, 0, none⟩)) (w.alloc (.cells (rowV 32 (fun _ => .int .u8 0)) 29)) := by
  show (_ : Result Value) = _
  kernel_rfl
theorem exec_allocG {o : Oper} {ev : Operand → Value} (ho : o.op = .alloc 29) (w : World) :
    (execOp ev o).run Tryd.prog w = .ok (.value (.pointer (some ⟨w.heap.size, 0, none⟩))) (w.alloc (.cells (rowV 32 (fun _ => .int .u8 0)) 29)) := by
  unfold execOp
  simp only [ho, Sem.run_bind, al32, Result.andThen_ok, Sem.run_pure]
theorem take_threeG {P : Program} {md : Region.Mode} {l : List Oper} {Q : Exit → Act → World → Prop} {S : World → Prop} {i j k : Nat} {oi oj ok : Oper} {fuel : Nat} {listed : Array Bool} {a : Act} {w : World} (hi : l[i]? = some oi) (hj : l[j]? = some oj) (hk : l[k]? = some ok) (hr : Region.ready md l.toArray listed = [i, j, k])
    (hw : Region.wanted oi (yielded l.toArray a.tmps) = true) (hv : Region.wanted oj (yielded l.toArray a.tmps) = true) (hu : Region.wanted ok (yielded l.toArray a.tmps) = true)
    (h1 : ∀ K' : Act → World → Prop, Shut (∀ a w, S w → (S w → wpAnyH P md l.toArray Q S fuel (listed.setIfInBounds i true) a w) → K' a w) → Oper.wp P oi a w K' Q)
    (h2 : ∀ K' : Act → World → Prop, Shut (∀ a w, S w → (S w → wpAnyH P md l.toArray Q S fuel (listed.setIfInBounds j true) a w) → K' a w) → Oper.wp P oj a w K' Q)
    (h3 : ∀ K' : Act → World → Prop, Shut (∀ a w, S w → (S w → wpAnyH P md l.toArray Q S fuel (listed.setIfInBounds k true) a w) → K' a w) → Oper.wp P ok a w K' Q) : wpAnyH P md l.toArray Q S (fuel + 1) listed a w :=
  wpAnyH_ready hr (by simp) (AllReadyH.cons ((list_toArray_get l i).trans hi) (fun K' hK => by rw [if_pos hw]; exact h1 K' hK)
    (AllReadyH.cons ((list_toArray_get l j).trans hj) (fun K' hK => by rw [if_pos hv]; exact h2 K' hK) (AllReadyH.cons ((list_toArray_get l k).trans hk) (fun K' hK => by rw [if_pos hu]; exact h3 K' hK) AllReadyH.nil)))
end Go.Proofs.YthpnenblmkdmcaaDoor
