import Derived.ProofKit
import Derived.OpenShut
import Derived.Test.YtdjfdcaolkladaaDoorRows
import Derived.ChangeSlices
import Derived.Deep.Slices
import Derived.Deep.Strs
import Derived.Test.YtdjfdcaolkladaaDoorCards
import Derived.Deep.DeepHandedRow
import Derived.Lib.LaidTab
import Derived.Test.YtdjfdcaolkladaaDoorOwn1
import Derived.Test.YtdjfdcaolkladaaDoorOwn3
import Derived.Test.YtdjfdcaolkladaaDoorOwn4
import Derived.Test.YtdjfdcaolkladaaDoorOwn5
import Derived.Test.YtdjfdcaolkladaaDoorOwn9
set_option linter.unusedVariables false
set_option linter.unusedSimpArgs false
/- Two rows of sums: the document's Same. -/
namespace Go.Proofs.YtdjfdcaolkladaaDoor
set_option linter.unusedSimpArgs false
set_option linter.unusedVariables false
open Go.RowKit Go.Deep

set_option maxHeartbeats 2000000 in
set_option maxRecDepth 100000 in
theorem rsame_any (A B : List (List Int)) (v u : Value) (w : World) (hA : sumsAt w v A) (hB : sumsAt w u B) (hm : A.length ≤ 100000) :
    Calls Tryd.prog 11 #[v, u] w fun e w' => e = .returned (.bool (decide (A = B))) ∧ Below w.heap.size w w' := by
  obtain ⟨sA, a, ac, rfl, ha, ham, cA⟩ := hA
  obtain ⟨sB, b, bc, rfl, hb, hbm, cB⟩ := hB
  have q0 : (A.length : Int) ≤ 100000 := by omega
  by_cases hl : A.length = B.length
  · have CA : Hid _ := cA
    have CB : Hid _ := cB
    have SA : Hid _ := sA
    have SB : Hid _ := sB
    obtain ⟨n, hn⟩ : ∃ n, n = A.length := ⟨_, rfl⟩
    have HN : Hid (n = A.length ∧ A.length = B.length) := (show n = A.length ∧ A.length = B.length from ⟨hn, hl⟩)
    rw [← hl, ← hn]
    rw [← hn] at q0
    clear cA cB sA sB ham hbm ha hb hl hn
    go_enter Tryd.func11, Tryd.ntmps11
    go_wp2
    go_loopw [5] (fun i wr => ∃ k : Nat, k ≤ n ∧ i = .int .i64 k ∧ (∀ j, j < k → A[j]? = B[j]?) ∧ Below w.heap.size w wr) (fun i _ => n - (intOf i).toNat)
    case atStart => exact ⟨0, by omega, rfl, fun j hj => by omega, Below.refl _ _⟩
    case round =>
      obtain ⟨k, hk, rfl, hall, hbw⟩ := hrel
      have HL : Hid _ := hall
      have HW : Hid _ := hbw
      clear hall hbw
      have p0 : (0 : Int) ≤ (k : Int) := by omega
      by_cases hlt : k < n
      · have p1 : (k : Int) < (n : Int) := by omega
        have hkA : k < A.length := by have := HN.out; omega
        have hkB : k < B.length := by have := HN.out; omega
        obtain ⟨g, o, rfl, hg, hc⟩ := CA.out (by omega)
        obtain ⟨g', o', rfl, hg', hc'⟩ := CB.out (by omega)
        obtain ⟨x, hx⟩ : ∃ x, x = A[k] := ⟨_, rfl⟩
        obtain ⟨y, hy⟩ : ∃ y, y = B[k] := ⟨_, rfl⟩
        have hxs : isSum x := by rw [hx]; exact SA.out _ (List.getElem_mem _)
        have hys : isSum y := by rw [hy]; exact SB.out _ (List.getElem_mem _)
        have lx : ∀ wz, Below w.heap.size w wz → ∀ i, i < 32 → wz.cell? ⟨g, o + k * 32 + i, none⟩ = some (arrV x i) := fun wz hz i hi => by rw [hx]; exact (hz.cell (p := ⟨g, o + k * 32 + i, none⟩) hg).trans (hc k hkA i hi)
        have ly : ∀ wz, Below w.heap.size w wz → ∀ i, i < 32 → wz.cell? ⟨g', o' + k * 32 + i, none⟩ = some (arrV y i) := fun wz hz i hi => by rw [hy]; exact (hz.cell (p := ⟨g', o' + k * 32 + i, none⟩) hg').trans (hc' k hkB i hi)
        have LX : Hid _ := lx
        have LY : Hid _ := ly
        obtain ⟨bq, hbq⟩ : ∃ bq, bq = !decide (x = y) := ⟨_, rfl⟩
        have E : ∀ wx, (binOp .neq 29 (.agg (rowV 32 (arrV x))) (.agg (rowV 32 (arrV y)))).run Tryd.prog wx = .ok (.bool bq) wx := fun wx => by
          have := run_neq_arr (P := Tryd.prog) wx 29 5 .u8 32 (fun i => x.getD i 0) (fun i => y.getD i 0) Tryd.underlying29 Tryd.underlying5 (by kernel_rfl) (by kernel_rfl)
          rw [arrEq_list hxs hys] at this
          rw [hbq]; exact this
        have HX : Hid (A[k]? = some x ∧ B[k]? = some y) := (show A[k]? = some x ∧ B[k]? = some y from ⟨by rw [hx]; exact List.getElem?_eq_getElem hkA, by rw [hy]; exact List.getElem?_eq_getElem hkB⟩)
        have HBQ : Hid _ := hbq
        clear hc hc' lx ly hx hy hbq CA CB
        go_upto_region 6 with fail
        go_cut [5, 25] from 11 to 25 (fun i c wx => i = .int .i64 (k : Int) ∧ c = .bool bq ∧ Below w.heap.size w wx)
        case first =>
          refine wp_region_noPanic ?_
          refine wp_region_held_drew (S := fun w' => Below w.heap.size w w') (by kernel_rfl) (HW.out.drew) (fun hHeld => ?_)
          refine take_op (i := 0) (v := ?va0) rfl (by kernel_rfl) (by kernel_rfl) (by kernel_rfl) (fun _ _ _ h => h) rfl hHeld ?ya0 ?ra0
          case ya0 => (intro wz hz; go_simp; first | done | with_reducible rfl)
          try simp only [Act.put, List.setIfInBounds_toArray, List.set_cons_zero, List.set_cons_succ]
          refine take_op (i := 1) (v := ?va1) rfl (by kernel_rfl) (by kernel_rfl) (by kernel_rfl) (fun _ _ _ h => h) rfl hHeld ?ya1 ?ra1
          case ya1 => (intro wz hz; go_simp; first | done | with_reducible rfl)
          try simp only [Act.put, List.setIfInBounds_toArray, List.set_cons_zero, List.set_cons_succ]
          refine take_op (i := 2) (v := ?va2) rfl (by kernel_rfl) (by kernel_rfl) (by kernel_rfl) (fun _ _ _ h => h) rfl hHeld ?ya2 ?ra2
          case ya2 => (intro wz hz; go_simp; first | done | with_reducible rfl)
          try simp only [Act.put, List.setIfInBounds_toArray, List.set_cons_zero, List.set_cons_succ]
          refine take_load (i := 3) rfl (by kernel_rfl) (by kernel_rfl) (by kernel_rfl) 29 _ rfl g (o + k * 32) 32 (arrV x) rfl _ Tryd.underlying29 rfl (by kernel_rfl) (fun _ _ _ h => h) rfl hHeld (fun wz hz => LX.out wz hz) ?_
          try simp only [Act.put, List.setIfInBounds_toArray, List.set_cons_zero, List.set_cons_succ]
          refine take_op (i := 4) (v := ?va4) rfl (by kernel_rfl) (by kernel_rfl) (by kernel_rfl) (fun _ _ _ h => h) rfl hHeld ?ya4 ?ra4
          case ya4 => (intro wz hz; go_simp; first | done | with_reducible rfl)
          try simp only [Act.put, List.setIfInBounds_toArray, List.set_cons_zero, List.set_cons_succ]
          refine take_op (i := 5) (v := ?va5) rfl (by kernel_rfl) (by kernel_rfl) (by kernel_rfl) (fun _ _ _ h => h) rfl hHeld ?ya5 ?ra5
          case ya5 => (intro wz hz; go_simp; first | done | with_reducible rfl)
          try simp only [Act.put, List.setIfInBounds_toArray, List.set_cons_zero, List.set_cons_succ]
          refine take_op (i := 6) (v := ?va6) rfl (by kernel_rfl) (by kernel_rfl) (by kernel_rfl) (fun _ _ _ h => h) rfl hHeld ?ya6 ?ra6
          case ya6 => (intro wz hz; go_simp; first | done | with_reducible rfl)
          try simp only [Act.put, List.setIfInBounds_toArray, List.set_cons_zero, List.set_cons_succ]
          refine take_load (i := 7) rfl (by kernel_rfl) (by kernel_rfl) (by kernel_rfl) 29 _ rfl g' (o' + k * 32) 32 (arrV y) rfl _ Tryd.underlying29 rfl (by kernel_rfl) (fun _ _ _ h => h) rfl hHeld (fun wz hz => LY.out wz hz) ?_
          try simp only [Act.put, List.setIfInBounds_toArray, List.set_cons_zero, List.set_cons_succ]
          refine take_op (i := 8) (v := ?va8) rfl (by kernel_rfl) (by kernel_rfl) (by kernel_rfl) (fun _ _ _ h => h) rfl hHeld ?ya8 ?ra8
          case ya8 => (intro wz hz; go_simp; first | done | with_reducible rfl)
          try simp only [Act.put, List.setIfInBounds_toArray, List.set_cons_zero, List.set_cons_succ]
          refine wpAnyH_done (by kernel_rfl) ?_ _
          refine NoPanic.normal ?_
          have HB2 : Hid _ := hHeld
          clear hHeld
          go_wp2_with fail
          go_meet
          case rel => exact ⟨rfl, rfl, HB2.out⟩
        case rest =>
          obtain ⟨rfl, rfl, hb2⟩ := hcut
          have HB2 : Hid _ := hb2
          clear hb2 E LX LY
          cases bq with
          | false =>
            have hxy : x = y := by
              have := HBQ.out
              simpa using this
            have HE : Hid (A[k]? = B[k]?) := (show A[k]? = B[k]? from by rw [HX.out.1, HX.out.2, hxy])
            clear hxy
            go_wp2
            go_light
            refine ⟨⟨k + 1, by omega, by go_num, fun j hj => ?_, HB2.out⟩, by simp [intOf]; omega⟩
            by_cases e : j < k
            · exact HL.out j e
            · obtain rfl : j = k := by omega
              exact HE.out
          | true =>
            have hne : Hid (decide (A = B) = false) := (show decide (A = B) = false from decide_eq_false fun e => by
              have h1 := HX.out
              rw [e] at h1
              have h2 : x = y := Option.some.inj (h1.1.symm.trans h1.2)
              have h3 := HBQ.out
              rw [h2] at h3
              simp at h3)
            go_wp2
            go_ret
            exact ⟨by rw [hne.out]; rfl, HB2.out⟩
      · obtain rfl : k = n := by omega
        have heq : Hid (decide (A = B) = true) := (show decide (A = B) = true from decide_eq_true (List.ext_getElem? fun j => by
          have := HN.out
          by_cases e : j < k
          · exact HL.out j e
          · rw [List.getElem?_eq_none (by omega), List.getElem?_eq_none (by omega)]))
        go_wp2
        go_ret
        exact ⟨by rw [heq.out]; rfl, HW.out⟩
  · have q1 : ¬ (A.length : Int) = (B.length : Int) := by omega
    have hne : Hid (decide (A = B) = false) := (show decide (A = B) = false from decide_eq_false fun e => hl (by rw [e]))
    clear cA cB sA sB hl
    go_enter Tryd.func11, Tryd.ntmps11
    go_wp2
    go_ret
    exact ⟨by rw [hne.out]; rfl, Below.refl _ _⟩
end Go.Proofs.YtdjfdcaolkladaaDoor

/- GrowPaths: its walk. -/
namespace Go.Proofs.YtdjfdcaolkladaaDoor
set_option linter.unusedSimpArgs false
set_option linter.unusedVariables false
open Go.RowKit Go.Deep

set_option maxHeartbeats 2000000 in
set_option maxRecDepth 100000 in
theorem growPaths_any (L : List (List Int)) (v : Value) (m n : Int) (hm : -9223372036854775808 ≤ m ∧ m ≤ 9223372036854775807) (hn : -9223372036854775808 ≤ n ∧ n ≤ 9223372036854775807) (w : World) (ht : tabIs w) (h : sumsAt w v L) :
    Calls Tryd.prog 3 #[v, .int .i64 m, .int .i64 n] w fun e w' => e = .returned (.bool true) ∧ Below w.heap.size w w' := by
  have hsl : ∃ a cap, v = .slice a L.length cap := by
    obtain ⟨_, a, cap, e, _⟩ := h; exact ⟨a, cap, e⟩
  have q1 : (L.length : Int) ≤ 9223372036854775807 := by
    obtain ⟨_, a, cap, e, h3, h4, _⟩ := h
    unfold maxLen at h4
    omega
  by_cases hbig : 150 < L.length
  · have X := gawake_any w ht
    obtain ⟨va, vc, rfl⟩ := hsl
    have q0 : (150 : Int) < (L.length : Int) := by omega
    clear h
    go_enter Tryd.func3, Tryd.ntmps3
    go_wp2_with fail
    refine X.mono ?_
    rintro e w1 ⟨rfl, b1⟩
    have B1 : Hid _ := b1
    clear X b1
    go_wp2
    go_ret
    exact ⟨rfl, B1.out⟩
  have q0 : (L.length : Int) ≤ 150 := by omega
  have q2 : (0 : Int) ≤ (L.length : Int) := by omega
  obtain ⟨oa, oc, w1, hr1, n1, b1⟩ := copy_sums w L v h (by omega)
  have X1 := between_nil L (.slice oa L.length oc) m w1 hm n1.is (by omega) (ht.below b1 ht.1)
  have hPl := gPath_len L m
  have hPm := gI_len m (L.length : Int) (by omega)
  have hP1 : (gPath L m).length ≤ 200 := by
    have hs : gSteps m L.length = ((gI m L.length).length : Int) + if gIn (gI m L.length) = true then 1 else 0 := rfl
    rw [hs] at hPl
    split at hPl <;> omega
  have X2 := fun w2 (hz : Below w.heap.size w w2) => rBetween_any L m v w2 (by omega) (h.below hz (Nat.le_refl _))
  have X4 := fun w2 => steps_any m n hm hn w2
  have X5 := fun w2 => rSteps_any m n hn.2 w2
  have X6 := fun w2 => steps_any m (L.length : Int) hm (by omega) w2
  rw [← hPl] at X6
  generalize gSteps m n = s at X4 X5
  generalize gPath L m = P at X1 X2 X6 hP1
  have X2' : Hid _ := X2
  have X4' : Hid _ := X4
  have X5' : Hid _ := X5
  have X6' : Hid _ := X6
  have HG : Hid (∀ wz, Below w.heap.size w wz → sumsAt wz v L ∧ tabIs wz) := (show _ from fun wz hz => ⟨h.below hz (Nat.le_refl _), ht.below hz ht.1⟩)
  have B1 : Hid (Below w.heap.size w w1) := (show Below w.heap.size w w1 from b1)
  have N1 : Hid (newSums w1 w.heap.size (.slice oa L.length oc) L) := (show newSums w1 w.heap.size (.slice oa L.length oc) L from n1)
  have HPL : Hid (P.length ≤ 200) := (show P.length ≤ 200 from hP1)
  have HLL : Hid (L.length ≤ 150) := (show L.length ≤ 150 from by omega)
  obtain ⟨va, vc, rfl⟩ := hsl
  clear hbig X2 X4 X5 X6 h ht b1 n1 hPl hPm hP1
  go_enter Tryd.func3, Tryd.ntmps3
  go_upto_region 4 with (at_builtin; refine wpList_append_run rfl _ _ _ rfl rfl rfl hr1 ?_)
  clear hr1
  go_wp2_with fail
  refine X1.mono ?_
  rintro e w2 ⟨v2, rfl, n2, b2⟩
  clear X1
  have b02 : Below w.heap.size w w2 := (show Below w.heap.size w w1 from B1.out).trans (b2.mono (show w.heap.size ≤ w1.heap.size from Below.size B1.out))
  have Y2 := X2'.out w2 b02
  obtain ⟨pa, pc, hv2, _⟩ := ownsRow_slice n2.2
  subst hv2
  clear X2'
  go_wp2_with fail
  refine Y2.mono ?_
  rintro e w3 ⟨u3, rfl, n3, b3⟩
  clear Y2
  have n2' := n2.below b3 (Nat.le_refl _)
  have b03 : Below w.heap.size w w3 := b02.trans (b3.mono b02.size)
  have b13 : Below w1.heap.size w1 w3 := b2.trans (b3.mono b2.size)
  have Y3 := rsame_any P P _ _ w3 n2'.is n3.is (Nat.le_trans HPL.out (by omega))
  rw [decide_eq_true rfl] at Y3
  obtain ⟨ua, uc, hu3, _⟩ := ownsRow_slice n3.2
  subst hu3
  clear n2 n3 b2 b3 b02
  go_wp2_with fail
  refine Y3.mono ?_
  rintro e w4 ⟨rfl, b4⟩
  clear Y3
  have n4 := n2'.below b4 (Nat.le_refl _)
  have b14 : Below w1.heap.size w1 w4 := b13.trans (b4.mono b13.size)
  have Y4 := X4'.out w4
  have N4 : Hid (newSums w4 w1.heap.size (.slice pa P.length pc) P) := (show newSums w4 w1.heap.size (.slice pa P.length pc) P from n4)
  have B14 : Hid (Below w1.heap.size w1 w4) := (show Below w1.heap.size w1 w4 from b14)
  clear n2' n4 b4 b14 b13 b03 X4'
  go_wp2_with fail
  refine Y4.mono ?_
  rintro e w5 ⟨rfl, b5⟩
  clear Y4
  have Y5 := X5'.out w5
  have B5 : Hid (Below w4.heap.size w4 w5) := (show Below w4.heap.size w4 w5 from b5)
  clear X5' b5
  go_wp2_with fail
  refine Y5.mono ?_
  rintro e w5 ⟨rfl, rfl⟩
  clear Y5
  have Y6 := X6'.out w5
  clear X6'
  go_wp2_with fail
  refine Y6.mono ?_
  rintro e w6 ⟨rfl, b6⟩
  clear Y6
  have b46 : Below w4.heap.size w4 w6 := Below.trans (show Below w4.heap.size w4 w5 from B5.out) (b6.mono (show w4.heap.size ≤ w5.heap.size from Below.size B5.out))
  have z14 : w1.heap.size ≤ w4.heap.size := Below.size (show Below w1.heap.size w1 w4 from B14.out)
  have n6 := newSums.below (show newSums w4 w1.heap.size (.slice pa P.length pc) P from N4.out) b46 (Nat.le_refl _)
  obtain ⟨w7, hclr, b7, z7⟩ := clear_sums w6 w1.heap.size _ P n6
  have b17 : Below w1.heap.size w1 w7 := ((show Below w1.heap.size w1 w4 from B14.out).trans (b46.mono z14)).trans b7
  have z1 : w.heap.size ≤ w1.heap.size := Below.size (show Below w.heap.size w w1 from B1.out)
  have b07 : Below w.heap.size w w7 := (show Below w.heap.size w w1 from B1.out).trans (b17.mono z1)
  have Y8 := rsame_any L L _ _ w7 (newSums.below (show newSums w1 w.heap.size (.slice oa L.length oc) L from N1.out) b17 (Nat.le_refl _)).is (HG.out w7 b07).1 (Nat.le_trans HLL.out (by omega))
  rw [decide_eq_true rfl] at Y8
  have B07 : Hid (Below w.heap.size w w7) := (show Below w.heap.size w w7 from b07)
  clear n6 b6 b46 z14 b7 b17 b07 z1 z7 B5 B14 N4
  go_wp2_with fail
  refine Y8.mono ?_
  rintro e w8 ⟨rfl, b8⟩
  clear Y8 hclr
  have b08 : Below w.heap.size w w8 := (show Below w.heap.size w w7 from B07.out).trans (b8.mono (show w.heap.size ≤ w7.heap.size from Below.size B07.out))
  have Y9 := gawake_any w8 (HG.out w8 b08).2
  have B08 : Hid (Below w.heap.size w w8) := (show Below w.heap.size w w8 from b08)
  clear b8 b08
  go_wp2_with fail
  refine Y9.mono ?_
  rintro e w9 ⟨rfl, b9⟩
  have B09 : Hid (Below w.heap.size w w9) := (show Below w.heap.size w w9 from (show Below w.heap.size w w8 from B08.out).trans (b9.mono (show w.heap.size ≤ w8.heap.size from Below.size B08.out)))
  clear Y9 b9
  go_wp2
  go_ret
  exact ⟨rfl, B09.out⟩
end Go.Proofs.YtdjfdcaolkladaaDoor

/- The frame of a law's row: what was read reads behind the call as it did, where nothing old has turned. -/
namespace Go.Proofs.YtdjfdcaolkladaaDoor
open Go.RowKit Go.Deep Go.ChangeShapes Go.WideShapes Go.ChangeAt

theorem below_trodAll {H : Type} {enc : TypeId × Value → H} {P : Program} (hl : laidOutB P = true) {W W' : World} (hb : Below W.heap.size W W') :
    ∀ {ts : List TypeId} {vs : List Value} {ds : List (DataW H)} {ps : List MemPlace}, (∀ t ∈ ts, P.readableRec t = true ∧ t < P.types.size) → DataW.TrodAll enc P W 0 (fun _ => true) true ts vs ds ps → (∀ x ∈ ps, x.block < W.heap.size) →
      DataW.TrodAll enc P W' 0 (fun b => decide (b < W.heap.size)) true ts vs ds ps
  | [], [], [], _, _, h, _ => h
  | t :: ts, v :: vs, d :: ds, ps, hts, h, hlt => by
    obtain ⟨p, q, h1, h2, e⟩ := h
    subst e
    exact ⟨p, q, Below.trod hl (hts t List.mem_cons_self).1 (hts t List.mem_cons_self).2 h1 hb (fun x hx => hlt x (List.mem_append_left _ hx)), below_trodAll hl hb (fun u hu => hts u (List.mem_cons_of_mem _ hu)) h2 (fun x hx => hlt x (List.mem_append_right _ hx)), rfl⟩

/-- WHAT A LAW's ROW ASKS BEHIND THE CALL, where the answer is true and nothing old has turned. -/
theorem law_post {H : Type} {enc : TypeId × Value → H} {P : Program} {spec : ChangeSpec} {f : Func} {W W' : World} {args : Array Value} {ds gs : List (DataW H)} {before : List MemPlace} {tb : TypeId}
    (hl : laidOutB P = true) (hts : ∀ t ∈ f.params.toList, P.readableRec t = true ∧ t < P.types.size) (hvars : spec.vars = []) (hres : f.resultTypes = #[tb]) (hbool : P.underlying tb = some .bool)
    (hspec : spec.fn H (ds ++ gs) = { results := [.lit (.bool true)], args := ds })
    (hW : DataW.Whole enc P f.params.toList spec.vars false W args.toList ds gs before) (hb : Below W.heap.size W W') : spec.post enc P f false true false false W args (.bool true) W' := by
  have hW' := hW
  have hlt := hW.lt
  obtain ⟨p, q, hA, hV, rfl, hfz, hnd⟩ := hW
  rw [hvars] at hV
  obtain ⟨rfl, rfl⟩ := trodVars_none hV
  refine ⟨ds, [], p ++ [], [], p, [], hW', ?_, ?_, ?_, ?_, fun h => by cases h⟩
  · rw [hspec, hres]
    exact trodAll_cons_mk (shut_bool hbool _) trodAll_mk0
  · rw [hspec]
    exact below_trodAll hl hb hts hA (fun x hx => hlt x (List.mem_append_left _ hx))
  · rw [hspec, hvars]; exact hV
  · exact hb.frame _

/-- AN ARRAY OF BYTES, opened. -/
theorem open_bytes {H : Type} {enc : TypeId × Value → H} {P : Program} {w : World} {base b0 : Nat} {sp : Nat → Bool} {held : Bool} {r : Reach} {t e : TypeId} {n : Nat} {v : Value} {d : DataW H} {ps : List MemPlace}
    (hu : P.underlying t = some (.array n e)) (he : P.underlying e = some (.int .u8)) (hc : P.cellsOf e = 1) (hct : P.cellsOf t = n) (hval : Value.okWide P w r b0 t v) (hd : DataW.Trod enc P w base sp held t v d ps) :
    ∃ f : Nat → Int, v = .agg (rowV n fun i => .int .u8 (f i)) ∧ ∀ i, 0 ≤ f i ∧ f i ≤ 255 := by
  unfold Value.okWide at hval
  rw [hu] at hval
  obtain ⟨cs, rfl, hsz, _⟩ := hval
  obtain ⟨fuel, hf⟩ := hd
  obtain ⟨xs, m, rfl, _, hlen, _, hx⟩ := DataW.trod_array hu hf
  simp only [Value.cells] at hx hlen
  have hget : ∀ i, i < n → ∃ z : Int, cs[i]? = some (.int .u8 z) ∧ 0 ≤ z ∧ z ≤ 255 := fun i hi => by
    have h1 := hx i hi
    rw [hc, Nat.mul_one] at h1
    have hxi : i < xs.length := by omega
    rw [List.getElem?_eq_getElem hxi] at h1
    obtain ⟨z, hz, _, hw⟩ := DataW.trod_int he h1
    refine ⟨z, ?_, bounds_u8 hw⟩
    have hcs : cs.toList[i]? = some (.int .u8 z) := by
      have := congrArg (fun l => l[0]?) hz
      simpa [List.getElem?_take, List.getElem?_drop] using this
    rw [← Array.getElem?_toList]; exact hcs
  refine ⟨fun i => if h : i < n then Classical.choose (hget i h) else 0, ?_, fun i => ?_⟩
  · congr 1
    refine rowV_eq (by omega) fun i hi => ?_
    dsimp only
    rw [dif_pos hi]; exact (Classical.choose_spec (hget i hi)).1
  · dsimp only
    by_cases h : i < n
    · rw [dif_pos h]; exact (Classical.choose_spec (hget i h)).2
    · rw [dif_neg h]; omega
end Go.Proofs.YtdjfdcaolkladaaDoor

/- The frame of a law's row, where no package variable is laid. -/
namespace Go.Proofs.YtdjfdcaolkladaaDoor
open Go.RowKit Go.Deep Go.ChangeShapes Go.WideShapes Go.ChangeAt
theorem own : ownKnob Tryd.prog.godebug = none := by kernel_rfl
theorem laidOut : laidOutB Tryd.prog = true := by kernel_rfl
theorem bounds_u64 {a : Int} (h : (Lit.int .u64 a).wf = true) : 0 ≤ a ∧ a < 18446744073709551616 := by
  have h' : 0 ≤ a ∧ a ≤ 18446744073709551615 := by simpa [Lit.wf, IntKind.min, IntKind.max, IntKind.signed, IntKind.bits] using h
  omega
end Go.Proofs.YtdjfdcaolkladaaDoor

/- Slices that came in, opened. -/
namespace Go.Proofs.YtdjfdcaolkladaaDoor
open Go.RowKit Go.Deep Go.ChangeShapes Go.WideShapes

theorem bounds_i64 {a : Int} (h : (Lit.int .i64 a).wf = true) : -9223372036854775808 ≤ a ∧ a ≤ 9223372036854775807 := by
  simpa [Lit.wf, IntKind.min, IntKind.max, IntKind.signed, IntKind.bits] using h
/-- A SLICE, opened at every index. -/
theorem open_any {H : Type} {enc : TypeId × Value → H} {P : Program} {w : World} {base b0 : Nat} {sp : Nat → Bool} {held : Bool} {r : Reach} {t e : TypeId} {v : Value} {d : DataW H} {ps : List MemPlace} (c : Nat)
    (hu : P.underlying t = some (.slice e)) (hc : P.cellsOf e = c) (hval : Value.okWide P w r b0 t v) (hd : DataW.Trod enc P w base sp held t v d ps) :
    (v = .slice none 0 0) ∨ ∃ pb po len cap : Nat, v = .slice (some ⟨pb, po, none⟩) len cap ∧ len ≤ cap ∧ cap ≤ maxLen ∧ pb < w.heap.size ∧
      ∀ i, i < len → ∃ (cs' : List Value) (n : Nat) (D : DataW H × List MemPlace), cs'.length = c ∧ (∀ j, j < c → w.cell? ⟨pb, po + i * c + j, none⟩ = cs'[j]?) ∧ DataW.trod enc P w base sp held n e cs' = some D := by
  obtain ⟨a, len, cap, rfl⟩ := okWide_slice hu hval
  obtain ⟨fuel, hf⟩ := hd
  rcases open_slice hu hf with ⟨h0, _⟩ | ⟨a', len', cap', m, n, D, Pl, h0, _, h1, h2, h3, _, h4⟩
  · left; simpa [Value.cells] using h0
  · right
    have h0' : a = some a' ∧ len = len' ∧ cap = cap' := by simpa [Value.cells] using h0
    obtain ⟨rfl, rfl, rfl⟩ := h0'
    have hlm : len ≤ m := by rw [h3]; split <;> omega
    simp only [Value.okWide, hu, Cell.okWide, Cell.ok] at hval
    obtain ⟨_, _, _, hsp, row, cells, hsh, _⟩ := hval
    obtain ⟨pb, po, spot⟩ := a'
    obtain rfl : spot = none := hsp
    refine ⟨pb, po, len, cap, rfl, h1, h2, ?_, fun i hi => ?_⟩
    · unfold World.shape? at hsh
      cases hq : w.heap[pb]? with
      | none => rw [hq] at hsh; cases hsh
      | some o => exact (Array.getElem?_eq_some_iff.1 hq).1
    · obtain ⟨cs', g1, g2⟩ := h4 i (by omega)
      rw [hc] at g1
      obtain ⟨_, hlen, hcell⟩ := World.cells?_some g1
      refine ⟨cs', n, _, hlen, fun j hj => ?_, g2⟩
      have e0 := hcell j (by omega)
      rw [add_add, Addr.add_mid] at e0
      rw [Nat.add_assoc]; exact e0
theorem open_bytes_slice {H : Type} {enc : TypeId × Value → H} {P : Program} {w : World} {base b0 : Nat} {sp : Nat → Bool} {held : Bool} {r : Reach} {t e : TypeId} {v : Value} {d : DataW H} {ps : List MemPlace}
    (hu : P.underlying t = some (.slice e)) (he : P.underlying e = some (.int .u8)) (hc : P.cellsOf e = 1) (hval : Value.okWide P w r b0 t v) (hd : DataW.Trod enc P w base sp held t v d ps) : ∃ l, isBytes w v l := by
  rcases open_any 1 hu hc hval hd with rfl | ⟨pb, po, len, cap, rfl, h1, h2, h3, h4⟩
  · exact ⟨[], Or.inl ⟨rfl, rfl⟩⟩
  · have each : ∀ i, i < len → ∃ z : Int, w.cell? ⟨pb, po + i, none⟩ = some (.int .u8 z) ∧ 0 ≤ z ∧ z ≤ 255 := fun i hi => by
      obtain ⟨cs', n, D, g1, g2, g3⟩ := h4 i hi
      obtain ⟨z, rfl, _, hw⟩ := DataW.trod_int he g3
      have := g2 0 (by omega)
      rw [Nat.mul_one, Nat.add_zero] at this
      exact ⟨z, this, bounds_u8 hw⟩
    obtain ⟨f, hf⟩ := choose_lt each
    have hg : ∀ i, i < len → ((List.range len).map f).getD i 0 = f i := fun i hi => by
      rw [List.getD_eq_getElem?_getD, List.getElem?_map, List.getElem?_range hi]; rfl
    refine ⟨(List.range len).map f, Or.inr ⟨pb, po, cap, by simp, by simpa using h1, h2, h3, fun i hi => ?_, fun i => ?_⟩⟩
    · have hi' : i < len := by simpa using hi
      rw [hg i hi']; exact (hf i hi').1
    · by_cases hi : i < len
      · rw [hg i hi]; exact (hf i hi).2
      · rw [List.getD_eq_getElem?_getD, List.getElem?_eq_none (by simp; omega)]; exact ⟨by simp, by simp⟩
end Go.Proofs.YtdjfdcaolkladaaDoor

/- A sum that is handed in. -/
namespace Go.Proofs.YtdjfdcaolkladaaDoor
open Go.RowKit Go.Deep
/-- its bytes as a list. -/
def listF (f : Nat → Int) : List Int := (List.range 32).map f
theorem listF_getD (f : Nat → Int) (i : Nat) (h : i < 32) : (listF f).getD i 0 = f i := by
  rw [listF, List.getD_eq_getElem?_getD, List.getElem?_map, List.getElem?_range h]; rfl
theorem listF_sum {f : Nat → Int} (hf : ∀ i, 0 ≤ f i ∧ f i ≤ 255) : isSum (listF f) := ⟨by simp [listF], fun i => by
  by_cases h : i < 32
  · rw [listF_getD f i h]; exact hf i
  · rw [List.getD_eq_getElem?_getD, List.getElem?_eq_none (by simp [listF]; omega)]; exact ⟨by simp, by simp⟩⟩
theorem listF_row (f : Nat → Int) : rowV 32 (fun i => .int .u8 (f i)) = rowV 32 (arrV (listF f)) := rowV_congr fun i hi => by rw [arrV, listF_getD f i hi]
def zeroSum : Value := .agg #[.int .u8 0, .int .u8 0, .int .u8 0, .int .u8 0, .int .u8 0, .int .u8 0, .int .u8 0, .int .u8 0, .int .u8 0, .int .u8 0, .int .u8 0, .int .u8 0, .int .u8 0, .int .u8 0, .int .u8 0, .int .u8 0, .int .u8 0, .int .u8 0, .int .u8 0, .int .u8 0, .int .u8 0, .int .u8 0, .int .u8 0, .int .u8 0, .int .u8 0, .int .u8 0, .int .u8 0, .int .u8 0, .int .u8 0, .int .u8 0, .int .u8 0, .int .u8 0]
def zeroSumD {H : Type} : DataW H := .agg [.lit (.int .u8 0), .lit (.int .u8 0), .lit (.int .u8 0), .lit (.int .u8 0), .lit (.int .u8 0), .lit (.int .u8 0), .lit (.int .u8 0), .lit (.int .u8 0), .lit (.int .u8 0), .lit (.int .u8 0), .lit (.int .u8 0), .lit (.int .u8 0), .lit (.int .u8 0), .lit (.int .u8 0), .lit (.int .u8 0), .lit (.int .u8 0), .lit (.int .u8 0), .lit (.int .u8 0), .lit (.int .u8 0), .lit (.int .u8 0), .lit (.int .u8 0), .lit (.int .u8 0), .lit (.int .u8 0), .lit (.int .u8 0), .lit (.int .u8 0), .lit (.int .u8 0), .lit (.int .u8 0), .lit (.int .u8 0), .lit (.int .u8 0), .lit (.int .u8 0), .lit (.int .u8 0), .lit (.int .u8 0)]
end Go.Proofs.YtdjfdcaolkladaaDoor

/- Rows of sums that came in, opened. -/
namespace Go.Proofs.YtdjfdcaolkladaaDoor
set_option maxRecDepth 100000
open Go.RowKit Go.Deep Go.ChangeShapes Go.WideShapes

theorem sum_cells {H : Type} {enc : TypeId × Value → H} {w : World} {base : Nat} {held : Bool} {n : Nat} {cs' : List Value} {D : DataW H × List MemPlace} (g1 : cs'.length = 32)
    (g3 : DataW.trod enc Tryd.prog w base (fun _ => true) held n 29 cs' = some D) : ∃ q : List Int, isSum q ∧ ∀ j, j < 32 → cs'[j]? = some (arrV q j) := by
  have c8 : Tryd.prog.cellsOf 5 = 1 := by kernel_rfl
  obtain ⟨xs, m', rfl, _, hlen, _, hx⟩ := DataW.trod_array Tryd.underlying29 g3
  have hsum : ∀ j, j < 32 → ∃ z : Int, cs'[j]? = some (.int .u8 z) ∧ 0 ≤ z ∧ z ≤ 255 := fun j hj => by
    have h5 := hx j hj
    rw [c8, Nat.mul_one] at h5
    have hxj : j < xs.length := by omega
    rw [List.getElem?_eq_getElem hxj] at h5
    obtain ⟨z, hz, _, hw⟩ := DataW.trod_int Tryd.underlying5 h5
    refine ⟨z, ?_, bounds_u8 hw⟩
    have := congrArg (fun l => l[0]?) hz
    simp only [List.getElem?_take, List.getElem?_drop, List.getElem?_cons_zero] at this
    simpa using this
  obtain ⟨f, hf⟩ := choose_lt hsum
  refine ⟨(List.range 32).map f, ⟨by simp, fun j => ?_⟩, fun j hj => ?_⟩
  · by_cases hj : j < 32
    · have : ((List.range 32).map f).getD j 0 = f j := by
        rw [List.getD_eq_getElem?_getD, List.getElem?_map, List.getElem?_range hj]; rfl
      rw [this]; exact (hf j hj).2
    · rw [List.getD_eq_getElem?_getD, List.getElem?_eq_none (by simp; omega)]; exact ⟨by simp, by simp⟩
  · have : ((List.range 32).map f).getD j 0 = f j := by
      rw [List.getD_eq_getElem?_getD, List.getElem?_map, List.getElem?_range hj]; rfl
    rw [arrV, this]; exact (hf j hj).1
theorem open_sums {H : Type} {enc : TypeId × Value → H} {w : World} {base b0 : Nat} {held : Bool} {r : Reach} {v : Value} {d : DataW H} {ps : List MemPlace}
    (hval : Value.okWide Tryd.prog w r b0 22 v) (hd : DataW.Trod enc Tryd.prog w base (fun _ => true) held 22 v d ps) : ∃ L, sumsAt w v L := by
  rcases open_any 32 Tryd.underlying22 (by kernel_rfl) hval hd with rfl | ⟨pb, po, len, cap, rfl, h1, h2, h3, h4⟩
  · exact ⟨[], sumsAt.nil w⟩
  · have each : ∀ i, i < len → ∃ q : List Int, isSum q ∧ ∀ j, j < 32 → w.cell? ⟨pb, po + i * 32 + j, none⟩ = some (arrV q j) := fun i hi => by
      obtain ⟨cs', n, D, g1, g2, g3⟩ := h4 i hi
      obtain ⟨q, e1, e2⟩ := sum_cells (by omega) g3
      exact ⟨q, e1, fun j hj => by rw [g2 j hj]; exact e2 j hj⟩
    obtain ⟨f, hf⟩ := choose_lt each
    have hl : ((List.range len).map f).length = len := by simp
    refine ⟨(List.range len).map f, fun x hx => ?_, _, cap, by rw [hl], by rw [hl]; exact h1, h2, fun h0 => ⟨pb, po, rfl, h3, fun i hi j hj => ?_⟩⟩
    · obtain ⟨i, hi, rfl⟩ := List.mem_map.1 hx
      exact (hf i (List.mem_range.1 hi)).1
    · have e : ((List.range len).map f)[i] = f i := by simp
      rw [e]; exact (hf i (by omega)).2 j hj
end Go.Proofs.YtdjfdcaolkladaaDoor

/- The table of the rounds' constants, as the row lists it; a world that holds it, for the witness. -/
namespace Go.Proofs.YtdjfdcaolkladaaDoor
set_option maxRecDepth 100000
open Go.RowKit Go.Deep Go.ChangeShapes Go.WideShapes Go.ChangeAt

/-- the table's name. -/
def tabName : String := Rows.growPathsRow.named.getD 0 ""
theorem gTab : Tryd.prog.globalNamed tabName = some 0 := by kernel_rfl
theorem gTabType : (Tryd.prog.globals[0]?).map (·.type) = some 124 := by kernel_rfl
theorem cellsTab : Tryd.prog.cellsOf 124 = 64 := by kernel_rfl
theorem cellsWord : Tryd.prog.cellsOf 91 = 1 := by kernel_rfl
/-- what the row's list gives. -/
theorem laid_tab {W : World} (h : laidMetH Tryd.prog Rows.growPathsRow.laid W) : tabIs W := by
  have ht : Lib.TabIs Tryd.prog W tabName .u32 kList := Lib.tabIs_of_head (rest := []) gTab gTabType Tryd.underlying124 Tryd.underlying91 cellsWord cellsTab h
  refine ⟨?_, fun i hi => ht.cell gTab i (by simpa [kList] using hi)⟩
  have h0 := ht.cell gTab 0 (by decide)
  exact block_lt_of_cell h0
/-- the table's block, laid. -/
def kObj : Obj → Obj
  | .cells _ t frozen => .cells #[.int .u32 1116352408, .int .u32 1899447441, .int .u32 3049323471, .int .u32 3921009573, .int .u32 961987163, .int .u32 1508970993, .int .u32 2453635748, .int .u32 2870763221, .int .u32 3624381080, .int .u32 310598401, .int .u32 607225278, .int .u32 1426881987, .int .u32 1925078388, .int .u32 2162078206, .int .u32 2614888103, .int .u32 3248222580, .int .u32 3835390401, .int .u32 4022224774, .int .u32 264347078, .int .u32 604807628, .int .u32 770255983, .int .u32 1249150122, .int .u32 1555081692, .int .u32 1996064986, .int .u32 2554220882, .int .u32 2821834349, .int .u32 2952996808, .int .u32 3210313671, .int .u32 3336571891, .int .u32 3584528711, .int .u32 113926993, .int .u32 338241895, .int .u32 666307205, .int .u32 773529912, .int .u32 1294757372, .int .u32 1396182291, .int .u32 1695183700, .int .u32 1986661051, .int .u32 2177026350, .int .u32 2456956037, .int .u32 2730485921, .int .u32 2820302411, .int .u32 3259730800, .int .u32 3345764771, .int .u32 3516065817, .int .u32 3600352804, .int .u32 4094571909, .int .u32 275423344, .int .u32 430227734, .int .u32 506948616, .int .u32 659060556, .int .u32 883997877, .int .u32 958139571, .int .u32 1322822218, .int .u32 1537002063, .int .u32 1747873779, .int .u32 1955562222, .int .u32 2024104815, .int .u32 2227730452, .int .u32 2361852424, .int .u32 2428436474, .int .u32 2756734187, .int .u32 3204031479, .int .u32 3329325298] t frozen
  | o => o
end Go.Proofs.YtdjfdcaolkladaaDoor
