import Derived.ProofKit
import Derived.OpenShut
import Derived.Test.YtgchnobifidjcaaDoorRows
import Derived.ChangeSlices
import Derived.Deep.Slices
import Derived.Deep.Strs
import Derived.SizedLaws
import Derived.Test.YtgchnobifidjcaaDoorCards
import Derived.Deep.DeepHandedRow
import Derived.Lib.LaidTab
import Derived.Test.YtgchnobifidjcaaDoorOwn1
import Derived.Test.YtgchnobifidjcaaDoorOwn3
import Derived.Test.YtgchnobifidjcaaDoorOwn6
import Derived.Test.YtgchnobifidjcaaDoorOwn9
import Derived.Test.YtgchnobifidjcaaDoorOwn10
set_option linter.unusedVariables false
set_option linter.unusedSimpArgs false
/- KeyedBinds: its walk. -/
namespace Go.Proofs.YtgchnobifidjcaaDoor
set_option linter.unusedSimpArgs false
set_option linter.unusedVariables false
open Go.RowKit Go.Deep

theorem build_bookK (w : World) : (Instr.build 65 #[]).run Tryd.prog w = .ok (.agg #[.pointer none]) w := by kernel_rfl
set_option maxHeartbeats 16000000 in
set_option maxRecDepth 100000 in
theorem kbinds_any (n m : Nat) (v tv sv : Value) (cnt : Int) (x : Nat → Pr) (y0 : Nat → Sp) (key : List Int) (w : World) (hcn : inI64 cnt) (hp : pairsAt w v n x) (hk : anyBytes w tv key) (hs0 : spotsAt w sv m y0) (ht : tabIs w) :
    Calls Tryd.prog 7 #[v, tv, .agg #[.int .i64 cnt, sv]] w fun e w' => e = .returned (.bool true) ∧ Below w.heap.size w w' := by
  obtain ⟨y, hye⟩ : ∃ y : Nat → Sp, y = fun i => if i < m then y0 i else ⟨0, ([], []), []⟩ := ⟨_, rfl⟩
  have hs : spotsAt w sv m y := by
    obtain ⟨a, cap, h1, h2, h3, h4⟩ := hs0
    refine ⟨a, cap, h1, h2, h3, fun i hi => ?_⟩
    have e : y i = y0 i := by rw [hye]; exact if_pos hi
    rw [e]; exact h4 i hi
  have hyo : ∀ i, ¬ i < m → (y i).path = [] := fun i hi => by rw [hye]; show (if i < m then y0 i else _).path = []; rw [if_neg hi]
  clear hs0 hye
  obtain ⟨a, cap, hv, hnc, hcm, _⟩ := (id hp : pairsAt w v n x)
  have hnm : (n : Int) ≤ 9223372036854775807 := by unfold maxLen at hcm; omega
  obtain ⟨sa, sc, hsv, _, _, _⟩ := (id hs : spotsAt w sv m y)
  obtain ⟨ta, tcap, htv, _⟩ := hk.slice
  subst hv
  subst hsv
  subst htv
  obtain ⟨w1, hw1⟩ : ∃ w1, w1 = w.alloc (.cells #[.int .i64 cnt, .slice sa m sc] 29) := ⟨_, rfl⟩
  have b1 : Below w.heap.size w w1 := by rw [hw1]; exact (Below.refl _ _).alloc (Nat.le_refl _) _
  have hbk : w1.heap[w.heap.size]? = some (.cells #[.int .i64 cnt, .slice sa m sc] 29) := by rw [hw1, blk_alloc_new]
  obtain ⟨bs, hbs⟩ : ∃ bs, bs = w.heap.size := ⟨_, rfl⟩
  rw [← hbs] at hbk
  have hbl : bs < w1.heap.size := (Array.getElem?_eq_some_iff.1 hbk).1
  have hc1 : ∀ i, i < 2 → w1.cell? ⟨bs, 0 + i, none⟩ = some (seG cnt (.slice sa m sc) i) := fun i hi => by
    rw [cell_of_row _ _ _ _ _ _ hbk]
    match i, hi with
    | 0, _ => rfl
    | 1, _ => rfl
  have CB : Hid (∀ wz, Below w1.heap.size w1 wz → ∀ i, i < 2 → wz.cell? ⟨bs, 0 + i, none⟩ = some (seG cnt (.slice sa m sc) i)) := (show _ from fun wz hz i hi => (hz.cell (p := ⟨bs, 0 + i, none⟩) hbl).trans (hc1 i hi))
  have HG : Hid (∀ wz, Below w.heap.size w wz → pairsAt wz (.slice a n cap) n x ∧ anyBytes wz (.slice ta key.length tcap) key ∧ spotsAt wz (.slice sa m sc) m y ∧ tabIs wz) := (show _ from fun wz hz => ⟨hp.below hz (Nat.le_refl _), hk.below hz (Nat.le_refl _), hs.below hz (Nat.le_refl _), ht.below hz ht.1⟩)
  have HAW : Hid (∀ W, Below w.heap.size w W → Calls Tryd.prog 10 #[] W fun e w' => e = .returned (.bool true) ∧ Below W.heap.size W w') := (show _ from fun W hW => kawake_any W (ht.below hW ht.1))
  have BY : Hid ((∀ i, i < n → bytesL (x i).1 ∧ bytesL (x i).2) ∧ (∀ i, i < m → bytesL (y i).pr.1 ∧ bytesL (y i).pr.2 ∧ ∀ q ∈ (y i).path, isSum q)) := (show _ ∧ _ from ⟨fun i hi => by
    obtain ⟨_, _, _, _, _, h4⟩ := hp
    obtain ⟨_, _, kc, vc, _, _, _, _, k1, k2⟩ := h4 i hi
    exact ⟨any_bytesL k1, any_bytesL k2⟩, fun i hi => by
    obtain ⟨_, _, _, _, _, h4⟩ := hs
    obtain ⟨_, _, kc, vc, pc, _, _, _, _, _, _, k1, k2, k3, _⟩ := h4 i hi
    exact ⟨any_bytesL k1, any_bytesL k2, k3.1⟩⟩)
  have B1 : Hid (Below w.heap.size w w1) := (show Below w.heap.size w w1 from b1)
  have HYO : Hid (∀ i, ¬ i < m → (y i).path = []) := (show _ from hyo)
  have HCN : Hid (inI64 cnt) := (show inI64 cnt from hcn)
  have X1 := kmuch_any n (.slice a n cap) x w1 (HG.out w1 b1).1
  have hn0 : (0 : Int) ≤ (n : Int) := by omega
  have T0 : Hid (1 < w.heap.size) := (show 1 < w.heap.size from ht.1)
  clear hp hk hs ht hyo hcn hnc hcm b1 hbk hbl hc1
  go_enter Tryd.func7, Tryd.ntmps7
  go_upto_region 1 with fail
  rw [← hw1, ← hbs]
  clear hw1 hbs
  go_wp2_with fail
  refine X1.mono ?_
  rintro e w2 ⟨⟨b, rfl, hb⟩, b12⟩
  clear X1
  have B12 : Hid (Below w1.heap.size w1 w2) := (show Below w1.heap.size w1 w2 from b12)
  have B2 : Hid (Below w.heap.size w w2) := (show Below w.heap.size w w2 from B1.out.trans (b12.mono B1.out.size))
  clear b12
  cases b with
  | true =>
    clear hb
    have XW := HAW.out w2 B2.out
    go_wp2_with fail
    refine XW.mono ?_
    rintro e w9 ⟨rfl, b9⟩
    clear XW
    go_wp2
    go_ret
    exact ⟨rfl, B2.out.trans (b9.mono B2.out.size)⟩
  | false =>
    obtain ⟨hn, hx⟩ := hb rfl
    have HN : Hid (n ≤ 100) := (show n ≤ 100 from hn)
    have HX : Hid (∀ i, i < n → (x i).1.length + (x i).2.length ≤ 100000) := (show _ from hx)
    clear hb hx hn
    have XD := kwide_any m cnt (.slice sa m sc) y w2 (HG.out w2 B2.out).2.2.1
    rw [← seG_row] at XD
    have cb2 := CB.out w2 B12.out
    go_wp2_with (first | (refine wpList_load_w 29 (.tmp 5) rfl rfl bs 0 2 (seG cnt (.slice sa m sc)) rfl _ Tryd.underlying29 rfl hiSe cb2 ?_))
    refine XD.mono ?_
    rintro e w3 ⟨⟨b, rfl, hb⟩, b23⟩
    clear XD cb2
    have B13 : Hid (Below w1.heap.size w1 w3) := (show Below w1.heap.size w1 w3 from B12.out.trans (b23.mono B12.out.size))
    have B3 : Hid (Below w.heap.size w w3) := (show Below w.heap.size w w3 from B2.out.trans (b23.mono B2.out.size))
    clear b23
    cases b with
    | true =>
      clear hb
      have XW := HAW.out w3 B3.out
      go_wp2_with fail
      refine XW.mono ?_
      rintro e w9 ⟨rfl, b9⟩
      clear XW
      go_wp2
      go_ret
      exact ⟨rfl, B3.out.trans (b9.mono B3.out.size)⟩
    | false =>
      obtain ⟨hm, hy⟩ := hb rfl
      have HM : Hid (m ≤ 10) := (show m ≤ 10 from hm)
      have HY : Hid (∀ i, i < m → (y i).pr.1.length + (y i).pr.2.length ≤ 100000 ∧ (y i).path.length ≤ 100) := (show _ from hy)
      clear hb hy hm
      by_cases hkl : key.length > 1000
      · have q1 : (key.length : Int) > 1000 := by omega
        have q2 : (1000 : Int) < (key.length : Int) := by omega
        have XW := HAW.out w3 B3.out
        go_wp2_with fail
        refine XW.mono ?_
        rintro e w9 ⟨rfl, b9⟩
        clear XW
        go_wp2
        go_ret
        exact ⟨rfl, B3.out.trans (b9.mono B3.out.size)⟩
      have q1 : ¬ (key.length : Int) > 1000 := by omega
      have q2 : ¬ (1000 : Int) < (key.length : Int) := by omega
      have XM := may_any n (.slice a n cap) x w3 (HG.out w3 B3.out).1
      clear hkl
      go_wp2_with fail
      refine XM.mono ?_
      rintro e w4 ⟨rfl, b34⟩
      have B14 : Hid (Below w1.heap.size w1 w4) := (show Below w1.heap.size w1 w4 from B13.out.trans (b34.mono B13.out.size))
      have B4 : Hid (Below w.heap.size w w4) := (show Below w.heap.size w w4 from B3.out.trans (b34.mono B3.out.size))
      clear XM b34
      cases hmb : mayB x n with
      | false =>
        clear hmb
        have XW := HAW.out w4 B4.out
        go_wp2_with fail
        refine XW.mono ?_
        rintro e w9 ⟨rfl, b9⟩
        clear XW
        go_wp2
        go_ret
        exact ⟨rfl, B4.out.trans (b9.mono B4.out.size)⟩
      | true =>
        have HMB : Hid (mayP x n) := (show mayP x n from (mayB_is x n).1 hmb)
        clear hmb
        have bb := build_bookK
        obtain ⟨w5, hw5⟩ : ∃ w5, w5 = (w4.alloc (.cells #[.pointer none] 65)).alloc (.cells #[.pointer none] 65) := ⟨_, rfl⟩
        have z5 : w5.heap.size = w4.heap.size + 2 := by rw [hw5]; simp
        have b45 : Below w4.heap.size w4 w5 := by rw [hw5]; exact ((Below.refl _ _).alloc (Nat.le_refl _) _).alloc (by simp) _
        have ka5 : bookAt w5 (fun j => j = w4.heap.size) w4.heap.size [] 0 := bookAt.new w4 w5 w4.heap.size (by
          rw [hw5]; exact ((Below.refl (w4.alloc (.cells #[.pointer none] 65)).heap.size _).alloc (Nat.le_refl _) _).row (rowIs_one w4 (.pointer none) 65) (by simp))
        have kb5 : bookAt w5 (fun j => j = w4.heap.size + 1) (w4.heap.size + 1) [] 0 := bookAt.new w4 w5 (w4.heap.size + 1) (by
          rw [hw5]
          have := rowIs_one (w4.alloc (.cells #[.pointer none] 65)) (.pointer none) 65
          rwa [World.size_alloc] at this)
        have KK : Hid (w5.heap.size = w4.heap.size + 2 ∧ Below w4.heap.size w4 w5 ∧ bookAt w5 (fun j => j = w4.heap.size) w4.heap.size [] 0 ∧ bookAt w5 (fun j => j = w4.heap.size + 1) (w4.heap.size + 1) [] 0) := (show _ from ⟨z5, b45, ka5, kb5⟩)
        clear z5 b45 ka5 kb5
        go_upto_region 4 with fail
        rw [← hw5]
        clear hw5 bb
        have HS : Hid (∀ wz, Below w4.heap.size w4 wz → Below w1.heap.size w1 wz ∧ Below w.heap.size w wz) := (show _ from fun wz hz => ⟨B14.out.trans (hz.mono B14.out.size), B4.out.trans (hz.mono B4.out.size)⟩)
        refine wp_region_noPanic ?_
        refine wp_region_held_drew (S := fun w' => Below w4.heap.size w4 w') (by kernel_rfl) (KK.out.2.1.drew) (fun hHeld => ?_)
        refine take_op (i := 0) (v := ?vr0) rfl (by kernel_rfl) (by kernel_rfl) (by kernel_rfl) (fun _ _ _ h => h) rfl hHeld ?yr0 ?rr0
        case yr0 => (intro wz hz; go_simp; first | done | with_reducible rfl)
        try simp only [Act.put, List.setIfInBounds_toArray, List.set_cons_zero, List.set_cons_succ]
        refine take_op (i := 1) (v := ?vr1) rfl (by kernel_rfl) (by kernel_rfl) (by kernel_rfl) (fun _ _ _ h => h) rfl hHeld ?yr1 ?rr1
        case yr1 => (intro wz hz; go_simp; first | done | with_reducible rfl)
        try simp only [Act.put, List.setIfInBounds_toArray, List.set_cons_zero, List.set_cons_succ]
        refine take_op (i := 2) (v := ?vr2) rfl (by kernel_rfl) (by kernel_rfl) (by kernel_rfl) (fun _ _ _ h => h) rfl hHeld ?yr2 ?rr2
        case yr2 => (intro wz hz; go_simp; first | done | with_reducible rfl)
        try simp only [Act.put, List.setIfInBounds_toArray, List.set_cons_zero, List.set_cons_succ]
        refine take_op (i := 4) (v := ?vr4) rfl (by kernel_rfl) (by kernel_rfl) (by kernel_rfl) (fun _ _ _ h => h) rfl hHeld ?yr4 ?rr4
        case yr4 => (intro wz hz; go_simp; first | done | with_reducible rfl)
        try simp only [Act.put, List.setIfInBounds_toArray, List.set_cons_zero, List.set_cons_succ]
        refine take_load (i := 5) rfl (by kernel_rfl) (by kernel_rfl) (by kernel_rfl) 29 _ rfl bs 0 2 (seG cnt (.slice sa m sc)) rfl _ Tryd.underlying29 rfl (by kernel_rfl) (fun _ _ _ h => h) rfl hHeld (fun wz hz => CB.out wz (HS.out wz hz).1) ?_
        try simp only [Act.put, List.setIfInBounds_toArray, List.set_cons_zero, List.set_cons_succ]
        have XR := kRoot_k (fun j => j = w4.heap.size) w4.heap.size (.pointer (some ⟨w4.heap.size, 0, none⟩)) [] 0 n (.slice a n cap) x w5.drew (Or.inr ⟨_, rfl, KK.out.2.2.1⟩) (fun j hj => by omega) (by have := KK.out.1; show w4.heap.size ≤ w5.heap.size; omega) (fun wz hz => by
          have h := (HS.out wz (KK.out.2.1.drew.trans hz)).2
          exact ⟨(HG.out wz h).1, (HG.out wz h).2.2.2⟩) (by have := HN.out; omega) (fun i hi => by have := HX.out i hi; omega) (fun e => by have := T0.out; have := B4.out.size; omega) (by simp) (by omega)
        obtain ⟨R, hR⟩ : ∃ R, R = keyS x n := ⟨_, rfl⟩
        rw [← hR] at XR
        unfold sumV at XR
        refine take_one (i := 3) rfl (by kernel_rfl) rfl (fun K hK => ?_)
        go_simp
        refine Calls.mono XR ?_
        rintro e w6 ⟨rfl, ⟨Fo, ka6, hFo⟩, f6⟩
        have s6 := f6.size
        have s6' : w5.heap.size ≤ w6.heap.size := s6
        have b46 : Below w4.heap.size w4 w6 := KK.out.2.1.drew.trans (f6.below (fun j hj => by omega) (by have := KK.out.1; show w4.heap.size ≤ w5.heap.size; omega))
        have ka6' : bookAt w6 Fo w4.heap.size (keyN [] x n) (keyC 0 n) := by
          rcases ka6 with ⟨e, _⟩ | ⟨k, e, hk⟩
          · cases e
          · have : k = w4.heap.size := by
              injection e with e; injection e with e; injection e with e; exact e.symm
            exact this ▸ hk
        have kb6 : bookAt w6 (fun j => j = w4.heap.size + 1) (w4.heap.size + 1) [] 0 := KK.out.2.2.2.far (fun j hj hl => f6.block j hl (by omega)) s6'
        have ZA : Hid (bookAt w6 Fo w4.heap.size (keyN [] x n) (keyC 0 n) ∧ (∀ j, Fo j → j = w4.heap.size ∨ w5.heap.size ≤ j) ∧ Below w4.heap.size w4 w6) := (show _ from ⟨ka6', hFo, b46⟩)
        have XL := look_k (fun j => j = w4.heap.size + 1) (.pointer (some ⟨w4.heap.size + 1, 0, none⟩)) [] 0 R (by rw [hR]; exact keyS_sum x n) cnt HCN.out m (.slice sa m sc) (.slice ta key.length tcap) y key w4 w6 b46 (fun j hj => by omega) (HG.out w4 B4.out).2.2.1 (HG.out w4 B4.out).2.1 (HG.out w4 B4.out).2.2.2 (Or.inr ⟨_, rfl, kb6⟩) HM.out (fun i => by
          by_cases hi : i < m
          · have := (HY.out i hi).2; omega
          · rw [HYO.out i hi]; simp) (fun i hi => by have := (HY.out i hi).1; omega) (by simp) (by omega)
        rw [← seG_row] at XL
        have HR : Hid (R = keyS x n) := (show R = keyS x n from hR)
        clear hR
        refine hK.out _ _ b46 (fun hHeld => ?_)
        clear hK K XR ka6 ka6' kb6 hFo f6 s6 s6' b46
        try simp only [Act.put, List.setIfInBounds_toArray, List.set_cons_zero, List.set_cons_succ]
        refine take_one (i := 6) rfl (by kernel_rfl) rfl (fun K hK => ?_)
        go_simp
        refine Calls.mono XL ?_
        rintro e w7 ⟨hpost, f7⟩
        have s7 := f7.size
        have b47 : Below w4.heap.size w4 w7 := ZA.out.2.2.trans (f7.below (fun j hj => by omega) ZA.out.2.2.size)
        have ka7 : bookAt w7 Fo w4.heap.size (keyN [] x n) (keyC 0 n) := ZA.out.1.far (fun j hj hl => f7.block j hl (fun e => by
          have h := ZA.out.2.1 j hj
          have := KK.out.1
          rcases h with h | h <;> omega)) s7
        have KA : Hid (bookAt w7 Fo w4.heap.size (keyN [] x n) (keyC 0 n)) := (show bookAt w7 Fo w4.heap.size (keyN [] x n) (keyC 0 n) from ka7)
        have B47 : Hid (Below w4.heap.size w4 w7) := (show Below w4.heap.size w4 w7 from b47)
        have B7 : Hid (Below w.heap.size w w7) := (show Below w.heap.size w w7 from (HS.out w7 b47).2)
        have HN7 : Hid (tellK w7 (w4.heap.size + 1) cnt m y key R e) := (show tellK w7 (w4.heap.size + 1) cnt m y key R e from lookPost_tell hpost)
        clear hpost f7
        rcases HN7.out with rfl | ⟨g1, g2, ⟨s, g3, g4, G, d, g5⟩, g6⟩
        · skip
          refine hK.out _ _ b47 (fun hHeld => ?_)
          clear hK K XL s7 b47 ka7
          try simp only [Act.put, List.setIfInBounds_toArray, List.set_cons_zero, List.set_cons_succ]
          refine take_op (i := 7) (v := ?vf7) rfl (by kernel_rfl) (by kernel_rfl) (by kernel_rfl) (fun _ _ _ h => h) rfl hHeld ?yf7 ?rf7
          case yf7 => (intro wz hz; go_simp; first | done | with_reducible rfl)
          try simp only [Act.put, List.setIfInBounds_toArray, List.set_cons_zero, List.set_cons_succ]
          refine take_op (i := 8) (v := ?vf8) rfl (by kernel_rfl) (by kernel_rfl) (by kernel_rfl) (fun _ _ _ h => h) rfl hHeld ?yf8 ?rf8
          case yf8 => (intro wz hz; go_simp; first | done | with_reducible rfl)
          try simp only [Act.put, List.setIfInBounds_toArray, List.set_cons_zero, List.set_cons_succ]
          refine take_op (i := 9) (v := ?vf9) rfl (by kernel_rfl) (by kernel_rfl) (by kernel_rfl) (fun _ _ _ h => h) rfl hHeld ?yf9 ?rf9
          case yf9 => (intro wz hz; go_simp; first | done | with_reducible rfl)
          try simp only [Act.put, List.setIfInBounds_toArray, List.set_cons_zero, List.set_cons_succ]
          refine take_op (i := 10) (v := ?vf10) rfl (by kernel_rfl) (by kernel_rfl) (by kernel_rfl) (fun _ _ _ h => h) rfl hHeld ?yf10 ?rf10
          case yf10 => (intro wz hz; go_simp; first | done | with_reducible rfl)
          try simp only [Act.put, List.setIfInBounds_toArray, List.set_cons_zero, List.set_cons_succ]
          refine take_op (i := 11) (v := ?vf11) rfl (by kernel_rfl) (by kernel_rfl) (by kernel_rfl) (fun _ _ _ h => h) rfl hHeld ?yf11 ?rf11
          case yf11 => (intro wz hz; go_simp; first | done | with_reducible rfl)
          try simp only [Act.put, List.setIfInBounds_toArray, List.set_cons_zero, List.set_cons_succ]
          refine take_op (i := 12) (v := ?vf12) rfl (by kernel_rfl) (by kernel_rfl) (by kernel_rfl) (fun _ _ _ h => h) rfl hHeld ?yf12 ?rf12
          case yf12 => (intro wz hz; go_simp; first | done | with_reducible rfl)
          try simp only [Act.put, List.setIfInBounds_toArray, List.set_cons_zero, List.set_cons_succ]
          refine take_op (i := 13) (v := ?vf13) rfl (by kernel_rfl) (by kernel_rfl) (by kernel_rfl) (fun _ _ _ h => h) rfl hHeld ?yf13 ?rf13
          case yf13 => (intro wz hz; go_simp; first | done | with_reducible rfl)
          try simp only [Act.put, List.setIfInBounds_toArray, List.set_cons_zero, List.set_cons_succ]
          refine wpAnyH_done (by kernel_rfl) ?_ _
          refine NoPanic.normal ?_
          clear hHeld
          have XT := kstands_any n (.slice a n cap) (.slice ta key.length tcap) x key w7 (HG.out w7 B7.out).1 (HG.out w7 B7.out).2.1
          go_wp2_with fail
          refine XT.mono ?_
          rintro e w8 ⟨hst, b78⟩
          have B78 : Hid (Below w7.heap.size w7 w8) := (show Below w7.heap.size w7 w8 from b78)
          have B8 : Hid (Below w.heap.size w w8) := (show Below w.heap.size w w8 from B7.out.trans (b78.mono B7.out.size))
          clear XT b78
          rcases hst with ⟨i, _, _, _, rfl⟩ | ⟨_, rfl⟩
          · skip
            have XW := HAW.out w8 B8.out
            go_wp2_with fail
            refine XW.mono ?_
            rintro e w9 ⟨rfl, b9⟩
            clear XW
            go_wp2
            go_ret
            exact ⟨rfl, B8.out.trans (b9.mono B8.out.size)⟩
          · skip
            have XW := HAW.out w8 B8.out
            go_wp2_with fail
            refine XW.mono ?_
            rintro e w9 ⟨rfl, b9⟩
            clear XW
            go_wp2
            go_ret
            exact ⟨rfl, B8.out.trans (b9.mono B8.out.size)⟩
        · skip
          obtain ⟨NN, hNN⟩ : ∃ NN, NN = addN (if m = 0 then rootN [] [] else spN [] cnt y m) (krootNt cnt s) := ⟨_, rfl⟩
          rw [← hNN] at g5
          have KBD : Hid (kclashB (keyN [] x n) NN = false → (∀ k, k < m → (y k).pr.1 = key → ∃ i, i < n ∧ x i = (y k).pr) ∧ ((∀ j, j < m → ¬ (y j).pr.1 = key) → ∀ i, i < n → ¬ (x i).1 = key)) := (show _ from fun hc =>
            kbind (kclashB_none hc) x n (by have := HN.out; omega) HMB.out (fun i hi => ⟨(BY.out.1 i hi).1, (BY.out.1 i hi).2, by have := HX.out i hi; omega⟩) (fun z hz => hz) cnt HCN.out m y (fun k hk => ⟨(BY.out.2 k hk).1, (BY.out.2 k hk).2.1, by have := (HY.out k hk).1; omega⟩) (fun k hk => (BY.out.2 k hk).2.2) key s g1 g2 g3 (by rw [g4, HR.out]) (fun z hz => by rw [hNN]; exact hz))
          have SZ : Hid ((keyN [] x n ++ NN).length < 1000000 ∧ (∀ z ∈ keyN [] x n, z.2.size ≤ 1000000000) ∧ ∀ z ∈ NN, z.2.size ≤ 1000000000) := (show _ from ⟨by
            have a1 := keyN_len x n
            have a2 := lookN_len (n := cnt) (y := y) (m := m) (s := s) (fun k hk => by have := (HY.out k hk).2; omega)
            rw [← hNN] at a2
            have := HN.out
            have := HM.out
            rw [List.length_append]
            omega, keyN_size (fun i hi => by have := HX.out i hi; omega), by rw [hNN]; exact lookN_size (okLd_sum g3) (fun k hk => by have := (HY.out k hk).1; omega) (fun k hk => (BY.out.2 k hk).2.2)⟩)
          have KB : Hid (bookAt w7 G (w4.heap.size + 1) NN d) := (show bookAt w7 G (w4.heap.size + 1) NN d from g5)
          clear g1 g2 g3 g4 g5 hNN HN7
          rcases g6 with ⟨k, h7, h8, va, vc, h9, rfl⟩ | ⟨hno, rfl⟩
          · skip
            have HV : Hid (k < m ∧ (y k).pr.1 = key) := (show _ ∧ _ from ⟨h7, h8⟩)
            have HB7 : Hid (isBytes w7 (.slice va (y k).pr.2.length vc) (y k).pr.2) := (show isBytes w7 (.slice va (y k).pr.2.length vc) (y k).pr.2 from h9)
            clear h7 h8 h9
            refine hK.out _ _ b47 (fun hHeld => ?_)
            clear hK K XL s7 b47 ka7
            try simp only [Act.put, List.setIfInBounds_toArray, List.set_cons_zero, List.set_cons_succ]
            refine take_op (i := 7) (v := ?vg7) rfl (by kernel_rfl) (by kernel_rfl) (by kernel_rfl) (fun _ _ _ h => h) rfl hHeld ?yg7 ?rg7
            case yg7 => (intro wz hz; go_simp; first | done | with_reducible rfl)
            try simp only [Act.put, List.setIfInBounds_toArray, List.set_cons_zero, List.set_cons_succ]
            refine take_op (i := 8) (v := ?vg8) rfl (by kernel_rfl) (by kernel_rfl) (by kernel_rfl) (fun _ _ _ h => h) rfl hHeld ?yg8 ?rg8
            case yg8 => (intro wz hz; go_simp; first | done | with_reducible rfl)
            try simp only [Act.put, List.setIfInBounds_toArray, List.set_cons_zero, List.set_cons_succ]
            refine take_op (i := 9) (v := ?vg9) rfl (by kernel_rfl) (by kernel_rfl) (by kernel_rfl) (fun _ _ _ h => h) rfl hHeld ?yg9 ?rg9
            case yg9 => (intro wz hz; go_simp; first | done | with_reducible rfl)
            try simp only [Act.put, List.setIfInBounds_toArray, List.set_cons_zero, List.set_cons_succ]
            refine take_op (i := 10) (v := ?vg10) rfl (by kernel_rfl) (by kernel_rfl) (by kernel_rfl) (fun _ _ _ h => h) rfl hHeld ?yg10 ?rg10
            case yg10 => (intro wz hz; go_simp; first | done | with_reducible rfl)
            try simp only [Act.put, List.setIfInBounds_toArray, List.set_cons_zero, List.set_cons_succ]
            refine take_op (i := 11) (v := ?vg11) rfl (by kernel_rfl) (by kernel_rfl) (by kernel_rfl) (fun _ _ _ h => h) rfl hHeld ?yg11 ?rg11
            case yg11 => (intro wz hz; go_simp; first | done | with_reducible rfl)
            try simp only [Act.put, List.setIfInBounds_toArray, List.set_cons_zero, List.set_cons_succ]
            refine take_op (i := 12) (v := ?vg12) rfl (by kernel_rfl) (by kernel_rfl) (by kernel_rfl) (fun _ _ _ h => h) rfl hHeld ?yg12 ?rg12
            case yg12 => (intro wz hz; go_simp; first | done | with_reducible rfl)
            try simp only [Act.put, List.setIfInBounds_toArray, List.set_cons_zero, List.set_cons_succ]
            refine take_op (i := 13) (v := ?vg13) rfl (by kernel_rfl) (by kernel_rfl) (by kernel_rfl) (fun _ _ _ h => h) rfl hHeld ?yg13 ?rg13
            case yg13 => (intro wz hz; go_simp; first | done | with_reducible rfl)
            try simp only [Act.put, List.setIfInBounds_toArray, List.set_cons_zero, List.set_cons_succ]
            refine wpAnyH_done (by kernel_rfl) ?_ _
            refine NoPanic.normal ?_
            clear hHeld
            have XT := kstands_any n (.slice a n cap) (.slice ta key.length tcap) x key w7 (HG.out w7 B7.out).1 (HG.out w7 B7.out).2.1
            go_wp2_with fail
            refine XT.mono ?_
            rintro e w8 ⟨hst, b78⟩
            have B78 : Hid (Below w7.heap.size w7 w8) := (show Below w7.heap.size w7 w8 from b78)
            have B8 : Hid (Below w.heap.size w w8) := (show Below w.heap.size w w8 from B7.out.trans (b78.mono B7.out.size))
            clear XT b78
            have hcv := convK w8 (.slice va (y k).pr.2.length vc) (y k).pr.2 (Or.inl (HB7.out.below B78.out (Nat.le_refl _)))
            rcases hst with ⟨i, hi, hki, _, rfl⟩ | ⟨hnone, rfl⟩
            · skip
              have HI : Hid (i < n ∧ (x i).1 = key) := (show _ ∧ _ from ⟨hi, hki⟩)
              clear hi hki
              by_cases heq : strOf (y k).pr.2 = strOf (x i).2
              · skip
                rw [← heq]
                clear heq
                generalize strOf (y k).pr.2 = SS at hcv ⊢
                have hbq : (SS.toList == SS.toList) = true := beq_self_eq_true _
                have XW := HAW.out w8 B8.out
                go_wp2_with (first | (refine wpList_convG' 23 9 (.tmp 62) rfl rfl rfl hcv ?_))
                refine XW.mono ?_
                rintro e w9 ⟨rfl, b9⟩
                clear XW hcv
                go_wp2
                go_ret
                exact ⟨rfl, B8.out.trans (b9.mono B8.out.size)⟩
              · skip
                have hcl : kclashB (keyN [] x n) NN = true := by
                  cases hc : kclashB (keyN [] x n) NN with
                  | true => rfl
                  | false => exact absurd (by
                      obtain ⟨i', h1, h2⟩ := (KBD.out hc).1 k HV.out.1 HV.out.2
                      have h3 : i' = i := may_once HMB.out h1 HI.out.1 (by rw [h2, HV.out.2, HI.out.2])
                      rw [← h3, h2]) heq
                have hbq : ((strOf (y k).pr.2).toList == (strOf (x i).2).toList) = false := by rw [str_beq]; exact decide_eq_false heq
                clear heq
                generalize strOf (y k).pr.2 = SS at hcv hbq
                generalize strOf (x i).2 = TT at hbq ⊢
                have XC := clash2 Fo G w4.heap.size (w4.heap.size + 1) (keyN [] x n) NN (keyC 0 n) d w8 (KA.out.below B78.out (Nat.le_refl _)) (KB.out.below B78.out (Nat.le_refl _)) SZ.out.1 SZ.out.2.1 SZ.out.2.2 hcl
                clear hcl
                go_wp2_with (first | (refine wpList_convG' 23 9 (.tmp 62) rfl rfl rfl hcv ?_))
                refine XC.mono ?_
                rintro e w9 ⟨xa, ca, xb, cb, s1, t1, rfl, c1, c2, hne, b9⟩
                have B9 : Hid (Below w.heap.size w w9) := (show Below w.heap.size w w9 from B8.out.trans (b9.mono B8.out.size))
                have XW := HAW.out w9 B9.out
                clear XC b9
                go_wp2_with (first | (refine wpList_convG' 23 9 (.tmp 79) rfl rfl rfl c1 ?_) | (refine wpList_convG' 23 9 (.tmp 81) rfl rfl rfl c2 ?_))
                refine XW.mono ?_
                rintro e wA ⟨rfl, bA⟩
                clear XW c1 c2
                go_wp2
                go_ret
                exact ⟨rfl, B9.out.trans (bA.mono B9.out.size)⟩
            · skip
              have hcl : kclashB (keyN [] x n) NN = true := by
                cases hc : kclashB (keyN [] x n) NN with
                | true => rfl
                | false => exact absurd HV.out.2 (fun e => by
                    obtain ⟨i', h1, h2⟩ := (KBD.out hc).1 k HV.out.1 HV.out.2
                    exact hnone i' h1 (by rw [h2]; exact e))
              clear hnone hcv
              have XC := clash2 Fo G w4.heap.size (w4.heap.size + 1) (keyN [] x n) NN (keyC 0 n) d w8 (KA.out.below B78.out (Nat.le_refl _)) (KB.out.below B78.out (Nat.le_refl _)) SZ.out.1 SZ.out.2.1 SZ.out.2.2 hcl
              clear hcl
              go_wp2_with fail
              refine XC.mono ?_
              rintro e w9 ⟨xa, ca, xb, cb, s1, t1, rfl, c1, c2, hne, b9⟩
              have B9 : Hid (Below w.heap.size w w9) := (show Below w.heap.size w w9 from B8.out.trans (b9.mono B8.out.size))
              have XW := HAW.out w9 B9.out
              clear XC b9
              go_wp2_with (first | (refine wpList_convG' 23 9 (.tmp 79) rfl rfl rfl c1 ?_) | (refine wpList_convG' 23 9 (.tmp 81) rfl rfl rfl c2 ?_))
              refine XW.mono ?_
              rintro e wA ⟨rfl, bA⟩
              clear XW c1 c2
              go_wp2
              go_ret
              exact ⟨rfl, B9.out.trans (bA.mono B9.out.size)⟩
          · skip
            have HNO : Hid (∀ j, j < m → ¬ (y j).pr.1 = key) := (show _ from hno)
            clear hno
            refine hK.out _ _ b47 (fun hHeld => ?_)
            clear hK K XL s7 b47 ka7
            try simp only [Act.put, List.setIfInBounds_toArray, List.set_cons_zero, List.set_cons_succ]
            refine take_op (i := 7) (v := ?vh7) rfl (by kernel_rfl) (by kernel_rfl) (by kernel_rfl) (fun _ _ _ h => h) rfl hHeld ?yh7 ?rh7
            case yh7 => (intro wz hz; go_simp; first | done | with_reducible rfl)
            try simp only [Act.put, List.setIfInBounds_toArray, List.set_cons_zero, List.set_cons_succ]
            refine take_op (i := 8) (v := ?vh8) rfl (by kernel_rfl) (by kernel_rfl) (by kernel_rfl) (fun _ _ _ h => h) rfl hHeld ?yh8 ?rh8
            case yh8 => (intro wz hz; go_simp; first | done | with_reducible rfl)
            try simp only [Act.put, List.setIfInBounds_toArray, List.set_cons_zero, List.set_cons_succ]
            refine take_op (i := 9) (v := ?vh9) rfl (by kernel_rfl) (by kernel_rfl) (by kernel_rfl) (fun _ _ _ h => h) rfl hHeld ?yh9 ?rh9
            case yh9 => (intro wz hz; go_simp; first | done | with_reducible rfl)
            try simp only [Act.put, List.setIfInBounds_toArray, List.set_cons_zero, List.set_cons_succ]
            refine take_op (i := 10) (v := ?vh10) rfl (by kernel_rfl) (by kernel_rfl) (by kernel_rfl) (fun _ _ _ h => h) rfl hHeld ?yh10 ?rh10
            case yh10 => (intro wz hz; go_simp; first | done | with_reducible rfl)
            try simp only [Act.put, List.setIfInBounds_toArray, List.set_cons_zero, List.set_cons_succ]
            refine take_op (i := 11) (v := ?vh11) rfl (by kernel_rfl) (by kernel_rfl) (by kernel_rfl) (fun _ _ _ h => h) rfl hHeld ?yh11 ?rh11
            case yh11 => (intro wz hz; go_simp; first | done | with_reducible rfl)
            try simp only [Act.put, List.setIfInBounds_toArray, List.set_cons_zero, List.set_cons_succ]
            refine take_op (i := 12) (v := ?vh12) rfl (by kernel_rfl) (by kernel_rfl) (by kernel_rfl) (fun _ _ _ h => h) rfl hHeld ?yh12 ?rh12
            case yh12 => (intro wz hz; go_simp; first | done | with_reducible rfl)
            try simp only [Act.put, List.setIfInBounds_toArray, List.set_cons_zero, List.set_cons_succ]
            refine take_op (i := 13) (v := ?vh13) rfl (by kernel_rfl) (by kernel_rfl) (by kernel_rfl) (fun _ _ _ h => h) rfl hHeld ?yh13 ?rh13
            case yh13 => (intro wz hz; go_simp; first | done | with_reducible rfl)
            try simp only [Act.put, List.setIfInBounds_toArray, List.set_cons_zero, List.set_cons_succ]
            refine wpAnyH_done (by kernel_rfl) ?_ _
            refine NoPanic.normal ?_
            clear hHeld
            have XT := kstands_any n (.slice a n cap) (.slice ta key.length tcap) x key w7 (HG.out w7 B7.out).1 (HG.out w7 B7.out).2.1
            go_wp2_with fail
            refine XT.mono ?_
            rintro e w8 ⟨hst, b78⟩
            have B78 : Hid (Below w7.heap.size w7 w8) := (show Below w7.heap.size w7 w8 from b78)
            have B8 : Hid (Below w.heap.size w w8) := (show Below w.heap.size w w8 from B7.out.trans (b78.mono B7.out.size))
            clear XT b78
            rcases hst with ⟨i, hi, hki, _, rfl⟩ | ⟨hnone, rfl⟩
            · skip
              have hcl : kclashB (keyN [] x n) NN = true := by
                cases hc : kclashB (keyN [] x n) NN with
                | true => rfl
                | false => exact absurd hki ((KBD.out hc).2 HNO.out i hi)
              clear hi hki
              have XC := clash2 Fo G w4.heap.size (w4.heap.size + 1) (keyN [] x n) NN (keyC 0 n) d w8 (KA.out.below B78.out (Nat.le_refl _)) (KB.out.below B78.out (Nat.le_refl _)) SZ.out.1 SZ.out.2.1 SZ.out.2.2 hcl
              clear hcl
              go_wp2_with fail
              refine XC.mono ?_
              rintro e w9 ⟨xa, ca, xb, cb, s1, t1, rfl, c1, c2, hne, b9⟩
              have B9 : Hid (Below w.heap.size w w9) := (show Below w.heap.size w w9 from B8.out.trans (b9.mono B8.out.size))
              have XW := HAW.out w9 B9.out
              clear XC b9
              go_wp2_with (first | (refine wpList_convG' 23 9 (.tmp 79) rfl rfl rfl c1 ?_) | (refine wpList_convG' 23 9 (.tmp 81) rfl rfl rfl c2 ?_))
              refine XW.mono ?_
              rintro e wA ⟨rfl, bA⟩
              clear XW c1 c2
              go_wp2
              go_ret
              exact ⟨rfl, B9.out.trans (bA.mono B9.out.size)⟩
            · skip
              have hcv : (convert 23 9 (.slice none 0 0)).run Tryd.prog w8 = .ok (.string { data := #[] }) w8 := convK w8 (.slice none 0 0) [] (Or.inl (Or.inl ⟨rfl, rfl⟩))
              have XW := HAW.out w8 B8.out
              clear hnone
              go_wp2_with (first | (refine wpList_convG' 23 9 (.tmp 62) rfl rfl rfl hcv ?_))
              refine XW.mono ?_
              rintro e w9 ⟨rfl, b9⟩
              clear XW hcv
              go_wp2
              go_ret
              exact ⟨rfl, B8.out.trans (b9.mono B8.out.size)⟩
end Go.Proofs.YtgchnobifidjcaaDoor

/- The frame of a law's row: what was read reads behind the call as it did, where nothing old has turned. -/
namespace Go.Proofs.YtgchnobifidjcaaDoor
open Go.RowKit Go.Deep Go.ChangeShapes Go.WideShapes Go.ChangeAt

theorem below_trodAll {H : Type} {enc : TypeId × Value → H} {P : Program} (hl : laidOutB P = true) {W W' : World} (hb : Below W.heap.size W W') :
    ∀ {ts : List TypeId} {vs : List Value} {ds : List (DataW H)} {ps : List MemPlace}, (∀ t ∈ ts, P.readableRec t = true ∧ t < P.types.size) → DataW.TrodAll enc P W 0 (fun _ => true) true ts vs ds ps → (∀ x ∈ ps, x.block < W.heap.size) →
      DataW.TrodAll enc P W' 0 (fun b => decide (b < W.heap.size)) true ts vs ds ps
  | [], [], [], _, _, h, _ => h
  | t :: ts, v :: vs, d :: ds, ps, hts, h, hlt => by
    obtain ⟨p, q, h1, h2, e⟩ := h
    subst e
    exact ⟨p, q, Below.trod hl (hts t List.mem_cons_self).1 (hts t List.mem_cons_self).2 h1 hb (fun x hx => hlt x (List.mem_append_left _ hx)), below_trodAll hl hb (fun u hu => hts u (List.mem_cons_of_mem _ hu)) h2 (fun x hx => hlt x (List.mem_append_right _ hx)), rfl⟩

/-- WHAT A LAW's ROW ASKS BEHIND THE CALL, where the answer is true and nothing old has turned. -/
theorem law_post {H : Type} {enc : TypeId × Value → H} {P : Program} {spec : ChangeSpec} {f : Func} {W W' : World} {args : Array Value} {ds gs : List (DataW H)} {before : List MemPlace} {tb : TypeId}
    (hl : laidOutB P = true) (hts : ∀ t ∈ f.params.toList, P.readableRec t = true ∧ t < P.types.size) (hvars : spec.vars = []) (hres : f.resultTypes = #[tb]) (hbool : P.underlying tb = some .bool)
    (hspec : spec.fn H (ds ++ gs) = { results := [.lit (.bool true)], args := ds })
    (hW : DataW.Whole enc P f.params.toList spec.vars false W args.toList ds gs before) (hb : Below W.heap.size W W') : spec.post enc P f false true false false W args (.bool true) W' := by
  have hW' := hW
  have hlt := hW.lt
  obtain ⟨p, q, hA, hV, rfl, hfz, hnd⟩ := hW
  rw [hvars] at hV
  obtain ⟨rfl, rfl⟩ := trodVars_none hV
  refine ⟨ds, [], p ++ [], [], p, [], hW', ?_, ?_, ?_, ?_, fun h => by cases h⟩
  · rw [hspec, hres]
    exact trodAll_cons_mk (shut_bool hbool _) trodAll_mk0
  · rw [hspec]
    exact below_trodAll hl hb hts hA (fun x hx => hlt x (List.mem_append_left _ hx))
  · rw [hspec, hvars]; exact hV
  · exact hb.frame _

/-- AN ARRAY OF BYTES, opened. -/
theorem open_bytes {H : Type} {enc : TypeId × Value → H} {P : Program} {w : World} {base b0 : Nat} {sp : Nat → Bool} {held : Bool} {r : Reach} {t e : TypeId} {n : Nat} {v : Value} {d : DataW H} {ps : List MemPlace}
    (hu : P.underlying t = some (.array n e)) (he : P.underlying e = some (.int .u8)) (hc : P.cellsOf e = 1) (hct : P.cellsOf t = n) (hval : Value.okWide P w r b0 t v) (hd : DataW.Trod enc P w base sp held t v d ps) :
    ∃ f : Nat → Int, v = .agg (rowV n fun i => .int .u8 (f i)) ∧ ∀ i, 0 ≤ f i ∧ f i ≤ 255 := by
  unfold Value.okWide at hval
  rw [hu] at hval
  obtain ⟨cs, rfl, hsz, _⟩ := hval
  obtain ⟨fuel, hf⟩ := hd
  obtain ⟨xs, m, rfl, _, hlen, _, hx⟩ := DataW.trod_array hu hf
  simp only [Value.cells] at hx hlen
  have hget : ∀ i, i < n → ∃ z : Int, cs[i]? = some (.int .u8 z) ∧ 0 ≤ z ∧ z ≤ 255 := fun i hi => by
    have h1 := hx i hi
    rw [hc, Nat.mul_one] at h1
    have hxi : i < xs.length := by omega
    rw [List.getElem?_eq_getElem hxi] at h1
    obtain ⟨z, hz, _, hw⟩ := DataW.trod_int he h1
    refine ⟨z, ?_, bounds_u8 hw⟩
    have hcs : cs.toList[i]? = some (.int .u8 z) := by
      have := congrArg (fun l => l[0]?) hz
      simpa [List.getElem?_take, List.getElem?_drop] using this
    rw [← Array.getElem?_toList]; exact hcs
  refine ⟨fun i => if h : i < n then Classical.choose (hget i h) else 0, ?_, fun i => ?_⟩
  · congr 1
    refine rowV_eq (by omega) fun i hi => ?_
    dsimp only
    rw [dif_pos hi]; exact (Classical.choose_spec (hget i hi)).1
  · dsimp only
    by_cases h : i < n
    · rw [dif_pos h]; exact (Classical.choose_spec (hget i h)).2
    · rw [dif_neg h]; omega
end Go.Proofs.YtgchnobifidjcaaDoor

/- The frame of a law's row, where no package variable is laid. -/
namespace Go.Proofs.YtgchnobifidjcaaDoor
open Go.RowKit Go.Deep Go.ChangeShapes Go.WideShapes Go.ChangeAt
theorem own : ownKnob Tryd.prog.godebug = none := by kernel_rfl
theorem laidOut : laidOutB Tryd.prog = true := by kernel_rfl
theorem bounds_u64 {a : Int} (h : (Lit.int .u64 a).wf = true) : 0 ≤ a ∧ a < 18446744073709551616 := by
  have h' : 0 ≤ a ∧ a ≤ 18446744073709551615 := by simpa [Lit.wf, IntKind.min, IntKind.max, IntKind.signed, IntKind.bits] using h
  omega
end Go.Proofs.YtgchnobifidjcaaDoor

/- Slices that came in, opened. -/
namespace Go.Proofs.YtgchnobifidjcaaDoor
open Go.RowKit Go.Deep Go.ChangeShapes Go.WideShapes

theorem bounds_i64 {a : Int} (h : (Lit.int .i64 a).wf = true) : -9223372036854775808 ≤ a ∧ a ≤ 9223372036854775807 := by
  simpa [Lit.wf, IntKind.min, IntKind.max, IntKind.signed, IntKind.bits] using h
/-- A SLICE, opened at every index. -/
theorem open_any {H : Type} {enc : TypeId × Value → H} {P : Program} {w : World} {base b0 : Nat} {sp : Nat → Bool} {held : Bool} {r : Reach} {t e : TypeId} {v : Value} {d : DataW H} {ps : List MemPlace} (c : Nat)
    (hu : P.underlying t = some (.slice e)) (hc : P.cellsOf e = c) (hval : Value.okWide P w r b0 t v) (hd : DataW.Trod enc P w base sp held t v d ps) :
    (v = .slice none 0 0) ∨ ∃ pb po len cap : Nat, v = .slice (some ⟨pb, po, none⟩) len cap ∧ len ≤ cap ∧ cap ≤ maxLen ∧ pb < w.heap.size ∧
      ∀ i, i < len → ∃ (cs' : List Value) (n : Nat) (D : DataW H × List MemPlace), cs'.length = c ∧ (∀ j, j < c → w.cell? ⟨pb, po + i * c + j, none⟩ = cs'[j]?) ∧ DataW.trod enc P w base sp held n e cs' = some D := by
  obtain ⟨a, len, cap, rfl⟩ := okWide_slice hu hval
  obtain ⟨fuel, hf⟩ := hd
  rcases open_slice hu hf with ⟨h0, _⟩ | ⟨a', len', cap', m, n, D, Pl, h0, _, h1, h2, h3, _, h4⟩
  · left; simpa [Value.cells] using h0
  · right
    have h0' : a = some a' ∧ len = len' ∧ cap = cap' := by simpa [Value.cells] using h0
    obtain ⟨rfl, rfl, rfl⟩ := h0'
    have hlm : len ≤ m := by rw [h3]; split <;> omega
    simp only [Value.okWide, hu, Cell.okWide, Cell.ok] at hval
    obtain ⟨_, _, _, hsp, row, cells, hsh, _⟩ := hval
    obtain ⟨pb, po, spot⟩ := a'
    obtain rfl : spot = none := hsp
    refine ⟨pb, po, len, cap, rfl, h1, h2, ?_, fun i hi => ?_⟩
    · unfold World.shape? at hsh
      cases hq : w.heap[pb]? with
      | none => rw [hq] at hsh; cases hsh
      | some o => exact (Array.getElem?_eq_some_iff.1 hq).1
    · obtain ⟨cs', g1, g2⟩ := h4 i (by omega)
      rw [hc] at g1
      obtain ⟨_, hlen, hcell⟩ := World.cells?_some g1
      refine ⟨cs', n, _, hlen, fun j hj => ?_, g2⟩
      have e0 := hcell j (by omega)
      rw [add_add, Addr.add_mid] at e0
      rw [Nat.add_assoc]; exact e0
theorem open_bytes_slice {H : Type} {enc : TypeId × Value → H} {P : Program} {w : World} {base b0 : Nat} {sp : Nat → Bool} {held : Bool} {r : Reach} {t e : TypeId} {v : Value} {d : DataW H} {ps : List MemPlace}
    (hu : P.underlying t = some (.slice e)) (he : P.underlying e = some (.int .u8)) (hc : P.cellsOf e = 1) (hval : Value.okWide P w r b0 t v) (hd : DataW.Trod enc P w base sp held t v d ps) : ∃ l, isBytes w v l := by
  rcases open_any 1 hu hc hval hd with rfl | ⟨pb, po, len, cap, rfl, h1, h2, h3, h4⟩
  · exact ⟨[], Or.inl ⟨rfl, rfl⟩⟩
  · have each : ∀ i, i < len → ∃ z : Int, w.cell? ⟨pb, po + i, none⟩ = some (.int .u8 z) ∧ 0 ≤ z ∧ z ≤ 255 := fun i hi => by
      obtain ⟨cs', n, D, g1, g2, g3⟩ := h4 i hi
      obtain ⟨z, rfl, _, hw⟩ := DataW.trod_int he g3
      have := g2 0 (by omega)
      rw [Nat.mul_one, Nat.add_zero] at this
      exact ⟨z, this, bounds_u8 hw⟩
    obtain ⟨f, hf⟩ := choose_lt each
    have hg : ∀ i, i < len → ((List.range len).map f).getD i 0 = f i := fun i hi => by
      rw [List.getD_eq_getElem?_getD, List.getElem?_map, List.getElem?_range hi]; rfl
    refine ⟨(List.range len).map f, Or.inr ⟨pb, po, cap, by simp, by simpa using h1, h2, h3, fun i hi => ?_, fun i => ?_⟩⟩
    · have hi' : i < len := by simpa using hi
      rw [hg i hi']; exact (hf i hi').1
    · by_cases hi : i < len
      · rw [hg i hi]; exact (hf i hi).2
      · rw [List.getD_eq_getElem?_getD, List.getElem?_eq_none (by simp; omega)]; exact ⟨by simp, by simp⟩
end Go.Proofs.YtgchnobifidjcaaDoor

/- Slices of slices of bytes that came in, opened. -/
namespace Go.Proofs.YtgchnobifidjcaaDoor
set_option maxRecDepth 100000
open Go.RowKit Go.Deep Go.ChangeShapes Go.WideShapes

theorem open_inner {H : Type} {enc : TypeId × Value → H} {w : World} {base : Nat} {held : Bool} {n : Nat} {u : Value} {D : DataW H × List MemPlace}
    (hd : DataW.trod enc Tryd.prog w base (fun _ => true) held n 23 [u] = some D) : ∃ l, anyBytes w u l := by
  rcases open_slice1 Tryd.underlying23 (by kernel_rfl) hd with ⟨h0, _⟩ | ⟨a, len, cap, m, n', V, D', Pl, h0, _, h1, h2, h3, _, h4⟩
  · exact ⟨[], Or.inl (Or.inl ⟨by simpa using h0, rfl⟩)⟩
  · obtain rfl : u = .slice (some a) len cap := by simpa using h0
    simp only [if_true] at h3
    subst h3
    by_cases hc : m = 0
    · subst hc
      obtain rfl : len = 0 := by omega
      exact ⟨[], Or.inr ⟨⟨_, rfl⟩, rfl⟩⟩
    · have h00 := (h4 0 (by omega)).1
      have ha0 : a.add 0 = a := by unfold Addr.add; rw [if_pos rfl]
      rw [ha0] at h00
      have hsp : a.spot = none := by
        unfold World.cell? at h00
        split at h00
        · cases hs : a.spot with
          | none => rfl
          | some q => rw [hs] at h00; simp at h00
        · cases h00
      obtain ⟨pb, po, spot⟩ := a
      obtain rfl : spot = none := hsp
      have hlt := World.block_lt_of_cell? _ _ h00
      have each : ∀ i, i < len → ∃ z : Int, w.cell? ⟨pb, po + i, none⟩ = some (.int .u8 z) ∧ 0 ≤ z ∧ z ≤ 255 := fun i hi => by
        obtain ⟨e1, e2⟩ := h4 i (by omega)
        rw [Addr.add_mid] at e1
        obtain ⟨z, hz, _, hw⟩ := DataW.trod_int Tryd.underlying5 e2
        have hz' : V i = .int .u8 z := by simpa using hz
        exact ⟨z, by rw [e1, hz'], bounds_u8 hw⟩
      obtain ⟨f, hf⟩ := choose_lt each
      have hg : ∀ i, i < len → ((List.range len).map f).getD i 0 = f i := fun i hi => by
        rw [List.getD_eq_getElem?_getD, List.getElem?_map, List.getElem?_range hi]; rfl
      refine ⟨(List.range len).map f, Or.inl (Or.inr ⟨pb, po, m, by simp, by simpa using h1, h2, hlt, fun i hi => ?_, fun i => ?_⟩)⟩
      · have hi' : i < len := by simpa using hi
        rw [hg i hi']; exact (hf i hi').1
      · by_cases hi : i < len
        · rw [hg i hi]; exact (hf i hi).2
        · rw [List.getD_eq_getElem?_getD, List.getElem?_eq_none (by simp; omega)]; exact ⟨by simp, by simp⟩
theorem open_parts {H : Type} {enc : TypeId × Value → H} {w : World} {base b0 : Nat} {held : Bool} {r : Reach} {v : Value} {d : DataW H} {ps : List MemPlace}
    (hval : Value.okWide Tryd.prog w r b0 130 v) (hd : DataW.Trod enc Tryd.prog w base (fun _ => true) held 130 v d ps) : ∃ n p, isParts w v n p := by
  rcases open_any 1 Tryd.underlying130 (by kernel_rfl) hval hd with rfl | ⟨pb, po, len, cap, rfl, h1, h2, h3, h4⟩
  · exact ⟨0, fun _ => [], Or.inl ⟨rfl, rfl⟩⟩
  · have each : ∀ i, i < len → ∃ z : Value × List Int, w.cell? ⟨pb, po + i, none⟩ = some z.1 ∧ anyBytes w z.1 z.2 := fun i hi => by
      obtain ⟨cs', n, D, g1, g2, g3⟩ := h4 i hi
      match cs', g1 with
      | [u], _ =>
        obtain ⟨l, hl⟩ := open_inner g3
        have := g2 0 (by omega)
        rw [Nat.mul_one, Nat.add_zero] at this
        exact ⟨(u, l), this, hl⟩
    obtain ⟨f, hf⟩ := choose_lt each
    exact ⟨len, fun i => (f i).2, Or.inr ⟨pb, po, cap, fun i => (f i).1, rfl, h3, by omega, fun i hi => hf i hi⟩⟩
end Go.Proofs.YtgchnobifidjcaaDoor

/- Pairs that came in, opened. -/
namespace Go.Proofs.YtgchnobifidjcaaDoor
set_option maxRecDepth 100000
open Go.RowKit Go.Deep Go.ChangeShapes Go.WideShapes

theorem trod_struct2 {H : Type} {enc : TypeId × Value → H} {P : Program} {w : World} {base : Nat} {spare : Nat → Bool} {held : Bool} {t : TypeId} {f0 f1 : Field} {fuel : Nat} {cs : List Value} {x : DataW H × List MemPlace} (ht : P.underlying t = some (.struct #[f0, f1])) (h : DataW.trod enc P w base spare held fuel t cs = some x) :
    ∃ y0 y1 n, cs.length = P.cellsOf t ∧ DataW.trod enc P w base spare held n f0.type ((cs.drop f0.offset).take (P.cellsOf f0.type)) = some y0 ∧ DataW.trod enc P w base spare held n f1.type ((cs.drop f1.offset).take (P.cellsOf f1.type)) = some y1 := by
  obtain ⟨xs, n, _, rfl, hl, hlen, hf⟩ := DataW.trod_struct ht h
  match xs, hlen with
  | [y0, y1], _ => exact ⟨y0, y1, n, hl, by simpa using hf 0 f0 rfl, by simpa using hf 1 f1 rfl⟩
theorem drop_one {cs : List Value} {o : Nat} (h : o < cs.length) : (cs.drop o).take 1 = [cs[o]] := by
  rw [List.drop_eq_getElem_cons h]; rfl
theorem pair_cells {H : Type} {enc : TypeId × Value → H} {w : World} {base : Nat} {held : Bool} {n : Nat} {cs' : List Value} {D : DataW H × List MemPlace} (g1 : cs'.length = 2)
    (g3 : DataW.trod enc Tryd.prog w base (fun _ => true) held n 38 cs' = some D) : ∃ (kc vc : Value) (k v : List Int), cs'[0]? = some kc ∧ cs'[1]? = some vc ∧ anyBytes w kc k ∧ anyBytes w vc v := by
  have cb : Tryd.prog.cellsOf 23 = 1 := by kernel_rfl
  obtain ⟨y0, y1, m, _, t0, t1⟩ := trod_struct2 Tryd.underlying38 g3
  simp only [cb] at t0 t1
  rw [drop_one (by omega)] at t0 t1
  obtain ⟨l0, h0⟩ := open_inner t0
  obtain ⟨l1, h1⟩ := open_inner t1
  exact ⟨_, _, l0, l1, List.getElem?_eq_getElem (by omega), List.getElem?_eq_getElem (by omega), h0, h1⟩
theorem open_pairs {H : Type} {enc : TypeId × Value → H} {w : World} {base b0 : Nat} {held : Bool} {r : Reach} {v : Value} {d : DataW H} {ps : List MemPlace}
    (hval : Value.okWide Tryd.prog w r b0 22 v) (hd : DataW.Trod enc Tryd.prog w base (fun _ => true) held 22 v d ps) : ∃ n x, pairsAt w v n x := by
  rcases open_any 2 Tryd.underlying22 (by kernel_rfl) hval hd with rfl | ⟨pb, po, len, cap, rfl, h1, h2, h3, h4⟩
  · exact ⟨0, fun _ => ([], []), none, 0, rfl, Nat.le_refl _, by decide, fun i hi => by omega⟩
  · have each : ∀ i, i < len → ∃ x : Pr, ∃ kc vc, w.cell? ⟨pb, po + i * 2, none⟩ = some kc ∧ w.cell? ⟨pb, po + i * 2 + 1, none⟩ = some vc ∧ anyBytes w kc x.1 ∧ anyBytes w vc x.2 := fun i hi => by
      obtain ⟨cs', n, D, g1, g2, g3⟩ := h4 i hi
      obtain ⟨kc, vc, k, v, e0, e1, k0, k1⟩ := pair_cells (by omega) g3
      exact ⟨(k, v), kc, vc, by have := g2 0 (by omega); rw [Nat.add_zero] at this; rw [this]; exact e0, by rw [g2 1 (by omega)]; exact e1, k0, k1⟩
    haveI : Inhabited Pr := ⟨([], [])⟩
    obtain ⟨f, hf⟩ := choose_lt each
    exact ⟨len, f, some ⟨pb, po, none⟩, cap, rfl, h1, h2, fun i hi => by
      obtain ⟨kc, vc, e0, e1, k0, k1⟩ := hf i hi
      exact ⟨pb, po, kc, vc, rfl, h3, e0, e1, k0, k1⟩⟩
theorem open_key {H : Type} {enc : TypeId × Value → H} {w : World} {base b0 : Nat} {held : Bool} {r : Reach} {v : Value} {d : DataW H} {ps : List MemPlace}
    (hval : Value.okWide Tryd.prog w r b0 23 v) (hd : DataW.Trod enc Tryd.prog w base (fun _ => true) held 23 v d ps) : ∃ l, anyBytes w v l := by
  obtain ⟨l, h⟩ := open_bytes_slice Tryd.underlying23 Tryd.underlying5 (by kernel_rfl) hval hd
  exact ⟨l, Or.inl h⟩
end Go.Proofs.YtgchnobifidjcaaDoor

/- What is shown, that came in, opened. -/
namespace Go.Proofs.YtgchnobifidjcaaDoor
set_option maxRecDepth 100000
open Go.RowKit Go.Deep Go.ChangeShapes Go.WideShapes

theorem trod_struct3 {H : Type} {enc : TypeId × Value → H} {P : Program} {w : World} {base : Nat} {spare : Nat → Bool} {held : Bool} {t : TypeId} {f0 f1 f2 : Field} {fuel : Nat} {cs : List Value} {x : DataW H × List MemPlace} (ht : P.underlying t = some (.struct #[f0, f1, f2])) (h : DataW.trod enc P w base spare held fuel t cs = some x) :
    ∃ y0 y1 y2 n, cs.length = P.cellsOf t ∧ DataW.trod enc P w base spare held n f0.type ((cs.drop f0.offset).take (P.cellsOf f0.type)) = some y0 ∧ DataW.trod enc P w base spare held n f1.type ((cs.drop f1.offset).take (P.cellsOf f1.type)) = some y1 ∧
      DataW.trod enc P w base spare held n f2.type ((cs.drop f2.offset).take (P.cellsOf f2.type)) = some y2 := by
  obtain ⟨xs, n, _, rfl, hl, hlen, hf⟩ := DataW.trod_struct ht h
  match xs, hlen with
  | [y0, y1, y2], _ => exact ⟨y0, y1, y2, n, hl, by simpa using hf 0 f0 rfl, by simpa using hf 1 f1 rfl, by simpa using hf 2 f2 rfl⟩
/-- a slice within what came in. -/
theorem inner_any {H : Type} {enc : TypeId × Value → H} {P : Program} {w : World} {base : Nat} {held : Bool} {n : Nat} {t e : TypeId} {u : Value} {D : DataW H × List MemPlace} (c : Nat)
    (hu : P.underlying t = some (.slice e)) (hc : P.cellsOf e = c) (hc0 : 0 < c) (hd : DataW.trod enc P w base (fun _ => true) held n t [u] = some D) :
    (∃ a, u = .slice a 0 0) ∨ ∃ pb po len cap : Nat, u = .slice (some ⟨pb, po, none⟩) len cap ∧ len ≤ cap ∧ cap ≤ maxLen ∧ pb < w.heap.size ∧
      ∀ i, i < len → ∃ (cs' : List Value) (n : Nat) (D : DataW H × List MemPlace), cs'.length = c ∧ (∀ j, j < c → w.cell? ⟨pb, po + i * c + j, none⟩ = cs'[j]?) ∧ DataW.trod enc P w base (fun _ => true) held n e cs' = some D := by
  rcases open_slice hu hd with ⟨h0, _⟩ | ⟨a, len, cap, m, n', D', Pl, h0, _, h1, h2, h3, _, h4⟩
  · exact Or.inl ⟨none, by simpa using h0⟩
  · obtain rfl : u = .slice (some a) len cap := by simpa using h0
    simp only [if_true] at h3
    subst h3
    by_cases hc1 : m = 0
    · subst hc1
      obtain rfl : len = 0 := by omega
      exact Or.inl ⟨_, rfl⟩
    · right
      have hat : ∀ i, i < m → ∃ cs', cs'.length = c ∧ (∀ j, j < c → w.cell? ((a.add (i * c)).add j) = cs'[j]?) ∧ DataW.trod enc P w base (fun _ => true) held n' e cs' = some (D' i, Pl i) := fun i hi => by
        obtain ⟨cs', g1, g2⟩ := h4 i hi
        rw [hc] at g1
        obtain ⟨_, hlen, hcell⟩ := World.cells?_some g1
        exact ⟨cs', hlen, fun j hj => hcell j (by omega), g2⟩
      obtain ⟨cs0, l0, c0, _⟩ := hat 0 (by omega)
      have h00 := c0 0 hc0
      rw [Nat.zero_mul] at h00
      have ha0 : ∀ a : Addr, a.add 0 = a := fun a => by unfold Addr.add; rw [if_pos rfl]
      rw [ha0, ha0, List.getElem?_eq_getElem (by omega)] at h00
      have hsp : a.spot = none := by
        unfold World.cell? at h00
        split at h00
        · cases hs : a.spot with
          | none => rfl
          | some q => rw [hs] at h00; simp at h00
        · cases h00
      obtain ⟨pb, po, spot⟩ := a
      obtain rfl : spot = none := hsp
      have hlt := World.block_lt_of_cell? _ _ h00
      refine ⟨pb, po, len, m, rfl, h1, h2, hlt, fun i hi => ?_⟩
      obtain ⟨cs', g1, g2, g3⟩ := hat i (by omega)
      refine ⟨cs', _, _, g1, fun j hj => ?_, g3⟩
      have e0 := g2 j hj
      rw [add_add, Addr.add_mid] at e0
      rw [Nat.add_assoc]; exact e0
theorem sum_cells {H : Type} {enc : TypeId × Value → H} {w : World} {base : Nat} {held : Bool} {n : Nat} {cs' : List Value} {D : DataW H × List MemPlace} (g1 : cs'.length = 32)
    (g3 : DataW.trod enc Tryd.prog w base (fun _ => true) held n 32 cs' = some D) : ∃ q : List Int, isSum q ∧ ∀ j, j < 32 → cs'[j]? = some (arrV q j) := by
  have c8 : Tryd.prog.cellsOf 5 = 1 := by kernel_rfl
  obtain ⟨xs, m', rfl, _, hlen, _, hx⟩ := DataW.trod_array Tryd.underlying32 g3
  have hsum : ∀ j, j < 32 → ∃ z : Int, cs'[j]? = some (.int .u8 z) ∧ 0 ≤ z ∧ z ≤ 255 := fun j hj => by
    have h5 := hx j hj
    rw [c8, Nat.mul_one] at h5
    have hxj : j < xs.length := by omega
    rw [List.getElem?_eq_getElem hxj] at h5
    obtain ⟨z, hz, _, hw⟩ := DataW.trod_int Tryd.underlying5 h5
    refine ⟨z, ?_, bounds_u8 hw⟩
    have := congrArg (fun l => l[0]?) hz
    simp only [List.getElem?_take, List.getElem?_drop, List.getElem?_cons_zero] at this
    simpa using this
  obtain ⟨f, hf⟩ := choose_lt hsum
  refine ⟨(List.range 32).map f, ⟨by simp, fun j => ?_⟩, fun j hj => ?_⟩
  · by_cases hj : j < 32
    · have : ((List.range 32).map f).getD j 0 = f j := by
        rw [List.getD_eq_getElem?_getD, List.getElem?_map, List.getElem?_range hj]; rfl
      rw [this]; exact (hf j hj).2
    · rw [List.getD_eq_getElem?_getD, List.getElem?_eq_none (by simp; omega)]; exact ⟨by simp, by simp⟩
  · have : ((List.range 32).map f).getD j 0 = f j := by
      rw [List.getD_eq_getElem?_getD, List.getElem?_map, List.getElem?_range hj]; rfl
    rw [arrV, this]; exact (hf j hj).1
theorem inner_sums {H : Type} {enc : TypeId × Value → H} {w : World} {base : Nat} {held : Bool} {n : Nat} {u : Value} {D : DataW H × List MemPlace}
    (hd : DataW.trod enc Tryd.prog w base (fun _ => true) held n 39 [u] = some D) : ∃ L, sumsAt w u L := by
  rcases inner_any 32 Tryd.underlying39 (by kernel_rfl) (by decide) hd with ⟨a, rfl⟩ | ⟨pb, po, len, cap, rfl, h1, h2, h3, h4⟩
  · exact ⟨[], fun x hx => by simp at hx, a, 0, rfl, Nat.le_refl _, by decide, fun h => absurd h (by decide)⟩
  · have each : ∀ i, i < len → ∃ q : List Int, isSum q ∧ ∀ j, j < 32 → w.cell? ⟨pb, po + i * 32 + j, none⟩ = some (arrV q j) := fun i hi => by
      obtain ⟨cs', n, D, g1, g2, g3⟩ := h4 i hi
      obtain ⟨q, e1, e2⟩ := sum_cells (by omega) g3
      exact ⟨q, e1, fun j hj => by rw [g2 j hj]; exact e2 j hj⟩
    obtain ⟨f, hf⟩ := choose_lt each
    have hl : ((List.range len).map f).length = len := by simp
    refine ⟨(List.range len).map f, fun x hx => ?_, _, cap, by rw [hl], by rw [hl]; exact h1, h2, fun h0 => ⟨pb, po, rfl, h3, fun i hi j hj => ?_⟩⟩
    · obtain ⟨i, hi, rfl⟩ := List.mem_map.1 hx
      exact (hf i (List.mem_range.1 hi)).1
    · have e : ((List.range len).map f)[i] = f i := by simp
      rw [e]; exact (hf i (by omega)).2 j hj
theorem spot_cells {H : Type} {enc : TypeId × Value → H} {w : World} {base : Nat} {held : Bool} {n : Nat} {cs' : List Value} {D : DataW H × List MemPlace} (g1 : cs'.length = 4)
    (g3 : DataW.trod enc Tryd.prog w base (fun _ => true) held n 41 cs' = some D) : ∃ (y : Sp) (kc vc pc : Value), cs'[0]? = some (.int .i64 y.at_) ∧ cs'[1]? = some kc ∧ cs'[2]? = some vc ∧ cs'[3]? = some pc ∧ anyBytes w kc y.pr.1 ∧ anyBytes w vc y.pr.2 ∧ sumsAt w pc y.path ∧ inI64 y.at_ := by
  have ci : Tryd.prog.cellsOf 3 = 1 := by kernel_rfl
  have cp : Tryd.prog.cellsOf 38 = 2 := by kernel_rfl
  have cs : Tryd.prog.cellsOf 39 = 1 := by kernel_rfl
  obtain ⟨y0, y1, y2, m, _, t0, t1, t2⟩ := trod_struct3 Tryd.underlying41 g3
  simp only [ci, cp, cs] at t0 t1 t2
  rw [drop_one (by omega)] at t0 t2
  obtain ⟨z0, e0, _, b0⟩ := DataW.trod_int (k := .i64) Tryd.underlying3 t0
  obtain ⟨kc, vc, k, v, e1, e2, k1, k2⟩ := pair_cells (by simp; omega) t1
  obtain ⟨L, hL⟩ := inner_sums t2
  rw [List.getElem?_take, List.getElem?_drop] at e1 e2
  have ez : cs'[0] = .int .i64 z0 := by simpa using e0
  exact ⟨⟨z0, (k, v), L⟩, kc, vc, _, by rw [List.getElem?_eq_getElem (by omega), ez], by simpa using e1, by simpa using e2, List.getElem?_eq_getElem (by omega), k1, k2, hL, bounds_i64 b0⟩
theorem inner_spots {H : Type} {enc : TypeId × Value → H} {w : World} {base : Nat} {held : Bool} {n : Nat} {u : Value} {D : DataW H × List MemPlace}
    (hd : DataW.trod enc Tryd.prog w base (fun _ => true) held n 27 [u] = some D) : ∃ m y, spotsAt w u m y := by
  rcases inner_any 4 Tryd.underlying27 (by kernel_rfl) (by decide) hd with ⟨a, rfl⟩ | ⟨pb, po, len, cap, rfl, h1, h2, h3, h4⟩
  · exact ⟨0, fun _ => ⟨0, ([], []), []⟩, a, 0, rfl, Nat.le_refl _, by decide, fun i hi => by omega⟩
  · have each : ∀ i, i < len → ∃ y : Sp, ∃ kc vc pc, w.cell? ⟨pb, po + i * 4, none⟩ = some (.int .i64 y.at_) ∧ w.cell? ⟨pb, po + i * 4 + 1, none⟩ = some kc ∧ w.cell? ⟨pb, po + i * 4 + 2, none⟩ = some vc ∧ w.cell? ⟨pb, po + i * 4 + 3, none⟩ = some pc ∧
        anyBytes w kc y.pr.1 ∧ anyBytes w vc y.pr.2 ∧ sumsAt w pc y.path ∧ inI64 y.at_ := fun i hi => by
      obtain ⟨cs', n, D, g1, g2, g3⟩ := h4 i hi
      obtain ⟨y, kc, vc, pc, e0, e1, e2, e3, k⟩ := spot_cells (by omega) g3
      exact ⟨y, kc, vc, pc, by have := g2 0 (by omega); rw [Nat.add_zero] at this; rw [this]; exact e0, by rw [g2 1 (by omega)]; exact e1, by rw [g2 2 (by omega)]; exact e2, by rw [g2 3 (by omega)]; exact e3, k⟩
    haveI : Inhabited Sp := ⟨⟨0, ([], []), []⟩⟩
    obtain ⟨f, hf⟩ := choose_lt each
    exact ⟨len, f, some ⟨pb, po, none⟩, cap, rfl, h1, h2, fun i hi => by
      obtain ⟨kc, vc, pc, e0, e1, e2, e3, k⟩ := hf i hi
      exact ⟨pb, po, kc, vc, pc, rfl, h3, e0, e1, e2, e3, k⟩⟩
theorem okWide_agg {P : Program} {w : World} {r : Reach} {b0 : Nat} {t : TypeId} {fs : Array Field} {v : Value} (hu : P.underlying t = some (.struct fs)) (hval : Value.okWide P w r b0 t v) : ∃ cs, v = .agg cs := by
  unfold Value.okWide at hval
  rw [hu] at hval
  obtain ⟨cs, rfl, _⟩ := hval
  exact ⟨cs, rfl⟩
theorem open_seen {H : Type} {enc : TypeId × Value → H} {w : World} {base b0 : Nat} {held : Bool} {r : Reach} {v : Value} {d : DataW H} {ps : List MemPlace}
    (hval : Value.okWide Tryd.prog w r b0 29 v) (hd : DataW.Trod enc Tryd.prog w base (fun _ => true) held 29 v d ps) : ∃ cnt sv m y, v = .agg #[.int .i64 cnt, sv] ∧ inI64 cnt ∧ spotsAt w sv m y := by
  have ci : Tryd.prog.cellsOf 3 = 1 := by kernel_rfl
  have cp : Tryd.prog.cellsOf 27 = 1 := by kernel_rfl
  have c2 : Tryd.prog.cellsOf 29 = 2 := by kernel_rfl
  obtain ⟨cs, rfl⟩ := okWide_agg Tryd.underlying29 hval
  obtain ⟨fuel, hf⟩ := hd
  obtain ⟨y0, y1, n, hl, t0, t1⟩ := trod_struct2 Tryd.underlying29 hf
  obtain ⟨cs⟩ := cs
  rw [c2] at hl
  match cs, hl with
  | [u0, u1], _ =>
    simp only [ci, cp] at t0 t1
    obtain ⟨z0, e0, _, b0⟩ := DataW.trod_int (k := .i64) Tryd.underlying3 t0
    obtain ⟨m, y, hm⟩ := inner_spots t1
    have ez : u0 = .int .i64 z0 := by simpa [Value.cells] using e0
    exact ⟨z0, u1, m, y, by rw [ez], bounds_i64 b0, hm⟩
end Go.Proofs.YtgchnobifidjcaaDoor

/- The table of the rounds' constants, as the row lists it; a world that holds it, for the witness. -/
namespace Go.Proofs.YtgchnobifidjcaaDoor
set_option maxRecDepth 100000
open Go.RowKit Go.Deep Go.ChangeShapes Go.WideShapes Go.ChangeAt

/-- the table's name. -/
def tabName : String := Rows.keyedShowsRow.named.getD 0 ""
theorem gTab : Tryd.prog.globalNamed tabName = some 1 := by kernel_rfl
theorem gTabType : (Tryd.prog.globals[1]?).map (·.type) = some 172 := by kernel_rfl
theorem cellsTab : Tryd.prog.cellsOf 172 = 64 := by kernel_rfl
theorem cellsWord : Tryd.prog.cellsOf 152 = 1 := by kernel_rfl
/-- what the row's list gives. -/
theorem laid_tab {W : World} (h : laidMetH Tryd.prog Rows.keyedShowsRow.laid W) : tabIs W := by
  have ht : Lib.TabIs Tryd.prog W tabName .u32 kList := Lib.tabIs_of_head (rest := []) gTab gTabType Tryd.underlying172 Tryd.underlying152 cellsWord cellsTab h
  refine ⟨?_, fun i hi => ht.cell gTab i (by simpa [kList] using hi)⟩
  have h0 := ht.cell gTab 0 (by decide)
  exact block_lt_of_cell h0
/-- the table's block, laid. -/
def kObj : Obj → Obj
  | .cells _ t frozen => .cells #[.int .u32 1116352408, .int .u32 1899447441, .int .u32 3049323471, .int .u32 3921009573, .int .u32 961987163, .int .u32 1508970993, .int .u32 2453635748, .int .u32 2870763221, .int .u32 3624381080, .int .u32 310598401, .int .u32 607225278, .int .u32 1426881987, .int .u32 1925078388, .int .u32 2162078206, .int .u32 2614888103, .int .u32 3248222580, .int .u32 3835390401, .int .u32 4022224774, .int .u32 264347078, .int .u32 604807628, .int .u32 770255983, .int .u32 1249150122, .int .u32 1555081692, .int .u32 1996064986, .int .u32 2554220882, .int .u32 2821834349, .int .u32 2952996808, .int .u32 3210313671, .int .u32 3336571891, .int .u32 3584528711, .int .u32 113926993, .int .u32 338241895, .int .u32 666307205, .int .u32 773529912, .int .u32 1294757372, .int .u32 1396182291, .int .u32 1695183700, .int .u32 1986661051, .int .u32 2177026350, .int .u32 2456956037, .int .u32 2730485921, .int .u32 2820302411, .int .u32 3259730800, .int .u32 3345764771, .int .u32 3516065817, .int .u32 3600352804, .int .u32 4094571909, .int .u32 275423344, .int .u32 430227734, .int .u32 506948616, .int .u32 659060556, .int .u32 883997877, .int .u32 958139571, .int .u32 1322822218, .int .u32 1537002063, .int .u32 1747873779, .int .u32 1955562222, .int .u32 2024104815, .int .u32 2227730452, .int .u32 2361852424, .int .u32 2428436474, .int .u32 2756734187, .int .u32 3204031479, .int .u32 3329325298] t frozen
  | o => o
end Go.Proofs.YtgchnobifidjcaaDoor
