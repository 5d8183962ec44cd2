import Derived.Deep.CutBlock
import Derived.ProofKit
import Derived.OpenShut
import Derived.Test.YtmfgfcknhjblgaaDoorRows
import Derived.ChangeSlices
import Derived.Deep.Slices
import Derived.Deep.Strs
import Derived.Test.YtmfgfcknhjblgaaDoorOwn1
import Derived.Test.YtmfgfcknhjblgaaDoorOwn3
import Derived.Test.YtmfgfcknhjblgaaDoorOwn5
import Derived.Test.YtmfgfcknhjblgaaDoorOwn6
set_option linter.unusedVariables false
set_option linter.unusedSimpArgs false
/- The laws' own helper: done, an act by both books. -/
namespace Go.Proofs.YtmfgfcknhjblgaaDoor
set_option linter.unusedSimpArgs false
set_option linter.unusedVariables false
open Go.RowKit Go.Deep

set_option maxHeartbeats 4000000 in
set_option maxRecDepth 100000 in
theorem done_even (w0 w : World) (F G : Nat → Prop) (kb kr : Nat) (N : List Nt) (c : Int) (x : AR) (pv bv : Value) (h : pairX w0 w F G kb kr N c) (hp : anyParts w0 pv x.n x.ps) (hbv : anyBytes w0 bv x.bytes) (hq : isSum x.sum) (ht : tabIs w0)
    (hodd : ¬ x.what % 2 = 1) (h5 : x.n ≤ 500) (h6 : x.bytes.length + (flatTo x.ps x.n).length ≤ 60000) (hN : N.length < 1000000) (hc : 0 ≤ c ∧ c < 1000000000) :
    Calls Tryd.prog 30 #[.pointer (some ⟨kb, 0, none⟩), .pointer (some ⟨kr, 0, none⟩), .agg (rowV 36 (actV x.what x.kind pv bv x.sum))] w fun e w' => e = .returned (.bool true) ∧ stepX w0 w F G w' kb kr (addN N (stepN x)) (c + stepC x) := by
  have ht0 := ht.1
  obtain ⟨hF, hG, hFB, hGB, hFG, hbw⟩ := h
  have hFl := hF.2.1
  have hGl := hG.2.1
  obtain ⟨w1, hw1⟩ : ∃ w1, w1 = w.alloc (.cells (rowV 36 (actV x.what x.kind pv bv x.sum)) 49) := ⟨_, rfl⟩
  have r1 : w1.rowIs w.heap.size 49 36 (actV x.what x.kind pv bv x.sum) := by rw [hw1]; exact rowIs_box _ _ _ _
  have b1 : Below w.heap.size w w1 := by rw [hw1]; exact (Below.refl _ _).alloc (Nat.le_refl _) _
  have s1 : w1.heap.size = w.heap.size + 1 := by rw [hw1]; simp
  have sw0 := hbw.size
  have bw1 : Below w0.heap.size w0 w1 := hbw.trans (b1.mono sw0)
  have F1 := hF.below b1 (Nat.le_refl _)
  have G1 := hG.below b1 (Nat.le_refl _)
  have CX : Hid (∀ wz : World, wz.heap[w.heap.size]? = w1.heap[w.heap.size]? → ∀ j, j < 36 → wz.cell? ⟨w.heap.size, j, none⟩ = some (actV x.what x.kind pv bv x.sum j)) := (show ∀ wz : World, wz.heap[w.heap.size]? = w1.heap[w.heap.size]? → ∀ j, j < 36 → wz.cell? ⟨w.heap.size, j, none⟩ = some (actV x.what x.kind pv bv x.sum j) from fun wz hz j hj => (World.cell?_of_block (a := ⟨w.heap.size, j, none⟩) hz).trans (r1.cell hj))
  have CS : Hid (∀ wz : World, wz.heap[w.heap.size]? = w1.heap[w.heap.size]? → ∀ i, i < 32 → wz.cell? ⟨w.heap.size, 3 + i, none⟩ = some (arrV x.sum i)) := (show ∀ wz : World, wz.heap[w.heap.size]? = w1.heap[w.heap.size]? → ∀ i, i < 32 → wz.cell? ⟨w.heap.size, 3 + i, none⟩ = some (arrV x.sum i) from fun wz hz i hi => by rw [CX.out wz hz (3 + i) (by omega), actV, if_neg (by omega), if_neg (by omega), if_neg (by omega), if_pos (by omega), show 3 + i - 3 = i by omega])
  have HBV : Hid (∀ wz, Below w0.heap.size w0 wz → anyBytes wz bv x.bytes) := (show ∀ wz, Below w0.heap.size w0 wz → anyBytes wz bv x.bytes from fun wz hz => hbv.below hz (Nat.le_refl _))
  have HPV : Hid (∀ wz, Below w0.heap.size w0 wz → anyParts wz pv x.n x.ps) := (show ∀ wz, Below w0.heap.size w0 wz → anyParts wz pv x.n x.ps from fun wz hz => hp.below hz (Nat.le_refl _))
  have HT : Hid (∀ wz, Below w0.heap.size w0 wz → tabIs wz) := (show ∀ wz, Below w0.heap.size w0 wz → tabIs wz from fun wz hz => ht.below hz ht0)
  have HF1 : Hid (bookAt w1 F kb N c) := (show bookAt w1 F kb N c from F1)
  have HG1 : Hid (rbookAt w1 G kr N c) := (show rbookAt w1 G kr N c from G1)
  have HFB : Hid ((∀ j, F j → w0.heap.size ≤ j ∧ j < w.heap.size) ∧ (∀ j, G j → w0.heap.size ≤ j ∧ j < w.heap.size) ∧ (∀ j, F j → ¬ G j)) := (show (∀ j, F j → w0.heap.size ≤ j ∧ j < w.heap.size) ∧ (∀ j, G j → w0.heap.size ≤ j ∧ j < w.heap.size) ∧ (∀ j, F j → ¬ G j) from ⟨fun j hj => ⟨hFB j hj, hFl j hj⟩, fun j hj => ⟨hGB j hj, hGl j hj⟩, hFG⟩)
  have BW1 : Hid (Below w0.heap.size w0 w1) := (show Below w0.heap.size w0 w1 from bw1)
  have B01 : Hid (Below w.heap.size w w1) := (show Below w.heap.size w w1 from b1)
  have HBW : Hid (Below w0.heap.size w0 w) := (show Below w0.heap.size w0 w from hbw)
  have hopen := hp.open
  obtain ⟨ba, bc, rfl, hbm⟩ := hbv.slice
  obtain ⟨pa, pc, rfl, hpm, hpc⟩ := hopen
  have HPC : Hid _ := hpc
  have c0 : w1.cell? ⟨w.heap.size, 0, none⟩ = some (.int .i64 x.what) := CX.out w1 rfl 0 (by omega)
  have hand := i64_and1 x.what
  have HS1 : Hid _ := s1
  clear hF hG hFB hGB hFG F1 G1 r1 b1 bw1 hbw hFl hGl hp hbv hpc
  go_enter Tryd.func30, Tryd.ntmps30
  go_upto_region 1 with fail
  rw [← hw1]
  clear hw1
  · have hb1 : (x.what % 2 == 1) = false := by rw [beq_eq_false_iff_ne]; exact hodd
    obtain ⟨pl, hpl⟩ : ∃ pl, pl = preB x.kind x.n x.ps := ⟨_, rfl⟩
    have hsn : stepN x = (sumL pl, strOf pl) := by unfold stepN; rw [if_neg hodd, hpl]
    have hsc : stepC x = 1 := by unfold stepC; rw [if_neg hodd]
    have hlight : ∀ i, i ≤ x.n → 1 + (flatTo (blobsB x.ps) i).length ≤ 100000000 := fun i hi => by
      have := blobs_le x.ps i; have := flatTo_mono x.ps x.n i hi; omega
    have hflat : ∀ i, i < x.n → (x.ps i).length ≤ 60000 := fun i hi => by
      have := flatTo_mono x.ps x.n (i + 1) hi
      rw [flatTo, List.length_append] at this; omega
    have hn5 : (x.n : Int) ≤ 500 := by omega
    have HSN : Hid _ := hsn
    have HSC : Hid _ := hsc
    have HPL : Hid _ := hpl
    have HLI : Hid _ := hlight
    have HFL : Hid _ := hflat
    clear hsn hsc hpl hlight hflat hodd
    go_wp2
    go_loopw [8, 9] (fun v i wr => ∃ (k : Nat) (svs : List Value), k ≤ x.n ∧ i = .int .i64 k ∧ leftX wr w1.heap.size v svs (partL x.ps k) 0 ∧ Below w1.heap.size w1 wr) (fun _ i _ => x.n - (intOf i).toNat)
    case atStart => exact ⟨0, [], by omega, rfl, leftX.nil _ _, Below.refl _ _⟩
    case round =>
      obtain ⟨k, svs, hk, rfl, hm, hb⟩ := hrel
      clear c0
      have kw : wr.heap[w.heap.size]? = w1.heap[w.heap.size]? := hb.block _ (by omega)
      have cp : wr.cell? ⟨w.heap.size, 2, none⟩ = some (.slice pa x.n pc) := CX.out wr kw 2 (by omega)
      by_cases hlt : k < x.n
      · obtain ⟨qb, qo, u, rfl, hqb, hcu, hu⟩ := HPC.out k hlt
        have p0 : (0 : Int) ≤ (k : Int) := by omega
        have p1 : (k : Int) < (x.n : Int) := by omega
        have hsz := hb.size
        have bw0 : Below w0.heap.size w0 wr := BW1.out.trans (hb.mono (by have := BW1.out.size; omega))
        have hlk := HFL.out k hlt
        obtain ⟨v2, w2, hr, n2, b2⟩ := any_copy_run wr u (x.ps k) (hu.below bw0 (Nat.le_refl _)) (by omega)
        have s2 := b2.size
        obtain ⟨a3, c3, w3, hr3, m3, b3⟩ := (hm.below b2 (Nat.le_refl _)).put n2.soft (fun j hj => by
          have h1 := n2.block j hj
          exact ⟨by omega, fun e => by have := hm.mine.owned j e; omega, fun i u' hi e => by have := hm.block i u' j hi e; omega⟩) (by rw [partL_length]; omega) (by omega)
        obtain ⟨ua, uc, rfl, hum⟩ := hu.slice
        obtain ⟨a2, c2, rfl, _⟩ := n2.is.slice
        obtain ⟨a4, c4, rfl⟩ := hm.mine.slice
        rw [partL_length] at hr3 m3
        have lw0 : w.heap.size < wr.heap.size := by omega
        have cpA : (wr.alloc (.cells #[] 5)).cell? ⟨w.heap.size, 2, none⟩ = some (.slice (some ⟨qb, qo, none⟩) x.n pc) := CX.out _ ((blk_alloc_lt _ _ _ lw0).trans kw) 2 (by omega)
        have hcA : (wr.alloc (.cells #[] 5)).cell? ⟨qb, qo + k, none⟩ = some (.slice ua (x.ps k).length uc) := (World.cell?_of_block (a := ⟨qb, qo + k, none⟩) (blk_alloc_lt _ _ _ (show qb < wr.heap.size by have := bw0.size; omega))).trans ((bw0.cell (p := ⟨qb, qo + k, none⟩) hqb).trans hcu)
        have M3 : Hid (leftX w3 w1.heap.size (.slice a3 (k + 1) c3) (svs ++ [.slice a2 (x.ps k).length c2]) (partL x.ps (k + 1)) 0 ∧ Below w1.heap.size w1 w3) := (show leftX w3 w1.heap.size (.slice a3 (k + 1) c3) (svs ++ [.slice a2 (x.ps k).length c2]) (partL x.ps (k + 1)) 0 ∧ Below w1.heap.size w1 w3 from ⟨by rw [partL_succ]; exact m3, (hb.trans (b2.mono hsz)).trans b3⟩)
        clear hu hm n2 b2 m3 b3 hcu hb bw0 kw hlk hum
        rw [partL_length]
        go_wp2_with (first | (at_builtin; refine wpList_append_run rfl (.tmp 41) (.tmp 46) _ rfl rfl rfl hr ?_; clear hr) | (at_builtin; refine wpList_append_run rfl (.tmp 40) (.tmp 48) _ rfl rfl rfl hr3 ?_))
        go_light
        exact ⟨⟨k + 1, _, by omega, by go_num, M3.out.1, M3.out.2⟩, by simp [intOf]; omega⟩
      · obtain rfl : k = x.n := by omega
        rename World => w2
        have sb := hb.size
        have bw2 : Below w0.heap.size w0 w2 := BW1.out.trans (hb.mono (by have := BW1.out.size; omega))
        have Y := of_any F kb N c x.kind x.n u8 x.ps w2 (bookAt.below HF1.out hb (Nat.le_refl _)) hm.mine.isP.any HLI.out (HT.out w2 bw2) (fun hf => by have := (HFB.out.1 0 hf).1; omega) hN hc
        rw [← HPL.out] at Y
        unfold sumV at Y
        have c1 : w2.cell? ⟨w.heap.size, 1, none⟩ = some (.int .i64 x.kind) := CX.out w2 kw 1 (by omega)
        obtain ⟨a4, c4, rfl⟩ := hm.mine.slice
        rw [partL_length] at *
        have ML : Hid (leftX w2 w1.heap.size (.slice a4 x.n c4) svs (partL x.ps x.n) 0) := (show leftX w2 w1.heap.size (.slice a4 x.n c4) svs (partL x.ps x.n) 0 from hm)
        have BL : Hid (Below w1.heap.size w1 w2) := (show Below w1.heap.size w1 w2 from hb)
        have BW2 : Hid (Below w0.heap.size w0 w2) := (show Below w0.heap.size w0 w2 from bw2)
        have KW : Hid (w2.heap[w.heap.size]? = w1.heap[w.heap.size]?) := (show w2.heap[w.heap.size]? = w1.heap[w.heap.size]? from kw)
        have PA : Hid (anyParts w2 (.slice a4 x.n c4) x.n x.ps) := (show anyParts w2 (.slice a4 x.n c4) x.n x.ps from hm.mine.isP.any)
        clear hm hb bw2 kw
        go_wp2_with fail
        refine Y.mono ?_
        rintro e w3 ⟨rfl, k3, f3⟩
        clear Y
        have s3 := f3.size
        have r4 := rowIs_zero w3 (Array.replicate 32 (.int .u8 0)) 30 32 (.int .u8 0) rfl
        have hs4 : (w3.alloc (.cells (Array.replicate 32 (.int .u8 0)) 30)).heap.size = w3.heap.size + 1 := by simp
        have hb4 : Below w3.heap.size w3 (w3.alloc (.cells (Array.replicate 32 (.int .u8 0)) 30)) := (Below.refl _ _).alloc (Nat.le_refl _) _
        have K3 : Hid _ := k3
        have F3 : Hid _ := f3
        clear k3 f3
        go_upto_region 13 with (first | (refine wpList_store_row rfl 30 (.tmp 10) (.tmp 54) rfl rfl w3.heap.size 0 32 (arrV (sumL pl)) rfl rfl hi32' (fun _ _ => rfl) _ _ _ r4 (by omega) ?_; intro w5 r5 hz5 hb5))
        have hz5' : w5.heap.size = w3.heap.size + 1 := hz5.trans hs4
        have hb5' : But (w3.heap.size + 1) w3.heap.size (w3.alloc (.cells (Array.replicate 32 (.int .u8 0)) 30)) w5 := hs4 ▸ hb5
        have hB35 : Below w3.heap.size w3 w5 := hb4.trans ((hb5'.mono (by omega)).below (Nat.le_refl _))
        have r5' : w5.rowIs w3.heap.size 30 32 (arrV (sumL pl)) := r5.congr fun i hi => by rw [if_pos (by omega), Nat.sub_zero]
        have hnotF : ∀ j, w.heap.size ≤ j → ¬ F j := fun j hj hf => by have := (HFB.out.1 j hf).2; omega
        have hsb := BL.out.size
        -- what lay behind the loop lies there in w5
        have kp5 : ∀ j, w.heap.size ≤ j → j < w2.heap.size → w5.heap[j]? = w2.heap[j]? := fun j h1 h2 => (hB35.block j (by omega)).trans (F3.out.block j h2 (hnotF j h1))
        have ml5 : leftX w5 w1.heap.size (.slice a4 x.n c4) svs (partL x.ps x.n) 0 := leftX.far ML.out (fun j h1 h2 => kp5 j (by omega) h2) (by omega)
        have X6 := pre_any x.kind x.n (.slice a4 x.n c4) x.ps w5 ml5.mine.isP.any (fun i hi => by have := HLI.out i hi; omega)
        rw [← HPL.out] at X6
        have kw5 : w5.heap[w.heap.size]? = w1.heap[w.heap.size]? := (kp5 _ (Nat.le_refl _) (by omega)).trans KW.out
        have c15 : w5.cell? ⟨w.heap.size, 1, none⟩ = some (.int .i64 x.kind) := CX.out w5 kw5 1 (by omega)
        have bw5 : Below w0.heap.size w0 w5 := (BW2.out.trans (F3.out.below (fun j hj => (HFB.out.1 j hj).1) BW2.out.size)).trans (hB35.mono (by have := BW2.out.size; omega))
        have R5 : Hid _ := r5'
        have B35 : Hid _ := hB35
        have ML5 : Hid _ := ml5
        have KW5 : Hid _ := kw5
        have BW5 : Hid _ := bw5
        clear r5 r5' hb5 hb5' hz5 hb4 hs4 r4 hB35 ml5 kw5 bw5 kp5 c1 cp
        go_wp2_with fail
        refine X6.mono ?_
        rintro e w6 ⟨v6, rfl, n6, b6⟩
        clear X6
        have s6 := b6.size
        have ml6 := leftX.below ML5.out b6 (Nat.le_refl _)
        have kw6 : w6.heap[w.heap.size]? = w1.heap[w.heap.size]? := (b6.block _ (by omega)).trans KW5.out
        have bw6 : Below w0.heap.size w0 w6 := BW5.out.trans (b6.mono (by have := BW5.out.size; omega))
        have r6 : w6.rowIs w3.heap.size 30 32 (arrV (sumL pl)) := b6.row R5.out (by omega)
        have k6 : bookAt w6 (Gr F w2 w3) kb (addN N (sumL pl, strOf pl)) (c + 1) := bookAt.below (bookAt.below K3.out B35.out (Nat.le_refl _)) b6 (by omega)
        have g6 : rbookAt w6 G kr N c := rbookAt.far HG1.out (fun j hj hl => (b6.block j (by omega)).trans ((B35.out.block j (by omega)).trans ((F3.out.block j (by omega) (fun hf => HFB.out.2.2 j hf hj)).trans (BL.out.block j hl)))) (by omega)
        have hC : ∀ (i : Nat) (u : Value) (j : Nat), svs[i]? = some u → u.ownBlock = some j → j < w2.heap.size := leftX.block ML.out
        have hv6 : ∀ j, v6.ownBlock = some j → w5.heap.size ≤ j := fun j hj => (n6.block j hj).1
        obtain ⟨v6a, v6c, rfl⟩ := n6.slen
        have ML6 : Hid _ := ml6
        have KW6 : Hid _ := kw6
        have BW6 : Hid _ := bw6
        have R6 : Hid _ := r6
        have K6 : Hid _ := k6
        have G6 : Hid _ := g6
        have N6 : Hid _ := n6
        have HC : Hid _ := hC
        have HV6 : Hid _ := hv6
        have KP6 : Hid (∀ j, j < w.heap.size → ¬ F j → w6.heap[j]? = w.heap[j]?) := (show ∀ j, j < w.heap.size → ¬ F j → w6.heap[j]? = w.heap[j]? from fun j hj hn => (b6.block j (by omega)).trans ((B35.out.block j (by omega)).trans ((F3.out.block j (by omega) hn).trans ((BL.out.block j (by omega)).trans (B01.out.block j hj)))))
        have SZ : Hid (w1.heap.size ≤ w2.heap.size ∧ w2.heap.size ≤ w3.heap.size ∧ w5.heap.size = w3.heap.size + 1 ∧ w5.heap.size ≤ w6.heap.size ∧ w1.heap.size = w.heap.size + 1) := (show w1.heap.size ≤ w2.heap.size ∧ w2.heap.size ≤ w3.heap.size ∧ w5.heap.size = w3.heap.size + 1 ∧ w5.heap.size ≤ w6.heap.size ∧ w1.heap.size = w.heap.size + 1 from ⟨hsb, s3, hz5', s6, HS1.out⟩)
        clear ml6 kw6 bw6 r6 k6 g6 n6 b6 hC hv6 R5 B35 ML5 KW5 BW5 K3 F3 ML KW BW2 PA c15 hz5' s3 s6 hnotF
        go_wp2
        go_loopw [12] (fun i wx => ∃ j : Nat, j ≤ x.n ∧ i = .int .i64 j ∧ leftX wx w1.heap.size (.slice a4 x.n c4) svs (partL x.ps x.n) j ∧ Mid w1.heap.size w2.heap.size w6 wx) (fun i _ => x.n - (intOf i).toNat)
        case atStart => exact ⟨0, by omega, rfl, ML6.out, Mid.refl _ _ _⟩
        case round =>
          obtain ⟨j, hj, rfl, hlx, hmd⟩ := hrel
          clear ML6
          have sz := SZ.out
          have kwr : wr.heap[w.heap.size]? = w1.heap[w.heap.size]? := (hmd.block _ (Or.inl (by omega))).trans KW6.out
          have bwr : Below w0.heap.size w0 wr := BW6.out.trans (hmd.below.mono (by have := BW1.out.size; omega))
          have p0 : (0 : Int) ≤ (j : Int) := by omega
          by_cases hlt : j < x.n
          · have p1 : (j : Int) < (x.n : Int) := by omega
            obtain ⟨g, cap, xx, m, y, _, he, hcg, hby, _, _, _⟩ := hlx.clear (C := w2.heap.size) (by rw [partL_length]; exact hlt) HC.out
            rw [partL_getD _ _ _ hlt] at hby
            rw [partL_length] at he
            have he' : a4 = some ⟨g, 0, none⟩ ∧ c4 = cap := by simpa using he
            obtain ⟨rfl, rfl⟩ := he'
            obtain ⟨qb, qo, u, rfl, hqb, hcu, hu⟩ := HPC.out j hlt
            have cur : wr.cell? ⟨qb, qo + j, none⟩ = some u := (bwr.cell (p := ⟨qb, qo + j, none⟩) hqb).trans hcu
            have hur := hu.below bwr (Nat.le_refl _)
            have KG : Hid (∀ wz, Mid 0 0 wr wz → wz.cell? ⟨g, j, none⟩ = some (.slice xx m y)) := (show ∀ wz, Mid 0 0 wr wz → wz.cell? ⟨g, j, none⟩ = some (.slice xx m y) from fun wz hz => (World.cell?_of_block (a := ⟨g, j, none⟩) (hz.same g)).trans hcg)
            have KU : Hid (∀ wz, Mid 0 0 wr wz → (convert 34 9 (.slice xx m y)).run Tryd.prog wz = .ok (.string (strOf (x.ps j))) wz) := (show ∀ wz, Mid 0 0 wr wz → (convert 34 9 (.slice xx m y)).run Tryd.prog wz = .ok (.string (strOf (x.ps j))) wz from fun wz hz => conv8 wz _ _ (hby.mid hz))
            have KP : Hid (∀ wz, Mid 0 0 wr wz → wz.cell? ⟨w.heap.size, 2, none⟩ = some (.slice (some ⟨qb, qo, none⟩) x.n pc)) := (show ∀ wz, Mid 0 0 wr wz → wz.cell? ⟨w.heap.size, 2, none⟩ = some (.slice (some ⟨qb, qo, none⟩) x.n pc) from fun wz hz => CX.out wz ((hz.same _).trans kwr) 2 (by omega))
            have KQ : Hid (∀ wz, Mid 0 0 wr wz → wz.cell? ⟨qb, qo + j, none⟩ = some u) := (show ∀ wz, Mid 0 0 wr wz → wz.cell? ⟨qb, qo + j, none⟩ = some u from fun wz hz => (World.cell?_of_block (a := ⟨qb, qo + j, none⟩) (hz.same qb)).trans cur)
            have KV : Hid (∀ wz, Mid 0 0 wr wz → (convert 34 9 u).run Tryd.prog wz = .ok (.string (strOf (x.ps j))) wz) := (show ∀ wz, Mid 0 0 wr wz → (convert 34 9 u).run Tryd.prog wz = .ok (.string (strOf (x.ps j))) wz from fun wz hz => convA wz _ _ (hur.far' (fun _ k _ => hz.same k) (Nat.le_of_eq hz.size.symm)))
            have LX : Hid (leftX wr w1.heap.size (.slice (some ⟨g, 0, none⟩) x.n c4) svs (partL x.ps x.n) j) := (show leftX wr w1.heap.size (.slice (some ⟨g, 0, none⟩) x.n c4) svs (partL x.ps x.n) j from hlx)
            have MD : Hid (Mid w1.heap.size w2.heap.size w6 wr) := (show Mid w1.heap.size w2.heap.size w6 wr from hmd)
            obtain ⟨ua, uc, rfl, _⟩ := hu.slice
            have hby0 := hby
            obtain ⟨xa, xc, hxe, _⟩ := hby0.slice
            clear hcg hby hby0 cur hur hcu hu hlx hmd kwr bwr he sz
            go_upto_region 17 with fail
            go_cut [12, 76] from 59 to 80 (fun i c wx => i = .int .i64 (j : Int) ∧ c = .bool false ∧ Mid 0 0 wr wx)
            case first =>
              refine wp_region_noPanic ?_
              refine wp_region_held_drew (S := fun w' => Mid 0 0 wr w') (by kernel_rfl) ((Mid.refl 0 0 wr).drew) (fun hHeld => ?_)
              refine take_op (i := 0) (v := ?vl0) rfl (by kernel_rfl) (by kernel_rfl) (by kernel_rfl) (fun _ _ _ h => h) rfl hHeld ?yl0 ?rl0
              case yl0 => (intro wz hz; go_simp; first | done | with_reducible rfl)
              try simp only [Act.put, List.setIfInBounds_toArray, List.set_cons_zero, List.set_cons_succ]
              refine take_op (i := 1) (v := ?vl1) rfl (by kernel_rfl) (by kernel_rfl) (by kernel_rfl) (fun _ _ _ h => h) rfl hHeld ?yl1 ?rl1
              case yl1 => (intro wz hz; go_simp; first | done | with_reducible rfl)
              try simp only [Act.put, List.setIfInBounds_toArray, List.set_cons_zero, List.set_cons_succ]
              refine take_op (i := 2) (v := ?vl2) rfl (by kernel_rfl) (by kernel_rfl) (by kernel_rfl) (fun _ _ _ h => h) rfl hHeld ?yl2 ?rl2
              case yl2 => (intro wz hz; go_simp; first | done | with_reducible rfl)
              try simp only [Act.put, List.setIfInBounds_toArray, List.set_cons_zero, List.set_cons_succ]
              refine take_op (i := 3) (v := ?vl3) rfl (by kernel_rfl) (by kernel_rfl) (by kernel_rfl) (fun _ _ _ h => h) rfl hHeld ?yl3 ?rl3
              case yl3 => (intro wz hz; have hcz := KG.out wz hz; go_simp; first | done | with_reducible rfl)
              try simp only [Act.put, List.setIfInBounds_toArray, List.set_cons_zero, List.set_cons_succ]
              refine take_op (i := 4) (v := ?vl4) rfl (by kernel_rfl) (by kernel_rfl) (by kernel_rfl) (fun _ _ _ h => h) rfl hHeld ?yl4 ?rl4
              case yl4 => (intro wz hz; have hcz := KU.out wz hz; go_simp; first | done | with_reducible rfl)
              try simp only [Act.put, List.setIfInBounds_toArray, List.set_cons_zero, List.set_cons_succ]
              refine take_op (i := 5) (v := ?vl5) rfl (by kernel_rfl) (by kernel_rfl) (by kernel_rfl) (fun _ _ _ h => h) rfl hHeld ?yl5 ?rl5
              case yl5 => (intro wz hz; go_simp; first | done | with_reducible rfl)
              try simp only [Act.put, List.setIfInBounds_toArray, List.set_cons_zero, List.set_cons_succ]
              refine take_op (i := 6) (v := ?vl6) rfl (by kernel_rfl) (by kernel_rfl) (by kernel_rfl) (fun _ _ _ h => h) rfl hHeld ?yl6 ?rl6
              case yl6 => (intro wz hz; have hcz := KP.out wz hz; go_simp; first | done | with_reducible rfl)
              try simp only [Act.put, List.setIfInBounds_toArray, List.set_cons_zero, List.set_cons_succ]
              refine take_op (i := 7) (v := ?vl7) rfl (by kernel_rfl) (by kernel_rfl) (by kernel_rfl) (fun _ _ _ h => h) rfl hHeld ?yl7 ?rl7
              case yl7 => (intro wz hz; go_simp; first | done | with_reducible rfl)
              try simp only [Act.put, List.setIfInBounds_toArray, List.set_cons_zero, List.set_cons_succ]
              refine take_op (i := 8) (v := ?vl8) rfl (by kernel_rfl) (by kernel_rfl) (by kernel_rfl) (fun _ _ _ h => h) rfl hHeld ?yl8 ?rl8
              case yl8 => (intro wz hz; go_simp; first | done | with_reducible rfl)
              try simp only [Act.put, List.setIfInBounds_toArray, List.set_cons_zero, List.set_cons_succ]
              refine take_op (i := 9) (v := ?vl9) rfl (by kernel_rfl) (by kernel_rfl) (by kernel_rfl) (fun _ _ _ h => h) rfl hHeld ?yl9 ?rl9
              case yl9 => (intro wz hz; have hcz := KQ.out wz hz; go_simp; first | done | with_reducible rfl)
              try simp only [Act.put, List.setIfInBounds_toArray, List.set_cons_zero, List.set_cons_succ]
              refine take_op (i := 10) (v := ?vl10) rfl (by kernel_rfl) (by kernel_rfl) (by kernel_rfl) (fun _ _ _ h => h) rfl hHeld ?yl10 ?rl10
              case yl10 => (intro wz hz; have hcz := KV.out wz hz; go_simp; first | done | with_reducible rfl)
              try simp only [Act.put, List.setIfInBounds_toArray, List.set_cons_zero, List.set_cons_succ]
              refine take_op (i := 11) (v := ?vl11) rfl (by kernel_rfl) (by kernel_rfl) (by kernel_rfl) (fun _ _ _ h => h) rfl hHeld ?yl11 ?rl11
              case yl11 => (intro wz hz; go_simp; first | done | with_reducible rfl)
              try simp only [Act.put, List.setIfInBounds_toArray, List.set_cons_zero, List.set_cons_succ]
              refine wpAnyH_done (by kernel_rfl) ?_ _
              refine NoPanic.normal ?_
              have HB2 : Hid _ := hHeld
              clear hHeld
              go_wp2_with fail
              go_meet
              case rel => exact ⟨rfl, (by simp), HB2.out⟩
            case rest =>
              obtain ⟨rfl, rfl, hm0⟩ := hcut
              have lxc := leftX.far LX.out (fun k _ _ => hm0.same k) (Nat.le_of_eq hm0.size.symm)
              have mdc := Mid.trans MD.out (hm0.all w1.heap.size w2.heap.size)
              obtain ⟨g', cap', xx', m', y', w8, he8, hcg8, _, hr8, lx8, md8⟩ := lxc.clear (C := w2.heap.size) (by rw [partL_length]; exact hlt) HC.out
              have he' : g = g' ∧ c4 = cap' := by rw [partL_length] at he8; simpa using he8
              obtain ⟨rfl, rfl⟩ := he'
              have LX8 : Hid _ := lx8
              have MD8 : Hid _ := mdc.trans md8
              clear lxc mdc lx8 md8 he8 KG KU KP KQ KV LX MD hm0
              go_wp2
              go_light
              exact ⟨⟨j + 1, by omega, by go_num, LX8.out, MD8.out⟩, by simp [intOf]; omega⟩
          · obtain rfl : j = x.n := by omega
            have hG : ∀ j, w.heap.size ≤ j → ¬ G j := fun j hj hg => by have := (HFB.out.2.1 j hg).2; omega
            have gr : rbookAt wr G kr N c := rbookAt.far G6.out (fun j hj _ => hmd.block j (Or.inl (by have := (HFB.out.2.1 j hj).2; omega))) (Nat.le_of_eq hmd.size.symm)
            have fr : bookAt wr (Gr F w2 w3) kb (addN N (sumL pl, strOf pl)) (c + 1) := bookAt.far K6.out (fun j hj _ => hmd.block j (by
              rcases hj with h | h
              · exact Or.inl (by have := (HFB.out.1 j h).2; omega)
              · exact Or.inr h.1)) (Nat.le_of_eq hmd.size.symm)
            have rr : wr.rowIs w3.heap.size 30 32 (arrV (sumL pl)) := World.rowIs.of_block R6.out (hmd.block _ (Or.inr (by omega)))
            have vr : isBytes wr (.slice v6a pl.length v6c) pl := (newBytes.is N6.out).far (fun k hk => hmd.block k (Or.inr (by have := HV6.out k hk; omega))) (Nat.le_of_eq hmd.size.symm)
            have szr : wr.heap.size = w6.heap.size := hmd.size
            have E := eql_sumD (sumL pl)
            have KPR : Hid (∀ j, j < w.heap.size → ¬ F j → wr.heap[j]? = w.heap[j]?) := (show ∀ j, j < w.heap.size → ¬ F j → wr.heap[j]? = w.heap[j]? from fun j hj hn => (hmd.block j (Or.inl (by omega))).trans (KP6.out j hj hn))
            have FS : Hid (∀ wz, Fr G wr wz → ∀ i, i < 32 → wz.cell? ⟨w3.heap.size, 0 + i, none⟩ = some (arrV (sumL pl) i)) := (show ∀ wz, Fr G wr wz → ∀ i, i < 32 → wz.cell? ⟨w3.heap.size, 0 + i, none⟩ = some (arrV (sumL pl) i) from fun wz hz i hi => by rw [Nat.zero_add]; exact (World.cell?_of_block (a := ⟨w3.heap.size, i, none⟩) (hz.block w3.heap.size (by omega) (hG w3.heap.size (by omega)))).trans (rr.cell hi))
            have FX : Hid (∀ wz, Fr G wr wz → wz.cell? ⟨w.heap.size, 1, none⟩ = some (.int .i64 x.kind) ∧ wz.cell? ⟨w.heap.size, 2, none⟩ = some (.slice pa x.n pc)) := (show ∀ wz, Fr G wr wz → wz.cell? ⟨w.heap.size, 1, none⟩ = some (.int .i64 x.kind) ∧ wz.cell? ⟨w.heap.size, 2, none⟩ = some (.slice pa x.n pc) from fun wz hz => by
                          have e := (hz.block w.heap.size (by omega) (hG _ (Nat.le_refl _))).trans kwr
                          exact ⟨CX.out wz e 1 (by omega), CX.out wz e 2 (by omega)⟩)
            have FV : Hid (∀ wz, Fr G wr wz → (convert 34 9 (.slice v6a pl.length v6c)).run Tryd.prog wz = .ok (.string (strOf pl)) wz) := (show ∀ wz, Fr G wr wz → (convert 34 9 (.slice v6a pl.length v6c)).run Tryd.prog wz = .ok (.string (strOf pl)) wz from fun wz hz => conv8 wz _ _ (vr.far (fun k hk => hz.block k (by have := (newBytes.block N6.out k hk).2; omega) (hG k (by have := HV6.out k hk; omega))) hz.size))
            have XO : Hid (Calls Tryd.prog 49 #[.pointer (some ⟨kr, 0, none⟩), .int .i64 x.kind, .slice pa x.n pc] wr.drew fun e w' => e = .returned (.agg (rowV 32 (arrV (sumL pl)))) ∧ rbookAt w' (Gr G wr.drew w') kr (addN N (sumL pl, strOf pl)) (c + 1) ∧ Fr G wr.drew w') := (show Calls Tryd.prog 49 #[.pointer (some ⟨kr, 0, none⟩), .int .i64 x.kind, .slice pa x.n pc] wr.drew fun e w' => e = .returned (.agg (rowV 32 (arrV (sumL pl)))) ∧ rbookAt w' (Gr G wr.drew w') kr (addN N (sumL pl, strOf pl)) (c + 1) ∧ Fr G wr.drew w' from by
                          have := rbof_any G kr N c x.kind x.n _ x.ps wr.drew (gr.below ((Below.refl _ _).drew) (Nat.le_refl _)) (HPV.out _ bwr.drew) HLI.out hN hc
                          rw [← HPL.out] at this; unfold sumV at this; exact this)
            have XP : Hid (∀ wz, Below w0.heap.size w0 wz → Calls Tryd.prog 47 #[.int .i64 x.kind, .slice pa x.n pc] wz fun e w' => ∃ v', e = .returned v' ∧ newBytes w' wz.heap.size v' pl ∧ Below wz.heap.size wz w') := (show ∀ wz, Below w0.heap.size w0 wz → Calls Tryd.prog 47 #[.int .i64 x.kind, .slice pa x.n pc] wz fun e w' => ∃ v', e = .returned v' ∧ newBytes w' wz.heap.size v' pl ∧ Below wz.heap.size wz w' from fun wz hz => by rw [HPL.out]; exact rpre_any x.kind x.n _ x.ps wz (HPV.out wz hz) (fun i hi => by have := HLI.out i hi; omega))
            have FRB : Hid (bookAt wr (Gr F w2 w3) kb (addN N (sumL pl, strOf pl)) (c + 1)) := (show bookAt wr (Gr F w2 w3) kb (addN N (sumL pl, strOf pl)) (c + 1) from fr)
            have BWR : Hid (Below w0.heap.size w0 wr) := (show Below w0.heap.size w0 wr from bwr)
            have SZR : Hid (wr.heap.size = w6.heap.size) := (show wr.heap.size = w6.heap.size from szr)
            clear gr fr rr vr szr hlx hmd kwr bwr sz R6 K6 G6 N6 KW6 BW6
            go_upto_region 20 with fail
            refine wp_region_noPanic ?_
            refine wp_region_held_drew (S := fun w' => Fr G wr w') (by kernel_rfl) ((Fr.refl G wr).drew) (fun hHeld => ?_)
            refine take_load (i := 0) rfl (by kernel_rfl) (by kernel_rfl) (by kernel_rfl) 30 _ rfl w3.heap.size 0 32 (arrV (sumL pl)) rfl _ Tryd.underlying30 rfl (by kernel_rfl) (fun _ _ _ h => h) rfl hHeld (fun wz hz => FS.out wz hz) ?_
            try simp only [Act.put, List.setIfInBounds_toArray, List.set_cons_zero, List.set_cons_succ]
            refine take_op (i := 1) (v := ?vm1) rfl (by kernel_rfl) (by kernel_rfl) (by kernel_rfl) (fun _ _ _ h => h) rfl hHeld ?ym1 ?rm1
            case ym1 => (intro wz hz; go_simp; first | done | with_reducible rfl)
            try simp only [Act.put, List.setIfInBounds_toArray, List.set_cons_zero, List.set_cons_succ]
            refine take_op (i := 2) (v := ?vm2) rfl (by kernel_rfl) (by kernel_rfl) (by kernel_rfl) (fun _ _ _ h => h) rfl hHeld ?ym2 ?rm2
            case ym2 => (intro wz hz; go_simp; first | done | with_reducible rfl)
            try simp only [Act.put, List.setIfInBounds_toArray, List.set_cons_zero, List.set_cons_succ]
            refine take_op (i := 3) (v := ?vm3) rfl (by kernel_rfl) (by kernel_rfl) (by kernel_rfl) (fun _ _ _ h => h) rfl hHeld ?ym3 ?rm3
            case ym3 => (intro wz hz; have hcz := (FX.out wz hz).1; go_simp; first | done | with_reducible rfl)
            try simp only [Act.put, List.setIfInBounds_toArray, List.set_cons_zero, List.set_cons_succ]
            refine take_op (i := 4) (v := ?vm4) rfl (by kernel_rfl) (by kernel_rfl) (by kernel_rfl) (fun _ _ _ h => h) rfl hHeld ?ym4 ?rm4
            case ym4 => (intro wz hz; go_simp; first | done | with_reducible rfl)
            try simp only [Act.put, List.setIfInBounds_toArray, List.set_cons_zero, List.set_cons_succ]
            refine take_op (i := 5) (v := ?vm5) rfl (by kernel_rfl) (by kernel_rfl) (by kernel_rfl) (fun _ _ _ h => h) rfl hHeld ?ym5 ?rm5
            case ym5 => (intro wz hz; have hcz := (FX.out wz hz).2; go_simp; first | done | with_reducible rfl)
            try simp only [Act.put, List.setIfInBounds_toArray, List.set_cons_zero, List.set_cons_succ]
            refine take_one (i := 6) rfl (by kernel_rfl) rfl (fun K hK => ?_)
            go_simp
            refine Calls.mono XO.out ?_
            rintro e w8 ⟨rfl, k8, f8⟩
            have f8' : Fr G wr w8 := ((Fr.refl G wr).drew).trans f8 (fun _ _ h => h)
            refine hK.out _ _ f8' (fun hHeld => ?_)
            clear hK K
            try simp only [Act.put, List.setIfInBounds_toArray, List.set_cons_zero, List.set_cons_succ]
            refine take_op (i := 7) (v := ?vm7) rfl (by kernel_rfl) (by kernel_rfl) (by kernel_rfl) (fun _ _ _ h => h) rfl hHeld ?ym7 ?rm7
            case ym7 => (intro wz hz; go_simp; first | done | with_reducible rfl)
            try simp only [Act.put, List.setIfInBounds_toArray, List.set_cons_zero, List.set_cons_succ]
            refine take_op (i := 8) (v := ?vm8) rfl (by kernel_rfl) (by kernel_rfl) (by kernel_rfl) (fun _ _ _ h => h) rfl hHeld ?ym8 ?rm8
            case ym8 => (intro wz hz; go_simp; first | done | with_reducible rfl)
            try simp only [Act.put, List.setIfInBounds_toArray, List.set_cons_zero, List.set_cons_succ]
            refine take_op (i := 9) (v := ?vm9) rfl (by kernel_rfl) (by kernel_rfl) (by kernel_rfl) (fun _ _ _ h => h) rfl hHeld ?ym9 ?rm9
            case ym9 => (intro wz hz; go_simp; first | done | with_reducible rfl)
            try simp only [Act.put, List.setIfInBounds_toArray, List.set_cons_zero, List.set_cons_succ]
            refine take_op (i := 10) (v := ?vm10) rfl (by kernel_rfl) (by kernel_rfl) (by kernel_rfl) (fun _ _ _ h => h) rfl hHeld ?ym10 ?rm10
            case ym10 => (intro wz hz; have hcz := FV.out wz hz; go_simp; first | done | with_reducible rfl)
            try simp only [Act.put, List.setIfInBounds_toArray, List.set_cons_zero, List.set_cons_succ]
            refine take_op (i := 11) (v := ?vm11) rfl (by kernel_rfl) (by kernel_rfl) (by kernel_rfl) (fun _ _ _ h => h) rfl hHeld ?ym11 ?rm11
            case ym11 => (intro wz hz; go_simp; first | done | with_reducible rfl)
            try simp only [Act.put, List.setIfInBounds_toArray, List.set_cons_zero, List.set_cons_succ]
            refine take_op (i := 12) (v := ?vm12) rfl (by kernel_rfl) (by kernel_rfl) (by kernel_rfl) (fun _ _ _ h => h) rfl hHeld ?ym12 ?rm12
            case ym12 => (intro wz hz; have hcz := (FX.out wz hz).1; go_simp; first | done | with_reducible rfl)
            try simp only [Act.put, List.setIfInBounds_toArray, List.set_cons_zero, List.set_cons_succ]
            refine take_op (i := 13) (v := ?vm13) rfl (by kernel_rfl) (by kernel_rfl) (by kernel_rfl) (fun _ _ _ h => h) rfl hHeld ?ym13 ?rm13
            case ym13 => (intro wz hz; go_simp; first | done | with_reducible rfl)
            try simp only [Act.put, List.setIfInBounds_toArray, List.set_cons_zero, List.set_cons_succ]
            refine take_op (i := 14) (v := ?vm14) rfl (by kernel_rfl) (by kernel_rfl) (by kernel_rfl) (fun _ _ _ h => h) rfl hHeld ?ym14 ?rm14
            case ym14 => (intro wz hz; have hcz := (FX.out wz hz).2; go_simp; first | done | with_reducible rfl)
            try simp only [Act.put, List.setIfInBounds_toArray, List.set_cons_zero, List.set_cons_succ]
            have bw8 : Below w0.heap.size w0 w8 := BWR.out.trans (f8'.below (fun j hj => (HFB.out.2.1 j hj).1) BWR.out.size)
            refine take_one (i := 15) rfl (by kernel_rfl) rfl (fun K hK => ?_)
            go_simp
            refine Calls.mono (XP.out w8 bw8) ?_
            rintro e w9 ⟨v9, rfl, n9, b9⟩
            have cv9 := conv8 w9 v9 pl n9.is
            have f9 : Fr G wr w9 := f8'.trans (Fr.of_below G b9) (fun _ _ h => h)
            refine hK.out _ _ f9 (fun hHeld => ?_)
            clear hK K
            try simp only [Act.put, List.setIfInBounds_toArray, List.set_cons_zero, List.set_cons_succ]
            obtain ⟨v9a, v9c, rfl⟩ := n9.slen
            refine take_one (i := 16) rfl (by kernel_rfl) rfl (fun K hK => ?_)
            go_simp
            refine hK.out _ _ f9 (fun hHeld => ?_)
            clear hK K cv9
            try simp only [Act.put, List.setIfInBounds_toArray, List.set_cons_zero, List.set_cons_succ]
            refine take_op (i := 17) (v := ?vm17) rfl (by kernel_rfl) (by kernel_rfl) (by kernel_rfl) (fun _ _ _ h => h) rfl hHeld ?ym17 ?rm17
            case ym17 => (intro wz hz; go_simp; first | done | with_reducible rfl)
            try simp only [Act.put, List.setIfInBounds_toArray, List.set_cons_zero, List.set_cons_succ]
            refine take_op (i := 18) (v := ?vm18) rfl (by kernel_rfl) (by kernel_rfl) (by kernel_rfl) (fun _ _ _ h => h) rfl hHeld ?ym18 ?rm18
            case ym18 => (intro wz hz; go_simp; first | done | with_reducible rfl)
            try simp only [Act.put, List.setIfInBounds_toArray, List.set_cons_zero, List.set_cons_succ]
            refine take_op (i := 19) (v := ?vm19) rfl (by kernel_rfl) (by kernel_rfl) (by kernel_rfl) (fun _ _ _ h => h) rfl hHeld ?ym19 ?rm19
            case ym19 => (intro wz hz; go_simp; first | done | with_reducible rfl)
            try simp only [Act.put, List.setIfInBounds_toArray, List.set_cons_zero, List.set_cons_succ]
            refine wpAnyH_done (by kernel_rfl) ?_ _
            refine NoPanic.normal ?_
            have sz := SZ.out
            have szr := SZR.out
            have s8 := f8'.size
            have s9 := b9.size
            have hGF : ∀ j, Gr F w2 w3 j → ¬ G j := fun j hj hg => by
              rcases hj with h | h
              · exact HFB.out.2.2 j h hg
              · have := (HFB.out.2.1 j hg).2; omega
            have RES : Hid (stepX w0 w F G w9 kb kr (addN N (stepN x)) (c + stepC x)) := (show stepX w0 w F G w9 kb kr (addN N (stepN x)) (c + stepC x) from by
              rw [HSN.out, HSC.out]
              have bw9 : Below w0.heap.size w0 w9 := bw8.trans (b9.mono bw8.size)
              have hl9 := FRB.out.2.1
              have k9 := k8.below b9 (Nat.le_refl _)
              refine ⟨Gr F w2 w3, _, ⟨bookAt.below (bookAt.far FRB.out (fun j hj hl => f8'.block j hl (hGF j hj)) s8) b9 (Nat.le_refl _), k9, fun j hj => ?_, fun j hj => ?_, fun j hj hg => ?_, bw9⟩, fun j hj => ?_, ⟨bw9.os.trans HBW.out.os.symm, bw9.tape.trans HBW.out.tape.symm, bw9.output.trans HBW.out.output.symm, by omega, fun j hj hn => (b9.block j (by omega)).trans ((f8'.block j (by omega) (fun h => hn (Or.inr h))).trans (KPR.out j hj (fun h => hn (Or.inl h))))⟩⟩
              · rcases hj with h | h
                · exact (HFB.out.1 j h).1
                · have := BW1.out.size; omega
              · rcases hj with h | h
                · exact (HFB.out.2.1 j h).1
                · have h1 : wr.heap.size ≤ j := h.1
                  have := BW1.out.size; omega
              · rcases hg with g | g
                · exact hGF j hj g
                · have h1 : wr.heap.size ≤ j := g.1
                  rcases hj with h | h
                  · have := (HFB.out.1 j h).2; omega
                  · omega
              · rcases hj with (h | h) | (h | h)
                · exact Or.inl (Or.inl h)
                · exact Or.inr (by omega)
                · exact Or.inl (Or.inr h)
                · have h1 : wr.heap.size ≤ j := h.1
                  exact Or.inr (by omega))
            clear k8 f8 f8' bw8 n9 b9 f9 hHeld hGF sz szr s8 s9
            go_wp2
            go_ret
            exact ⟨rfl, RES.out⟩
theorem done_x (w0 w : World) (F G : Nat → Prop) (kb kr : Nat) (N : List Nt) (c : Int) (x : AR) (pv bv : Value) (h : pairX w0 w F G kb kr N c) (hp : anyParts w0 pv x.n x.ps) (hbv : anyBytes w0 bv x.bytes) (hq : isSum x.sum) (ht : tabIs w0)
    (h5 : x.n ≤ 500) (h6 : x.bytes.length + (flatTo x.ps x.n).length ≤ 60000) (hN : N.length < 1000000) (hc : 0 ≤ c ∧ c < 1000000000) :
    Calls Tryd.prog 30 #[.pointer (some ⟨kb, 0, none⟩), .pointer (some ⟨kr, 0, none⟩), .agg (rowV 36 (actV x.what x.kind pv bv x.sum))] w fun e w' => e = .returned (.bool true) ∧ stepX w0 w F G w' kb kr (addN N (stepN x)) (c + stepC x) := by
  by_cases hodd : x.what % 2 = 1
  · exact done_odd w0 w F G kb kr N c x pv bv h hp hbv hq ht hodd h5 h6 hN hc
  · exact done_even w0 w F G kb kr N c x pv bv h hp hbv hq ht hodd h5 h6 hN hc
theorem done_any (w0 w : World) (kb kr : Nat) (N : List Nt) (c : Int) (x : AR) (pv bv : Value) (h : pairAt w0 w kb kr N c) (hp : anyParts w0 pv x.n x.ps) (hbv : anyBytes w0 bv x.bytes) (hq : isSum x.sum) (ht : tabIs w0)
    (h5 : x.n ≤ 500) (h6 : x.bytes.length + (flatTo x.ps x.n).length ≤ 60000) (hN : N.length < 1000000) (hc : 0 ≤ c ∧ c < 1000000000) :
    Calls Tryd.prog 30 #[.pointer (some ⟨kb, 0, none⟩), .pointer (some ⟨kr, 0, none⟩), .agg (rowV 36 (actV x.what x.kind pv bv x.sum))] w fun e w' => e = .returned (.bool true) ∧ pairAt w0 w' kb kr (addN N (stepN x)) (c + stepC x) := by
  obtain ⟨F, G, h⟩ := h
  exact (done_x w0 w F G kb kr N c x pv bv h hp hbv hq ht h5 h6 hN hc).mono fun e w' ⟨h1, F', G', h2, _⟩ => ⟨h1, F', G', h2⟩
end Go.Proofs.YtmfgfcknhjblgaaDoor

/- Books: All, each part in a block of its own. -/
namespace Go.Proofs.YtmfgfcknhjblgaaDoor
set_option linter.unusedSimpArgs false
set_option linter.unusedVariables false
open Go.RowKit Go.Deep

set_option maxHeartbeats 1000000 in
set_option maxRecDepth 100000 in
theorem all_x (F : Nat → Prop) (k : Nat) (N : List Nt) (c : Int) (w : World) (h : bookAt w F k N c) (hN : N.length < 1000000) (hts : ∀ x ∈ N, x.2.size ≤ 1000000000) :
    Calls Tryd.prog 29 #[.pointer (some ⟨k, 0, none⟩)] w fun e w' => ∃ v' svs, e = .returned v' ∧ leftX w' w.heap.size v' svs (textL N) 0 ∧ Below w.heap.size w w' := by
  obtain ⟨hF, hlt, pv, hpv, hcase⟩ := h
  have hk := hlt k hF
  rcases hcase with ⟨rfl, rfl, rfl⟩ | ⟨nb, rfl, hnk, hnn⟩
  · go_enter Tryd.func29, Tryd.ntmps29
    go_wp2_with fail
    refine (empty_zero k _ hpv).mono ?_
    rintro e w' ⟨rfl, rfl⟩
    go_wp2
    go_ret
    exact ⟨_, _, rfl, leftX.nil _ _, Below.refl _ _⟩
  · obtain ⟨lv, mv, h1, h2, h3, h4, h5, h6⟩ := hnn
    have hnb := h6 nb h2
    obtain ⟨la, lc, rfl, hlc, hlm, hcell⟩ := h3.shape
    have c0 : w.cell? ⟨k, 0, none⟩ = some (.pointer (some ⟨nb, 0, none⟩)) := hpv.cell (i := 0) (by omega)
    have c1 : w.cell? ⟨nb, 0, none⟩ = some (.slice la N.length lc) := h1.cell (i := 0) (by omega)
    have hmk := run_make_room (P := Tryd.prog) 22 34 (.slice none 0 0) 24 Tryd.underlying22 hiB rfl .i64 .i64 N.length (by omega) (by omega) w
    obtain ⟨w1, hw1⟩ : ∃ w1, w1 = w.alloc (.cells (madeCells #[Value.slice none 0 0] N.length) 34) := ⟨_, rfl⟩
    rw [← hw1] at hmk
    have b1 : Below w.heap.size w w1 := by rw [hw1]; exact (Below.refl _ _).alloc (Nat.le_refl _) _
    have d0 : w1.cell? ⟨k, 0, none⟩ = some (.pointer (some ⟨nb, 0, none⟩)) := (b1.cell (p := ⟨k, 0, none⟩) hk).trans c0
    have d1 : w1.cell? ⟨nb, 0, none⟩ = some (.slice la N.length lc) := (b1.cell (p := ⟨nb, 0, none⟩) hnb).trans c1
    have hO : leftX w1 w.heap.size (.slice (some ⟨w.heap.size, 0, none⟩) 0 N.length) [] [] 0 := by
      rw [hw1]
      exact ⟨⟨rfl, Or.inr ⟨w.heap.size, N.length, _, rfl, Nat.le_refl _, blk_alloc_new _ _, Nat.zero_le _, by unfold maxLen; omega, by rw [size_madeCells]; simp, by simp⟩⟩, rfl, fun i l _ h => by simp at h, fun i u j h => by simp at h, fun i i' u u' j h => by simp at h⟩
    have HO : Hid _ := hO
    have B1 : Hid _ := b1
    have q0 : (N.length : Int) ≤ 1000000 := by omega
    have hz := zero_note
    clear hw1 hO b1 h1 h3 h4
    go_enter Tryd.func29, Tryd.ntmps29
    go_wp2_with fail
    refine (empty_some k nb w hpv).mono ?_
    rintro e w' ⟨rfl, hw⟩
    obtain rfl := hw.symm
    clear hw
    go_wp2_with (first | (refine wpList_make_run rfl _ _ _ rfl rfl rfl hmk ?_))
    go_loopw [3, 25] (fun v i wr => ∃ (j : Nat) (svs : List Value), j ≤ N.length ∧ i = .int .i64 j ∧ leftX wr w.heap.size v svs (textL (N.take j)) 0 ∧ Below w.heap.size w wr) (fun _ i _ => N.length - (intOf i).toNat)
    case atStart => exact ⟨0, [], by omega, rfl, by rw [List.take_zero]; exact HO.out, B1.out⟩
    case round =>
      obtain ⟨j, svs, hj, rfl, hm, hb⟩ := hrel
      clear hmk HO B1 c0 c1 d0 d1
      by_cases hlt2 : j < N.length
      · obtain ⟨g, rfl, hFg, hgw, hcl⟩ := hcell j _ (List.getElem?_eq_getElem hlt2)
        have p0 : (0 : Int) ≤ (j : Int) := by omega
        have p1 : (j : Int) < (N.length : Int) := by omega
        have ldc : ∀ i, i < 33 → wr.cell? ⟨g, j * 33 + i, none⟩ = some (noteV N[j] i) := fun i hi => by
          rw [hb.cell (p := ⟨g, j * 33 + i, none⟩) hgw]; exact hcl i hi
        have ra := rowIs_box wr 92 33 (noteV zeroN)
        have hbs := hb.size
        have HM : Hid _ := hm
        have HB : Hid _ := hb
        clear hm hb hcl
        go_upto_region 7 with (first | (refine wpList_load_seg rfl 92 _ rfl g (j * 33) 33 (noteV N[j]) rfl _ Tryd.underlying92 rfl note33 ldc ?_) | (refine wpList_store_row rfl 92 (.tmp 5) (.tmp 28) rfl rfl wr.heap.size 0 33 (noteV N[j]) rfl rfl note33 (fun i _ => noteV_one _ i) _ _ _ ra (by omega) ?_; intro w5 r5 hz5 hb5))
        have hs5 : w5.heap.size = wr.heap.size + 1 := by rw [hz5]; simp
        have hb5' : Below wr.heap.size wr w5 := ((Below.refl wr.heap.size wr).alloc (Nat.le_refl _) _).trans ((hb5.mono (by simp)).below (Nat.le_refl _))
        have c32 : w5.cell? ⟨wr.heap.size, 32, none⟩ = some (.string N[j].2) := by
          have := r5.cell (i := 32) (by omega)
          rw [if_pos (by omega), Nat.sub_zero, noteV, if_neg (by omega)] at this; exact this
        have hsz : N[j].2.size ≤ 1000000000 := hts _ (List.getElem_mem _)
        obtain ⟨v9, w9, hr9, hi9, ho9, hb9, hs9, hf9⟩ := str_bytes w5 N[j].2 (by omega)
        have hb39 : Below wr.heap.size wr w9 := hb5'.trans (hb9.mono (by omega))
        have hm9 : leftX w9 w.heap.size u3 svs (textL (N.take j)) 0 := leftX.below HM.out hb39 (Nat.le_refl _)
        have hu3 : ∀ q, u3.ownBlock = some q → q < wr.heap.size := fun q hq => by
          exact (HM.out.1.block q hq).2
        have hsv : ∀ (i : Nat) (u' : Value) (q : Nat), svs[i]? = some u' → u'.ownBlock = some q → q < wr.heap.size := leftX.block HM.out
        obtain ⟨a8, c8, w8, hr8, hm8, hb8⟩ := hm9.put ⟨hi9, hf9⟩ (fun q hq => by
          have := ho9 q hq
          exact ⟨by omega, fun e => by have := hu3 q e; omega, fun i u' hi e => by have := hsv i u' q hi e; omega⟩) (by simp [textL]; omega) (by omega)
        have hlt8 : (textL (N.take j)).length = j := by simp [textL]; omega
        rw [hlt8] at hr8 hm8
        obtain ⟨u3a, u3c, rfl⟩ : ∃ a c, u3 = .slice a j c := by
          obtain ⟨a, c, e⟩ := hm9.mine.slice
          rw [hlt8] at e; exact ⟨a, c, e⟩
        have HM8 : Hid _ := hm8
        have HB8 : Hid _ := HB.out.trans ((hb39.mono (by omega)).trans hb8)
        have htk : textL (N.take (j + 1)) = textL (N.take j) ++ [sBytes N[j].2] := by
          unfold textL
          rw [List.take_succ_eq_append_getElem hlt2, List.map_append]; rfl
        have HT : Hid _ := htk
        obtain ⟨va, vc, rfl, _⟩ := hi9.slice
        clear r5 hz5 hb5 hb5' hb39 hm9 hm8 hb8 htk hi9 ho9 hb9 HM HB ra ldc hu3 hs5 hs9 hf9 hsv hlt8
        go_wp2_with (first | (refine wpList_convert_run rfl _ _ _ rfl rfl hr9 ?_) | (at_builtin; refine wpList_append_run rfl (.tmp 29) (.tmp 33) _ rfl rfl rfl hr8 ?_))
        go_light
        exact ⟨⟨j + 1, _, by omega, by go_num, by rw [HT.out]; exact HM8.out, HB8.out⟩, by simp [intOf]; omega⟩
      · obtain rfl : j = N.length := by omega
        have HM : Hid _ := hm
        go_wp2
        go_ret
        exact ⟨_, _, rfl, by rw [List.take_length] at HM; exact HM.out, hb⟩
end Go.Proofs.YtmfgfcknhjblgaaDoor

/- The laws' own helper: stands, a book has the document's notes. -/
namespace Go.Proofs.YtmfgfcknhjblgaaDoor
set_option linter.unusedSimpArgs false
set_option linter.unusedVariables false
open Go.RowKit Go.Deep

theorem textL_get (N : List Nt) (i : Nat) (h : i < N.length) : (textL N).getD i [] = sBytes N[i].2 := by
  rw [List.getD_eq_getElem?_getD, textL, List.getElem?_map, List.getElem?_eq_getElem h]; rfl
theorem textL_length (N : List Nt) : (textL N).length = N.length := by simp [textL]
theorem isBytes.clearable {w : World} {v : Value} {l : List Int} (h : isBytes w v l) : ∃ x m y, v = .slice x m y ∧ (0 < m → ∃ pb po, x = some ⟨pb, po, none⟩) := by
  rcases h with ⟨e, _⟩ | ⟨pb, po, cap, e, _⟩
  · exact ⟨_, _, _, e, fun h => by omega⟩
  · exact ⟨_, _, _, e, fun _ => ⟨_, _, rfl⟩⟩
set_option maxHeartbeats 4000000 in
set_option maxRecDepth 100000 in
theorem stands_x (w0 w : World) (F G : Nat → Prop) (kb kr : Nat) (N : List Nt) (c : Int) (h : pairX w0 w F G kb kr N c) (hN : N.length < 1000000) (hts : ∀ x ∈ N, x.2.size ≤ 1000000000) :
    Calls Tryd.prog 32 #[.pointer (some ⟨kb, 0, none⟩), .pointer (some ⟨kr, 0, none⟩)] w fun e w' => e = .returned (.bool true) ∧ Below w.heap.size w w' := by
  obtain ⟨hF, hG, hFB, hGB, hFG, hbw⟩ := h
  have Y := all_x F kb N c w hF hN hts
  have hG' := hG
  obtain ⟨hGk, hGl, lv, hrow, hl, hNs⟩ := hG'
  have hk := hGl kr hGk
  obtain ⟨la, lc, rfl, hlc, hlm, hcell⟩ := hl.shape
  have K0 : Hid (∀ wz, Below w.heap.size w wz → wz.cell? ⟨kr, 0, none⟩ = some (.slice la N.length lc) ∧ wz.cell? ⟨kr, 1, none⟩ = some (.int .i64 c)) := (show ∀ wz, Below w.heap.size w wz → wz.cell? ⟨kr, 0, none⟩ = some (.slice la N.length lc) ∧ wz.cell? ⟨kr, 1, none⟩ = some (.int .i64 c) from fun wz hz => ⟨(hz.cell (p := ⟨kr, 0, none⟩) hk).trans (hrow.cell (i := 0) (by omega)), (hz.cell (p := ⟨kr, 1, none⟩) hk).trans (hrow.cell (i := 1) (by omega))⟩)
  have KN : Hid (∀ (i : Nat) (hi : i < N.length), ∃ g, la = some ⟨g, 0, none⟩ ∧ ∀ wz, Below w.heap.size w wz → ∀ j, j < 33 → wz.cell? ⟨g, i * 33 + j, none⟩ = some (noteV N[i] j)) := (show ∀ (i : Nat) (hi : i < N.length), ∃ g, la = some ⟨g, 0, none⟩ ∧ ∀ wz, Below w.heap.size w wz → ∀ j, j < 33 → wz.cell? ⟨g, i * 33 + j, none⟩ = some (noteV N[i] j) from fun i hi => by
      obtain ⟨g, h1, _, h2, h3⟩ := hcell i _ (List.getElem?_eq_getElem hi)
      exact ⟨g, h1, fun wz hz j hj => (hz.cell (p := ⟨g, i * 33 + j, none⟩) h2).trans (h3 j hj)⟩)
  have BF : Hid (∀ wz, Below w.heap.size w wz → bookAt wz F kb N c) := (show ∀ wz, Below w.heap.size w wz → bookAt wz F kb N c from fun wz hz => hF.below hz (Nat.le_refl _))
  have BG : Hid (∀ wz, Below w.heap.size w wz → rbookAt wz G kr N c) := (show ∀ wz, Below w.heap.size w wz → rbookAt wz G kr N c from fun wz hz => hG.below hz (Nat.le_refl _))
  have HS : Hid (∀ x ∈ N, isSum x.1) := (show ∀ x ∈ N, isSum x.1 from hNs)
  have HTS : Hid (∀ x ∈ N, x.2.size ≤ 1000000000) := (show ∀ x ∈ N, x.2.size ≤ 1000000000 from hts)
  have q0 : (N.length : Int) ≤ 1000000 := by omega
  clear hF hG hFB hGB hFG hbw hGk hGl hrow hl hNs hk hcell hlc hlm hts
  go_enter Tryd.func32, Tryd.ntmps32
  go_wp2_with fail
  refine Y.mono ?_
  rintro e w1 ⟨v1, svs, rfl, lx1, b1⟩
  clear Y
  have hsl := lx1.mine.slice
  obtain ⟨a1, c1, rfl⟩ := hsl
  rw [textL_length] at *
  have LX1 : Hid (leftX w1 w.heap.size (.slice a1 N.length c1) svs (textL N) 0) := (show leftX w1 w.heap.size (.slice a1 N.length c1) svs (textL N) 0 from lx1)
  have B1 : Hid (Below w.heap.size w w1) := (show Below w.heap.size w w1 from b1)
  have HC : Hid (∀ (i : Nat) (u : Value) (j : Nat), svs[i]? = some u → u.ownBlock = some j → j < w1.heap.size) := (show ∀ (i : Nat) (u : Value) (j : Nat), svs[i]? = some u → u.ownBlock = some j → j < w1.heap.size from leftX.block lx1)
  clear lx1 b1
  go_upto_region 2 with fail
  refine wp_region_noPanic ?_
  refine wp_region_held_drew (S := fun w' => Below w1.heap.size w1 w') (by kernel_rfl) ((Below.refl _ w1).drew) (fun hHeld => ?_)
  have KB : Hid (∀ wz, Below w1.heap.size w1 wz → Below w.heap.size w wz) := (show ∀ wz, Below w1.heap.size w1 wz → Below w.heap.size w wz from fun wz hz => B1.out.trans (hz.mono B1.out.size))
  refine take_op (i := 0) (v := ?va0) rfl (by kernel_rfl) (by kernel_rfl) (by kernel_rfl) (fun _ _ _ h => h) rfl hHeld ?ya0 ?ra0
  case ya0 => (intro wz hz; go_simp; first | done | with_reducible rfl)
  try simp only [Act.put, List.setIfInBounds_toArray, List.set_cons_zero, List.set_cons_succ]
  refine take_op (i := 1) (v := ?va1) rfl (by kernel_rfl) (by kernel_rfl) (by kernel_rfl) (fun _ _ _ h => h) rfl hHeld ?ya1 ?ra1
  case ya1 => (intro wz hz; go_simp; first | done | with_reducible rfl)
  try simp only [Act.put, List.setIfInBounds_toArray, List.set_cons_zero, List.set_cons_succ]
  refine take_op (i := 2) (v := ?va2) rfl (by kernel_rfl) (by kernel_rfl) (by kernel_rfl) (fun _ _ _ h => h) rfl hHeld ?ya2 ?ra2
  case ya2 => (intro wz hz; go_simp; first | done | with_reducible rfl)
  try simp only [Act.put, List.setIfInBounds_toArray, List.set_cons_zero, List.set_cons_succ]
  refine take_op (i := 3) (v := ?va3) rfl (by kernel_rfl) (by kernel_rfl) (by kernel_rfl) (fun _ _ _ h => h) rfl hHeld ?ya3 ?ra3
  case ya3 => (intro wz hz; go_simp; first | done | with_reducible rfl)
  try simp only [Act.put, List.setIfInBounds_toArray, List.set_cons_zero, List.set_cons_succ]
  refine take_op (i := 4) (v := ?va4) rfl (by kernel_rfl) (by kernel_rfl) (by kernel_rfl) (fun _ _ _ h => h) rfl hHeld ?ya4 ?ra4
  case ya4 => (intro wz hz; go_simp; first | done | with_reducible rfl)
  try simp only [Act.put, List.setIfInBounds_toArray, List.set_cons_zero, List.set_cons_succ]
  refine take_op (i := 5) (v := ?va5) rfl (by kernel_rfl) (by kernel_rfl) (by kernel_rfl) (fun _ _ _ h => h) rfl hHeld ?ya5 ?ra5
  case ya5 => (intro wz hz; have hcz := (K0.out wz (KB.out wz hz)).1; go_simp; first | done | with_reducible rfl)
  try simp only [Act.put, List.setIfInBounds_toArray, List.set_cons_zero, List.set_cons_succ]
  refine take_op (i := 6) (v := ?va6) rfl (by kernel_rfl) (by kernel_rfl) (by kernel_rfl) (fun _ _ _ h => h) rfl hHeld ?ya6 ?ra6
  case ya6 => (intro wz hz; go_simp; first | done | with_reducible rfl)
  try simp only [Act.put, List.setIfInBounds_toArray, List.set_cons_zero, List.set_cons_succ]
  refine take_op (i := 7) (v := ?va7) rfl (by kernel_rfl) (by kernel_rfl) (by kernel_rfl) (fun _ _ _ h => h) rfl hHeld ?ya7 ?ra7
  case ya7 => (intro wz hz; go_simp; first | done | with_reducible rfl)
  try simp only [Act.put, List.setIfInBounds_toArray, List.set_cons_zero, List.set_cons_succ]
  refine take_op (i := 8) (v := ?va8) rfl (by kernel_rfl) (by kernel_rfl) (by kernel_rfl) (fun _ _ _ h => h) rfl hHeld ?ya8 ?ra8
  case ya8 => (intro wz hz; go_simp; first | done | with_reducible rfl)
  try simp only [Act.put, List.setIfInBounds_toArray, List.set_cons_zero, List.set_cons_succ]
  refine take_op (i := 9) (v := ?va9) rfl (by kernel_rfl) (by kernel_rfl) (by kernel_rfl) (fun _ _ _ h => h) rfl hHeld ?ya9 ?ra9
  case ya9 => (intro wz hz; go_simp; first | done | with_reducible rfl)
  try simp only [Act.put, List.setIfInBounds_toArray, List.set_cons_zero, List.set_cons_succ]
  refine take_op (i := 11) (v := ?va11) rfl (by kernel_rfl) (by kernel_rfl) (by kernel_rfl) (fun _ _ _ h => h) rfl hHeld ?ya11 ?ra11
  case ya11 => (intro wz hz; go_simp; first | done | with_reducible rfl)
  try simp only [Act.put, List.setIfInBounds_toArray, List.set_cons_zero, List.set_cons_succ]
  refine take_op (i := 12) (v := ?va12) rfl (by kernel_rfl) (by kernel_rfl) (by kernel_rfl) (fun _ _ _ h => h) rfl hHeld ?ya12 ?ra12
  case ya12 => (intro wz hz; go_simp; first | done | with_reducible rfl)
  try simp only [Act.put, List.setIfInBounds_toArray, List.set_cons_zero, List.set_cons_succ]
  refine take_op (i := 13) (v := ?va13) rfl (by kernel_rfl) (by kernel_rfl) (by kernel_rfl) (fun _ _ _ h => h) rfl hHeld ?ya13 ?ra13
  case ya13 => (intro wz hz; go_simp; first | done | with_reducible rfl)
  try simp only [Act.put, List.setIfInBounds_toArray, List.set_cons_zero, List.set_cons_succ]
  refine take_op (i := 14) (v := ?va14) rfl (by kernel_rfl) (by kernel_rfl) (by kernel_rfl) (fun _ _ _ h => h) rfl hHeld ?ya14 ?ra14
  case ya14 => (intro wz hz; have hcz := (K0.out wz (KB.out wz hz)).2; go_simp; first | done | with_reducible rfl)
  try simp only [Act.put, List.setIfInBounds_toArray, List.set_cons_zero, List.set_cons_succ]
  refine take_one (i := 10) rfl (by kernel_rfl) rfl (fun K hK => ?_)
  go_simp
  refine Calls.mono (calls_any F kb N c _ (BF.out _ (KB.out _ hHeld))) ?_
  rintro e w' ⟨rfl, hw⟩
  obtain rfl := hw.symm
  clear hw
  refine hK.out _ _ hHeld (fun hHeld => ?_)
  clear hK K
  try simp only [Act.put, List.setIfInBounds_toArray, List.set_cons_zero, List.set_cons_succ]
  refine take_op (i := 15) (v := ?va15) rfl (by kernel_rfl) (by kernel_rfl) (by kernel_rfl) (fun _ _ _ h => h) rfl hHeld ?ya15 ?ra15
  case ya15 => (intro wz hz; go_simp; first | done | with_reducible rfl)
  try simp only [Act.put, List.setIfInBounds_toArray, List.set_cons_zero, List.set_cons_succ]
  refine take_op (i := 16) (v := ?va16) rfl (by kernel_rfl) (by kernel_rfl) (by kernel_rfl) (fun _ _ _ h => h) rfl hHeld ?ya16 ?ra16
  case ya16 => (intro wz hz; go_simp; first | done | with_reducible rfl)
  try simp only [Act.put, List.setIfInBounds_toArray, List.set_cons_zero, List.set_cons_succ]
  refine wpAnyH_done (by kernel_rfl) ?_ _
  refine NoPanic.normal ?_
  have LXd : Hid (leftX w1.drew w.heap.size (.slice a1 N.length c1) svs (textL N) 0 ∧ Below w.heap.size w w1.drew) := (show leftX w1.drew w.heap.size (.slice a1 N.length c1) svs (textL N) 0 ∧ Below w.heap.size w w1.drew from ⟨leftX.below LX1.out ((Below.refl w1.heap.size w1).drew) (Nat.le_refl _), B1.out.drew⟩)
  clear hHeld
  go_wp2
  go_loopw [6] (fun i wr => ∃ j : Nat, j ≤ N.length ∧ i = .int .i64 j ∧ leftX wr w.heap.size (.slice a1 N.length c1) svs (textL N) j ∧ Below w.heap.size w wr ∧ w1.heap.size ≤ wr.heap.size) (fun i _ => N.length - (intOf i).toNat)
  case atStart => exact ⟨0, by omega, rfl, LXd.out.1, LXd.out.2, Nat.le_refl _⟩
  case round =>
    obtain ⟨j, hj, rfl, hlx, hb, hsz⟩ := hrel
    clear LXd
    have p0 : (0 : Int) ≤ (j : Int) := by omega
    by_cases hlt : j < N.length
    · have p1 : (j : Int) < (N.length : Int) := by omega
      obtain ⟨g, rfl, hgc⟩ := KN.out j hlt
      obtain ⟨y, hy⟩ : ∃ y, y = N[j] := ⟨_, rfl⟩
      have hys : isSum y.1 := by rw [hy]; exact HS.out _ (List.getElem_mem _)
      rw [← hy] at hgc
      have HY : Hid _ := hy
      have KS : Hid (∀ wz, Below w.heap.size w wz → ∀ i, i < 32 → wz.cell? ⟨g, j * 33 + i, none⟩ = some (arrV y.1 i)) := (show ∀ wz, Below w.heap.size w wz → ∀ i, i < 32 → wz.cell? ⟨g, j * 33 + i, none⟩ = some (arrV y.1 i) from fun wz hz i hi => by have := hgc wz hz i (by omega); rw [noteV, if_pos hi] at this; exact this)
      have KT : Hid (∀ wz, Below w.heap.size w wz → wz.cell? ⟨g, j * 33 + 32, none⟩ = some (.string y.2)) := (show ∀ wz, Below w.heap.size w wz → wz.cell? ⟨g, j * 33 + 32, none⟩ = some (.string y.2) from fun wz hz => by have := hgc wz hz 32 (by omega); rw [noteV, if_neg (by omega)] at this; exact this)
      clear hgc hy
      have kr0 := (K0.out wr hb).1
      have ks := KS.out wr hb
      have X := findB_soft F kb N c y.1 wr (BF.out wr hb) hys HTS.out
      unfold sumV at X
      have HLX : Hid _ := hlx
      have HB : Hid _ := hb
      have KSr : Hid _ := ks
      clear hlx hb ks
      go_wp2_with (first | (refine wpList_load_seg rfl 30 _ rfl g (j * 33) 32 (arrV y.1) rfl _ Tryd.underlying30 rfl hi32' KSr.out ?_))
      refine X.mono ?_
      rintro e w7 ⟨v7, rfl, sf7, o7, b7⟩
      clear X KSr kr0
      have b7' : Below w.heap.size w w7 := HB.out.trans (b7.mono HB.out.size)
      have Z := rfind_any G kr N c y.1 w7 (BG.out w7 b7') hys hN
      unfold sumV at Z
      have kr7 := (K0.out w7 b7').1
      have ks7 := KS.out w7 b7'
      have lx7 := leftX.below HLX.out b7 (Nat.le_refl _)
      obtain ⟨xa, xm, xc, rfl, hxp⟩ := sf7.1.clearable
      have S7 : Hid _ := sf7
      have O7 : Hid _ := o7
      have B7 : Hid _ := b7'
      have LX7 : Hid _ := lx7
      have KS7 : Hid _ := ks7
      have sz7 := b7.size
      have sz0 := HB.out.size
      have SZ : Hid (w.heap.size ≤ wr.heap.size ∧ wr.heap.size ≤ w7.heap.size) := (show w.heap.size ≤ wr.heap.size ∧ wr.heap.size ≤ w7.heap.size from ⟨sz0, sz7⟩)
      have HXP : Hid _ := hxp
      clear sf7 o7 b7 b7' lx7 ks7 sz7 sz0 HLX HB hxp
      go_wp2_with (first | (refine wpList_load_seg rfl 30 _ rfl g (j * 33) 32 (arrV y.1) rfl _ Tryd.underlying30 rfl hi32' KS7.out ?_))
      refine Z.mono ?_
      rintro e w8 ⟨rfl, b8⟩
      clear Z KS7 kr7
      have lx8 := leftX.below LX7.out b8 (Nat.le_refl _)
      have b8' : Below w.heap.size w w8 := B7.out.trans (b8.mono B7.out.size)
      have s8 : softB w8 (.slice xa xm xc) (foundB N y.1) := softB.below S7.out b8 (Nat.le_refl _)
      obtain ⟨g1, cap1, x1, m1, y1, _, he1, hc1, hby1, _, _, _⟩ := lx8.clear (C := w1.heap.size) (by rw [textL_length]; exact hlt) HC.out
      rw [textL_get N j hlt] at hby1
      rw [textL_length] at he1
      have he' : a1 = some ⟨g1, 0, none⟩ ∧ c1 = cap1 := by simpa using he1
      obtain ⟨rfl, rfl⟩ := he'
      have tx : strOf (sBytes N[j].2) = y.2 := by rw [strOf_sBytes, HY.out]
      have tf := foundT_B N y.1
      have CG : Hid (∀ wz, Mid 0 0 w8 wz → wz.cell? ⟨g1, j, none⟩ = some (.slice x1 m1 y1)) := (show ∀ wz, Mid 0 0 w8 wz → wz.cell? ⟨g1, j, none⟩ = some (.slice x1 m1 y1) from fun wz hz => (World.cell?_of_block (a := ⟨g1, j, none⟩) (hz.same g1)).trans hc1)
      have CU : Hid (∀ wz, Mid 0 0 w8 wz → (convert 34 9 (.slice x1 m1 y1)).run Tryd.prog wz = .ok (.string y.2) wz) := (show ∀ wz, Mid 0 0 w8 wz → (convert 34 9 (.slice x1 m1 y1)).run Tryd.prog wz = .ok (.string y.2) wz from fun wz hz => by have := conv8 wz _ _ (hby1.mid hz); rw [tx] at this; exact this)
      have CX : Hid (∀ wz, Mid 0 0 w8 wz → (convert 34 9 (.slice xa xm xc)).run Tryd.prog wz = .ok (.string (foundT N y.1)) wz) := (show ∀ wz, Mid 0 0 w8 wz → (convert 34 9 (.slice xa xm xc)).run Tryd.prog wz = .ok (.string (foundT N y.1)) wz from fun wz hz => by have := conv8 wz _ _ (s8.1.mid hz); rw [tf] at this; exact this)
      have MB : Hid (∀ wz, Mid 0 0 w8 wz → Below w.heap.size w wz) := (show ∀ wz, Mid 0 0 w8 wz → Below w.heap.size w wz from fun wz hz => b8'.trans ⟨hz.os, hz.tape, hz.output, Nat.le_of_eq hz.size.symm, fun k _ => hz.same k⟩)
      have LX8 : Hid (leftX w8 w.heap.size (.slice (some ⟨g1, 0, none⟩) N.length c1) svs (textL N) j) := (show leftX w8 w.heap.size (.slice (some ⟨g1, 0, none⟩) N.length c1) svs (textL N) j from lx8)
      have S8 : Hid (softB w8 (.slice xa xm xc) (foundB N y.1)) := (show softB w8 (.slice xa xm xc) (foundB N y.1) from s8)
      have SZ8 : Hid (w7.heap.size ≤ w8.heap.size) := (show w7.heap.size ≤ w8.heap.size from b8.size)
      clear lx8 b8 b8' s8 hc1 hby1 he1 LX7 B7 S7 tx tf
      obtain ⟨T, hT⟩ : ∃ T, T = foundT N y.1 := ⟨_, rfl⟩
      obtain ⟨bf, hbf⟩ : ∃ bf, bf = (firstAt N y.1).isSome := ⟨_, rfl⟩
      rw [← hT] at CX ⊢
      rw [← hbf]
      clear hT hbf
      go_upto_region 9 with fail
      go_cut [6, 7, 86] from 30 to 91 (fun i x c wx => i = .int .i64 (j : Int) ∧ x = .slice xa xm xc ∧ c = .bool false ∧ Mid 0 0 w8 wx)
      case first =>
        refine wp_region_noPanic ?_
        refine wp_region_held_drew (S := fun w' => Mid 0 0 w8 w') (by kernel_rfl) ((Mid.refl 0 0 w8).drew) (fun hHeld => ?_)
        refine take_op (i := 0) (v := ?vb0) rfl (by kernel_rfl) (by kernel_rfl) (by kernel_rfl) (fun _ _ _ h => h) rfl hHeld ?yb0 ?rb0
        case yb0 => (intro wz hz; go_simp; first | done | with_reducible rfl)
        try simp only [Act.put, List.setIfInBounds_toArray, List.set_cons_zero, List.set_cons_succ]
        refine take_op (i := 1) (v := ?vb1) rfl (by kernel_rfl) (by kernel_rfl) (by kernel_rfl) (fun _ _ _ h => h) rfl hHeld ?yb1 ?rb1
        case yb1 => (intro wz hz; go_simp; first | done | with_reducible rfl)
        try simp only [Act.put, List.setIfInBounds_toArray, List.set_cons_zero, List.set_cons_succ]
        refine take_op (i := 2) (v := ?vb2) rfl (by kernel_rfl) (by kernel_rfl) (by kernel_rfl) (fun _ _ _ h => h) rfl hHeld ?yb2 ?rb2
        case yb2 => (intro wz hz; go_simp; first | done | with_reducible rfl)
        try simp only [Act.put, List.setIfInBounds_toArray, List.set_cons_zero, List.set_cons_succ]
        refine take_op (i := 3) (v := ?vb3) rfl (by kernel_rfl) (by kernel_rfl) (by kernel_rfl) (fun _ _ _ h => h) rfl hHeld ?yb3 ?rb3
        case yb3 => (intro wz hz; have hcz := CG.out wz hz; go_simp; first | done | with_reducible rfl)
        try simp only [Act.put, List.setIfInBounds_toArray, List.set_cons_zero, List.set_cons_succ]
        refine take_op (i := 4) (v := ?vb4) rfl (by kernel_rfl) (by kernel_rfl) (by kernel_rfl) (fun _ _ _ h => h) rfl hHeld ?yb4 ?rb4
        case yb4 => (intro wz hz; have hcz := CU.out wz hz; go_simp; first | done | with_reducible rfl)
        try simp only [Act.put, List.setIfInBounds_toArray, List.set_cons_zero, List.set_cons_succ]
        refine take_op (i := 5) (v := ?vb5) rfl (by kernel_rfl) (by kernel_rfl) (by kernel_rfl) (fun _ _ _ h => h) rfl hHeld ?yb5 ?rb5
        case yb5 => (intro wz hz; go_simp; first | done | with_reducible rfl)
        try simp only [Act.put, List.setIfInBounds_toArray, List.set_cons_zero, List.set_cons_succ]
        refine take_op (i := 6) (v := ?vb6) rfl (by kernel_rfl) (by kernel_rfl) (by kernel_rfl) (fun _ _ _ h => h) rfl hHeld ?yb6 ?rb6
        case yb6 => (intro wz hz; go_simp; first | done | with_reducible rfl)
        try simp only [Act.put, List.setIfInBounds_toArray, List.set_cons_zero, List.set_cons_succ]
        refine take_op (i := 7) (v := ?vb7) rfl (by kernel_rfl) (by kernel_rfl) (by kernel_rfl) (fun _ _ _ h => h) rfl hHeld ?yb7 ?rb7
        case yb7 => (intro wz hz; go_simp; first | done | with_reducible rfl)
        try simp only [Act.put, List.setIfInBounds_toArray, List.set_cons_zero, List.set_cons_succ]
        refine take_op (i := 8) (v := ?vb8) rfl (by kernel_rfl) (by kernel_rfl) (by kernel_rfl) (fun _ _ _ h => h) rfl hHeld ?yb8 ?rb8
        case yb8 => (intro wz hz; have hcz := (K0.out wz (MB.out wz hz)).1; go_simp; first | done | with_reducible rfl)
        try simp only [Act.put, List.setIfInBounds_toArray, List.set_cons_zero, List.set_cons_succ]
        refine take_op (i := 9) (v := ?vb9) rfl (by kernel_rfl) (by kernel_rfl) (by kernel_rfl) (fun _ _ _ h => h) rfl hHeld ?yb9 ?rb9
        case yb9 => (intro wz hz; go_simp; first | done | with_reducible rfl)
        try simp only [Act.put, List.setIfInBounds_toArray, List.set_cons_zero, List.set_cons_succ]
        refine take_op (i := 10) (v := ?vb10) rfl (by kernel_rfl) (by kernel_rfl) (by kernel_rfl) (fun _ _ _ h => h) rfl hHeld ?yb10 ?rb10
        case yb10 => (intro wz hz; go_simp; first | done | with_reducible rfl)
        try simp only [Act.put, List.setIfInBounds_toArray, List.set_cons_zero, List.set_cons_succ]
        refine take_op (i := 11) (v := ?vb11) rfl (by kernel_rfl) (by kernel_rfl) (by kernel_rfl) (fun _ _ _ h => h) rfl hHeld ?yb11 ?rb11
        case yb11 => (intro wz hz; go_simp; first | done | with_reducible rfl)
        try simp only [Act.put, List.setIfInBounds_toArray, List.set_cons_zero, List.set_cons_succ]
        refine take_op (i := 12) (v := ?vb12) rfl (by kernel_rfl) (by kernel_rfl) (by kernel_rfl) (fun _ _ _ h => h) rfl hHeld ?yb12 ?rb12
        case yb12 => (intro wz hz; have hcz := KT.out wz (MB.out wz hz); go_simp; first | done | with_reducible rfl)
        try simp only [Act.put, List.setIfInBounds_toArray, List.set_cons_zero, List.set_cons_succ]
        refine take_op (i := 13) (v := ?vb13) rfl (by kernel_rfl) (by kernel_rfl) (by kernel_rfl) (fun _ _ _ h => h) rfl hHeld ?yb13 ?rb13
        case yb13 => (intro wz hz; go_simp; first | done | with_reducible rfl)
        try simp only [Act.put, List.setIfInBounds_toArray, List.set_cons_zero, List.set_cons_succ]
        refine take_op (i := 14) (v := ?vb14) rfl (by kernel_rfl) (by kernel_rfl) (by kernel_rfl) (fun _ _ _ h => h) rfl hHeld ?yb14 ?rb14
        case yb14 => (intro wz hz; go_simp; first | done | with_reducible rfl)
        try simp only [Act.put, List.setIfInBounds_toArray, List.set_cons_zero, List.set_cons_succ]
        refine take_op (i := 15) (v := ?vb15) rfl (by kernel_rfl) (by kernel_rfl) (by kernel_rfl) (fun _ _ _ h => h) rfl hHeld ?yb15 ?rb15
        case yb15 => (intro wz hz; go_simp; first | done | with_reducible rfl)
        try simp only [Act.put, List.setIfInBounds_toArray, List.set_cons_zero, List.set_cons_succ]
        refine take_op (i := 16) (v := ?vb16) rfl (by kernel_rfl) (by kernel_rfl) (by kernel_rfl) (fun _ _ _ h => h) rfl hHeld ?yb16 ?rb16
        case yb16 => (intro wz hz; have hcz := CX.out wz hz; go_simp; first | done | with_reducible rfl)
        try simp only [Act.put, List.setIfInBounds_toArray, List.set_cons_zero, List.set_cons_succ]
        refine take_op (i := 17) (v := ?vb17) rfl (by kernel_rfl) (by kernel_rfl) (by kernel_rfl) (fun _ _ _ h => h) rfl hHeld ?yb17 ?rb17
        case yb17 => (intro wz hz; go_simp; first | done | with_reducible rfl)
        try simp only [Act.put, List.setIfInBounds_toArray, List.set_cons_zero, List.set_cons_succ]
        refine take_op (i := 18) (v := ?vb18) rfl (by kernel_rfl) (by kernel_rfl) (by kernel_rfl) (fun _ _ _ h => h) rfl hHeld ?yb18 ?rb18
        case yb18 => (intro wz hz; go_simp; first | done | with_reducible rfl)
        try simp only [Act.put, List.setIfInBounds_toArray, List.set_cons_zero, List.set_cons_succ]
        refine take_op (i := 19) (v := ?vb19) rfl (by kernel_rfl) (by kernel_rfl) (by kernel_rfl) (fun _ _ _ h => h) rfl hHeld ?yb19 ?rb19
        case yb19 => (intro wz hz; go_simp; first | done | with_reducible rfl)
        try simp only [Act.put, List.setIfInBounds_toArray, List.set_cons_zero, List.set_cons_succ]
        refine take_op (i := 20) (v := ?vb20) rfl (by kernel_rfl) (by kernel_rfl) (by kernel_rfl) (fun _ _ _ h => h) rfl hHeld ?yb20 ?rb20
        case yb20 => (intro wz hz; go_simp; first | done | with_reducible rfl)
        try simp only [Act.put, List.setIfInBounds_toArray, List.set_cons_zero, List.set_cons_succ]
        refine take_op (i := 21) (v := ?vb21) rfl (by kernel_rfl) (by kernel_rfl) (by kernel_rfl) (fun _ _ _ h => h) rfl hHeld ?yb21 ?rb21
        case yb21 => (intro wz hz; go_simp; first | done | with_reducible rfl)
        try simp only [Act.put, List.setIfInBounds_toArray, List.set_cons_zero, List.set_cons_succ]
        refine take_op (i := 22) (v := ?vb22) rfl (by kernel_rfl) (by kernel_rfl) (by kernel_rfl) (fun _ _ _ h => h) rfl hHeld ?yb22 ?rb22
        case yb22 => (intro wz hz; go_simp; first | done | with_reducible rfl)
        try simp only [Act.put, List.setIfInBounds_toArray, List.set_cons_zero, List.set_cons_succ]
        refine take_op (i := 23) (v := ?vb23) rfl (by kernel_rfl) (by kernel_rfl) (by kernel_rfl) (fun _ _ _ h => h) rfl hHeld ?yb23 ?rb23
        case yb23 => (intro wz hz; go_simp; first | done | with_reducible rfl)
        try simp only [Act.put, List.setIfInBounds_toArray, List.set_cons_zero, List.set_cons_succ]
        refine take_op (i := 24) (v := ?vb24) rfl (by kernel_rfl) (by kernel_rfl) (by kernel_rfl) (fun _ _ _ h => h) rfl hHeld ?yb24 ?rb24
        case yb24 => (intro wz hz; go_simp; first | done | with_reducible rfl)
        try simp only [Act.put, List.setIfInBounds_toArray, List.set_cons_zero, List.set_cons_succ]
        refine wpAnyH_done (by kernel_rfl) ?_ _
        refine NoPanic.normal ?_
        have HB2 : Hid _ := hHeld
        clear hHeld
        go_wp2_with fail
        go_meet
        case rel => exact ⟨rfl, rfl, (by simp), HB2.out⟩
      case rest =>
        obtain ⟨rfl, rfl, rfl, hm0⟩ := hcut
        have szw := SZ.out
        have sz8 := SZ8.out
        have lxc := leftX.far LX8.out (fun k _ _ => hm0.same k) (Nat.le_of_eq hm0.size.symm)
        have sxc : softE wc (.slice xa xm xc) := S8.out.2.far (fun k _ => hm0.same k)
        have bwc := MB.out wc hm0
        obtain ⟨wd, hrd, hzd, o1, o2, o3, hbd, _⟩ := soft_clear wc _ xa xm xc rfl HXP.out sxc
        have hsc := hm0.size
        have hxn : ∀ k, (Value.slice xa xm xc).ownBlock = some k → w1.heap.size ≤ k := fun k hk => Nat.le_trans hsz (O7.out k hk)
        have hvb : ∀ k, (Value.slice (some ⟨g1, 0, none⟩) N.length c1).ownBlock = some k → k < w1.heap.size := fun k hk => (LX1.out.1.block k hk).2
        have lxd : leftX wd w.heap.size (.slice (some ⟨g1, 0, none⟩) N.length c1) svs (textL N) j := by
          obtain ⟨h1, h2, h3, h4, h5⟩ := lxc
          refine ⟨h1.far (fun k hk => hbd k (fun e => by have := hxn k e; have := hvb k hk; omega)), h2, fun i l hi hl => ?_, h4, h5⟩
          obtain ⟨u, a1, a2⟩ := h3 i l hi hl
          exact ⟨u, a1, a2.far (fun k hk => hbd k (fun e => by have := hxn k e; have := HC.out i u k a1 hk; omega)) (by omega)⟩
        have bwd : Below w.heap.size w wd := ⟨o1.trans bwc.os, o2.trans bwc.tape, o3.trans bwc.output, by have := bwc.size; omega, fun k hk => (hbd k (fun e => by have := O7.out k e; omega)).trans (bwc.block k hk)⟩
        obtain ⟨g2, cap2, x2, m2, y2, we, he2, hc2, _, hre, lxe, mde⟩ := lxd.clear (C := w1.heap.size) (by rw [textL_length]; exact hlt) HC.out
        have he' : g1 = g2 ∧ c1 = cap2 := by rw [textL_length] at he2; simpa using he2
        obtain ⟨rfl, rfl⟩ := he'
        have LXE : Hid _ := lxe
        have BWE : Hid (Below w.heap.size w we) := (show Below w.heap.size w we from bwd.trans mde.below)
        have SZE : Hid (w1.heap.size ≤ we.heap.size) := (show w1.heap.size ≤ we.heap.size from by have := mde.size; omega)
        clear lxc sxc bwc lxd bwd lxe mde hbd o1 o2 o3 CG CU CX MB LX8 S8 he2 hm0 hxn hvb hsc hzd
        go_wp2
        go_light
        exact ⟨⟨j + 1, by omega, by go_num, LXE.out, BWE.out, SZE.out⟩, by simp [intOf]; omega⟩
    · obtain rfl : j = N.length := by omega
      have R : Hid _ := hb
      clear hlx hb
      go_wp2
      go_ret
      exact ⟨rfl, R.out⟩
theorem stands_any (w0 w : World) (kb kr : Nat) (N : List Nt) (c : Int) (h : pairAt w0 w kb kr N c) (hN : N.length < 1000000) (hts : ∀ x ∈ N, x.2.size ≤ 1000000000) :
    Calls Tryd.prog 32 #[.pointer (some ⟨kb, 0, none⟩), .pointer (some ⟨kr, 0, none⟩)] w fun e w' => e = .returned (.bool true) ∧ pairAt w0 w' kb kr N c := by
  obtain ⟨F, G, h⟩ := h
  exact (stands_x w0 w F G kb kr N c h hN hts).mono fun e w' ⟨h1, h2⟩ => ⟨h1, F, G, h.below h2⟩
end Go.Proofs.YtmfgfcknhjblgaaDoor

/- The frame of a law's row: what was read reads behind the call as it did, where nothing old has turned. -/
namespace Go.Proofs.YtmfgfcknhjblgaaDoor
open Go.RowKit Go.Deep Go.ChangeShapes Go.WideShapes Go.ChangeAt

theorem below_trodAll {H : Type} {enc : TypeId × Value → H} {P : Program} (hl : laidOutB P = true) {W W' : World} (hb : Below W.heap.size W W') :
    ∀ {ts : List TypeId} {vs : List Value} {ds : List (DataW H)} {ps : List MemPlace}, (∀ t ∈ ts, P.readableRec t = true ∧ t < P.types.size) → DataW.TrodAll enc P W 0 (fun _ => true) true ts vs ds ps → (∀ x ∈ ps, x.block < W.heap.size) →
      DataW.TrodAll enc P W' 0 (fun b => decide (b < W.heap.size)) true ts vs ds ps
  | [], [], [], _, _, h, _ => h
  | t :: ts, v :: vs, d :: ds, ps, hts, h, hlt => by
    obtain ⟨p, q, h1, h2, e⟩ := h
    subst e
    exact ⟨p, q, Below.trod hl (hts t List.mem_cons_self).1 (hts t List.mem_cons_self).2 h1 hb (fun x hx => hlt x (List.mem_append_left _ hx)), below_trodAll hl hb (fun u hu => hts u (List.mem_cons_of_mem _ hu)) h2 (fun x hx => hlt x (List.mem_append_right _ hx)), rfl⟩

/-- WHAT A LAW's ROW ASKS BEHIND THE CALL, where the answer is true and nothing old has turned. -/
theorem law_post {H : Type} {enc : TypeId × Value → H} {P : Program} {spec : ChangeSpec} {f : Func} {W W' : World} {args : Array Value} {ds gs : List (DataW H)} {before : List MemPlace} {tb : TypeId}
    (hl : laidOutB P = true) (hts : ∀ t ∈ f.params.toList, P.readableRec t = true ∧ t < P.types.size) (hvars : spec.vars = []) (hres : f.resultTypes = #[tb]) (hbool : P.underlying tb = some .bool)
    (hspec : spec.fn H (ds ++ gs) = { results := [.lit (.bool true)], args := ds })
    (hW : DataW.Whole enc P f.params.toList spec.vars false W args.toList ds gs before) (hb : Below W.heap.size W W') : spec.post enc P f false true false false W args (.bool true) W' := by
  have hW' := hW
  have hlt := hW.lt
  obtain ⟨p, q, hA, hV, rfl, hfz, hnd⟩ := hW
  rw [hvars] at hV
  obtain ⟨rfl, rfl⟩ := trodVars_none hV
  refine ⟨ds, [], p ++ [], [], p, [], hW', ?_, ?_, ?_, ?_, fun h => by cases h⟩
  · rw [hspec, hres]
    exact trodAll_cons_mk (shut_bool hbool _) trodAll_mk0
  · rw [hspec]
    exact below_trodAll hl hb hts hA (fun x hx => hlt x (List.mem_append_left _ hx))
  · rw [hspec, hvars]; exact hV
  · exact hb.frame _

/-- AN ARRAY OF BYTES, opened. -/
theorem open_bytes {H : Type} {enc : TypeId × Value → H} {P : Program} {w : World} {base b0 : Nat} {sp : Nat → Bool} {held : Bool} {r : Reach} {t e : TypeId} {n : Nat} {v : Value} {d : DataW H} {ps : List MemPlace}
    (hu : P.underlying t = some (.array n e)) (he : P.underlying e = some (.int .u8)) (hc : P.cellsOf e = 1) (hct : P.cellsOf t = n) (hval : Value.okWide P w r b0 t v) (hd : DataW.Trod enc P w base sp held t v d ps) :
    ∃ f : Nat → Int, v = .agg (rowV n fun i => .int .u8 (f i)) ∧ ∀ i, 0 ≤ f i ∧ f i ≤ 255 := by
  unfold Value.okWide at hval
  rw [hu] at hval
  obtain ⟨cs, rfl, hsz, _⟩ := hval
  obtain ⟨fuel, hf⟩ := hd
  obtain ⟨xs, m, rfl, _, hlen, _, hx⟩ := DataW.trod_array hu hf
  simp only [Value.cells] at hx hlen
  have hget : ∀ i, i < n → ∃ z : Int, cs[i]? = some (.int .u8 z) ∧ 0 ≤ z ∧ z ≤ 255 := fun i hi => by
    have h1 := hx i hi
    rw [hc, Nat.mul_one] at h1
    have hxi : i < xs.length := by omega
    rw [List.getElem?_eq_getElem hxi] at h1
    obtain ⟨z, hz, _, hw⟩ := DataW.trod_int he h1
    refine ⟨z, ?_, bounds_u8 hw⟩
    have hcs : cs.toList[i]? = some (.int .u8 z) := by
      have := congrArg (fun l => l[0]?) hz
      simpa [List.getElem?_take, List.getElem?_drop] using this
    rw [← Array.getElem?_toList]; exact hcs
  refine ⟨fun i => if h : i < n then Classical.choose (hget i h) else 0, ?_, fun i => ?_⟩
  · congr 1
    refine rowV_eq (by omega) fun i hi => ?_
    dsimp only
    rw [dif_pos hi]; exact (Classical.choose_spec (hget i hi)).1
  · dsimp only
    by_cases h : i < n
    · rw [dif_pos h]; exact (Classical.choose_spec (hget i h)).2
    · rw [dif_neg h]; omega
end Go.Proofs.YtmfgfcknhjblgaaDoor

/- A sum that is handed in. -/
namespace Go.Proofs.YtmfgfcknhjblgaaDoor
open Go.RowKit Go.Deep
/-- its bytes as a list. -/
def listF (f : Nat → Int) : List Int := (List.range 32).map f
theorem listF_getD (f : Nat → Int) (i : Nat) (h : i < 32) : (listF f).getD i 0 = f i := by
  rw [listF, List.getD_eq_getElem?_getD, List.getElem?_map, List.getElem?_range h]; rfl
theorem listF_sum {f : Nat → Int} (hf : ∀ i, 0 ≤ f i ∧ f i ≤ 255) : isSum (listF f) := ⟨by simp [listF], fun i => by
  by_cases h : i < 32
  · rw [listF_getD f i h]; exact hf i
  · rw [List.getD_eq_getElem?_getD, List.getElem?_eq_none (by simp [listF]; omega)]; exact ⟨by simp, by simp⟩⟩
theorem listF_row (f : Nat → Int) : rowV 32 (fun i => .int .u8 (f i)) = rowV 32 (arrV (listF f)) := rowV_congr fun i hi => by rw [arrV, listF_getD f i hi]
def zeroSum : Value := .agg #[.int .u8 0, .int .u8 0, .int .u8 0, .int .u8 0, .int .u8 0, .int .u8 0, .int .u8 0, .int .u8 0, .int .u8 0, .int .u8 0, .int .u8 0, .int .u8 0, .int .u8 0, .int .u8 0, .int .u8 0, .int .u8 0, .int .u8 0, .int .u8 0, .int .u8 0, .int .u8 0, .int .u8 0, .int .u8 0, .int .u8 0, .int .u8 0, .int .u8 0, .int .u8 0, .int .u8 0, .int .u8 0, .int .u8 0, .int .u8 0, .int .u8 0, .int .u8 0]
def zeroSumD {H : Type} : DataW H := .agg [.lit (.int .u8 0), .lit (.int .u8 0), .lit (.int .u8 0), .lit (.int .u8 0), .lit (.int .u8 0), .lit (.int .u8 0), .lit (.int .u8 0), .lit (.int .u8 0), .lit (.int .u8 0), .lit (.int .u8 0), .lit (.int .u8 0), .lit (.int .u8 0), .lit (.int .u8 0), .lit (.int .u8 0), .lit (.int .u8 0), .lit (.int .u8 0), .lit (.int .u8 0), .lit (.int .u8 0), .lit (.int .u8 0), .lit (.int .u8 0), .lit (.int .u8 0), .lit (.int .u8 0), .lit (.int .u8 0), .lit (.int .u8 0), .lit (.int .u8 0), .lit (.int .u8 0), .lit (.int .u8 0), .lit (.int .u8 0), .lit (.int .u8 0), .lit (.int .u8 0), .lit (.int .u8 0), .lit (.int .u8 0)]
end Go.Proofs.YtmfgfcknhjblgaaDoor

/- SealNotes' walk. -/
namespace Go.Proofs.YtmfgfcknhjblgaaDoor
set_option linter.unusedSimpArgs false
set_option linter.unusedVariables false
open Go.RowKit Go.Deep

/-- the notes, and how often was hashed, behind k acts. -/
def notesTo (acts : Nat → AR) : Nat → List Nt
  | 0 => []
  | k + 1 => addN (notesTo acts k) (stepN (acts k))
def callsTo (acts : Nat → AR) : Nat → Int
  | 0 => 0
  | k + 1 => callsTo acts k + stepC (acts k)
theorem stepC_le (x : AR) : 0 ≤ stepC x ∧ stepC x ≤ 1 := by unfold stepC; split <;> omega
theorem callsTo_le (acts : Nat → AR) : ∀ k, 0 ≤ callsTo acts k ∧ callsTo acts k ≤ (k : Int)
  | 0 => by simp [callsTo]
  | k + 1 => by
    have := callsTo_le acts k
    have := stepC_le (acts k)
    rw [callsTo]; omega
theorem notesTo_length (acts : Nat → AR) : ∀ k, (notesTo acts k).length ≤ k
  | 0 => by simp [notesTo]
  | k + 1 => by
    have := notesTo_length acts k
    have := addN_len (notesTo acts k) (stepN (acts k))
    rw [notesTo]; omega
theorem stepN_size (x : AR) (h5 : x.n ≤ 500) (h6 : x.bytes.length + (flatTo x.ps x.n).length ≤ 60000) : (stepN x).2.size ≤ 100000 := by
  unfold stepN
  split
  · show (strOf x.bytes).size ≤ 100000
    rw [strOf_size]; omega
  · show (strOf (preB x.kind x.n x.ps)).size ≤ 100000
    rw [strOf_size, preB, List.length_append]
    have := blobs_le x.ps x.n
    simp; omega
theorem notesTo_size (acts : Nat → AR) : ∀ k, (∀ i, i < k → (stepN (acts i)).2.size ≤ 100000) → ∀ x ∈ notesTo acts k, x.2.size ≤ 100000
  | 0, _ => fun x hx => by simp [notesTo] at hx
  | k + 1, h => fun x hx => by
    rw [notesTo] at hx
    rcases addN_mem hx with hx | rfl
    · exact notesTo_size acts k (fun i hi => h i (by omega)) x hx
    · exact h k (by omega)
theorem zero_rbook : ∀ w : World, (Instr.build 68 #[]).run Tryd.prog w = .ok (.agg #[.slice none 0 0, .int .i64 0]) w := fun w => by kernel_rfl
/-- two new books. -/
theorem pair_new (w : World) : pairAt w ((w.alloc (.cells #[.pointer none] 64)).alloc (.cells #[.slice none 0 0, .int .i64 0] 68)) w.heap.size (w.heap.size + 1) [] 0 := by
  obtain ⟨w1, hw1⟩ : ∃ w1, w1 = w.alloc (.cells #[.pointer none] 64) := ⟨_, rfl⟩
  have s1 : w1.heap.size = w.heap.size + 1 := by rw [hw1]; simp
  have b1 : Below w.heap.size w w1 := by rw [hw1]; exact (Below.refl _ _).alloc (Nat.le_refl _) _
  have k1 : bookAt w1 (fun j => j = w.heap.size) w.heap.size [] 0 := bookAt.new w w1 w.heap.size (by
    rw [hw1]; exact rowIs_new w _ _ 1 _ rfl (fun i hi => by
      obtain rfl : i = 0 := by omega
      rfl))
  rw [← hw1]
  obtain ⟨w2, hw2⟩ : ∃ w2, w2 = w1.alloc (.cells #[.slice none 0 0, .int .i64 0] 68) := ⟨_, rfl⟩
  have b2 : Below w1.heap.size w1 w2 := by rw [hw2]; exact (Below.refl _ _).alloc (Nat.le_refl _) _
  have k2 : rbookAt w2 (fun j => j = w1.heap.size) w1.heap.size [] 0 := rbookAt.new w2 w1.heap.size (by
    rw [hw2]; exact rowIs_new w1 _ _ 2 _ rfl (fun i hi => by
      have : i = 0 ∨ i = 1 := by omega
      rcases this with rfl | rfl <;> rfl))
  rw [← hw2, ← s1]
  exact ⟨_, _, k1.below b2 (Nat.le_refl _), k2, fun j hj => Nat.le_of_eq hj.symm, fun j hj => by omega, fun j hj hg => by omega, b1.trans (b2.mono (by omega))⟩
theorem hi36 : (Tryd.prog.info? 49).map (·.size) = some 36 := by kernel_rfl
set_option maxHeartbeats 4000000 in
set_option maxRecDepth 100000 in
theorem sealNotes_any (n : Nat) (v : Value) (acts : Nat → AR) (q : List Int) (w : World) (ht : tabIs w) (h : isActs w v n acts) (hq : isSum q) :
    Calls Tryd.prog 7 #[v, .agg (rowV 32 (arrV q))] w fun e w' => e = .returned (.bool true) ∧ Below w.heap.size w w' := by
  have ht0 := ht.1
  obtain ⟨w1, hw1⟩ : ∃ w1, w1 = w.alloc (.cells (rowV 32 (arrV q)) 30) := ⟨_, rfl⟩
  have b1 : Below w.heap.size w w1 := by rw [hw1]; exact (Below.refl _ _).alloc (Nat.le_refl _) _
  have rq : w1.rowIs w.heap.size 30 32 (arrV q) := by rw [hw1]; exact rowIs_box w _ _ _
  have s1 : w.heap.size < w1.heap.size := by rw [hw1]; simp
  have h1 := h.below b1 (Nat.le_refl _)
  have HV := heavy_any n v acts w1 h1
  have T1 : tabIs w1 := ht.below b1 ht0
  have AW : Hid (∀ wz, Below w1.heap.size w1 wz → Calls Tryd.prog 22 #[] wz fun e w' => e = .returned (.bool true) ∧ Below wz.heap.size wz w') := (show ∀ wz, Below w1.heap.size w1 wz → Calls Tryd.prog 22 #[] wz fun e w' => e = .returned (.bool true) ∧ Below wz.heap.size wz w' from fun wz hz => awake_any wz (T1.below hz T1.1))
  have HA : Hid (isActs w1 v n acts) := (show isActs w1 v n acts from h1)
  have B1 : Hid (Below w.heap.size w w1 ∧ w.heap.size < w1.heap.size) := (show Below w.heap.size w w1 ∧ w.heap.size < w1.heap.size from ⟨b1, s1⟩)
  have HT : Hid (tabIs w1) := (show tabIs w1 from T1)
  have KQ : Hid (∀ wz, Below w1.heap.size w1 wz → ∀ i, i < 32 → wz.cell? ⟨w.heap.size, 0 + i, none⟩ = some (arrV q i)) := (show ∀ wz, Below w1.heap.size w1 wz → ∀ i, i < 32 → wz.cell? ⟨w.heap.size, 0 + i, none⟩ = some (arrV q i) from fun wz hz i hi => by rw [Nat.zero_add]; exact (hz.cell (p := ⟨w.heap.size, i, none⟩) s1).trans (rq.cell hi))
  obtain ⟨a, cap, rfl, hc, hm, _⟩ := h.open
  unfold maxLen at hm
  have q0 : (n : Int) ≤ 9223372036854775807 := by omega
  clear h h1 hc hm T1 b1 s1 rq
  go_enter Tryd.func7, Tryd.ntmps7
  go_upto_region 1 with fail
  rw [← hw1]
  clear hw1
  go_wp2_with fail
  refine HV.mono ?_
  rintro e w' ⟨r, rfl, hw, hl⟩
  obtain rfl := hw.symm
  clear hw HV
  cases r with
  | true =>
    clear hl
    go_wp2_with fail
    refine (AW.out w1 (Below.refl _ _)).mono ?_
    rintro e w9 ⟨rfl, b9⟩
    go_wp2
    go_ret
    exact ⟨rfl, B1.out.1.trans (b9.mono (Nat.le_of_lt B1.out.2))⟩
  | false =>
    obtain ⟨h200, h500, hwt⟩ := hl rfl
    clear hl
    have hact : ∀ i, i < n → (acts i).n ≤ 500 ∧ (acts i).bytes.length + (flatTo (acts i).ps (acts i).n).length ≤ 60000 := fun i hi => ⟨h500 i hi, by have := wtA_one acts n i hi; omega⟩
    have hts : ∀ k, k ≤ n → ∀ x ∈ notesTo acts k, x.2.size ≤ 100000 := fun k hk => notesTo_size acts k (fun i hi => stepN_size _ (hact i (by omega)).1 (hact i (by omega)).2)
    have q1 : (n : Int) ≤ 200 := by omega
    have HACT : Hid _ := hact
    have HTS : Hid _ := hts
    have P0 : Hid _ := pair_new w1
    have zb := zero_rbook
    clear h500 hwt hact hts
    go_wp2
    go_loopw [7] (fun i wr => ∃ k : Nat, k ≤ n ∧ i = .int .i64 k ∧ pairAt w1 wr w1.heap.size (w1.heap.size + 1) (notesTo acts k) (callsTo acts k)) (fun i _ => n - (intOf i).toNat)
    case atStart => exact ⟨0, by omega, rfl, P0.out⟩
    case round =>
      obtain ⟨k, hk, rfl, hpr⟩ := hrel
      clear P0
      have p0 : (0 : Int) ≤ (k : Int) := by omega
      have nl := notesTo_length acts k
      have cl := callsTo_le acts k
      by_cases hlt : k < n
      · have p1 : (k : Int) < (n : Int) := by omega
        obtain ⟨a', cap', ha, _, _, hopen⟩ := isActs.open HA.out
        obtain ⟨qb, qo, ha2, hqb, pv, bv, hcell, hpv, hbv, hsum⟩ := hopen k hlt
        have ha3 : a = some ⟨qb, qo, none⟩ := by
          have : a = a' ∧ cap = cap' := by simpa using ha
          rw [this.1]; exact ha2
        subst ha3
        clear ha ha2 hopen
        have hbw : Below w1.heap.size w1 wr := by obtain ⟨_, _, _, _, _, _, _, hb⟩ := hpr; exact hb
        have ld : ∀ i, i < 36 → wr.cell? ⟨qb, qo + k * 36 + i, none⟩ = some (actV (acts k).what (acts k).kind pv bv (acts k).sum i) := fun i hi => (hbw.cell (p := ⟨qb, qo + k * 36 + i, none⟩) hqb).trans (hcell i hi)
        have X := done_any w1 wr w1.heap.size (w1.heap.size + 1) (notesTo acts k) (callsTo acts k) (acts k) pv bv hpr hpv hbv hsum HT.out (HACT.out k hlt).1 (HACT.out k hlt).2 (by omega) ⟨cl.1, by omega⟩
        have LD : Hid _ := ld
        clear ld hcell hpv hbv hsum hpr hbw
        go_wp2_with (first | (refine wpList_load_seg rfl 49 _ rfl qb (qo + k * 36) 36 (actV (acts k).what (acts k).kind pv bv (acts k).sum) rfl _ Tryd.underlying49 rfl hi36 LD.out ?_))
        refine X.mono ?_
        rintro e w3 ⟨rfl, p3⟩
        have P3 : Hid _ := p3
        clear X LD p3
        go_wp2
        go_light
        exact ⟨⟨k + 1, by omega, by go_num, P3.out⟩, by simp [intOf]; omega⟩
      · obtain rfl : k = n := by omega
        have hts' := HTS.out k (Nat.le_refl _)
        obtain ⟨N, hN⟩ : ∃ N, N = notesTo acts k := ⟨_, rfl⟩
        obtain ⟨c, hc⟩ : ∃ c, c = callsTo acts k := ⟨_, rfl⟩
        rw [← hN, ← hc] at hpr
        rw [← hN] at hts' nl
        clear hN hc cl HTS HACT
        have HNL : Hid (N.length < 1000000 ∧ ∀ x ∈ N, x.2.size ≤ 1000000000) := (show N.length < 1000000 ∧ ∀ x ∈ N, x.2.size ≤ 1000000000 from ⟨by omega, fun x hx => by have := hts' x hx; omega⟩)
        have hpr' := hpr
        obtain ⟨F, G, hF, hG, hFB, hGB, hFG, hbw⟩ := hpr'
        have kq := KQ.out wr hbw
        have X := findB_any F w1.heap.size N c q wr hF hq HNL.out.2
        unfold sumV at X
        have PR : Hid _ := hpr
        have KQr : Hid _ := kq
        have BG : Hid (∀ wz, Below wr.heap.size wr wz → rbookAt wz G (w1.heap.size + 1) N c) := (show ∀ wz, Below wr.heap.size wr wz → rbookAt wz G (w1.heap.size + 1) N c from fun wz hz => hG.below hz (Nat.le_refl _))
        have BP : Hid (∀ wz, Below wr.heap.size wr wz → pairAt w1 wz w1.heap.size (w1.heap.size + 1) N c) := (show ∀ wz, Below wr.heap.size wr wz → pairAt w1 wz w1.heap.size (w1.heap.size + 1) N c from fun wz hz => ⟨F, G, hF.below hz (Nat.le_refl _), hG.below hz (Nat.le_refl _), hFB, hGB, hFG, hbw.trans (hz.mono hbw.size)⟩)
        have BW : Hid (∀ wz, Below wr.heap.size wr wz → Below w1.heap.size w1 wz) := (show ∀ wz, Below wr.heap.size wr wz → Below w1.heap.size w1 wz from fun wz hz => hbw.trans (hz.mono hbw.size))
        clear hF hG hFB hGB hFG hbw hpr kq hts' nl
        go_wp2_with (first | (refine wpList_load_seg rfl 30 _ rfl w.heap.size 0 32 (arrV q) rfl _ Tryd.underlying30 rfl hi32' KQr.out ?_))
        refine X.mono ?_
        rintro e w3 ⟨v3, rfl, i3, _, b3⟩
        clear X KQr
        have kq3 := KQ.out w3 (BW.out w3 b3)
        have Z := rfind_any G (w1.heap.size + 1) N c q w3 (BG.out w3 b3) hq HNL.out.1
        unfold sumV at Z
        have KQ3 : Hid _ := kq3
        obtain ⟨va, vc, rfl, _⟩ := i3.slice
        have I3 : Hid _ := i3
        have B3 : Hid _ := b3
        clear kq3 i3 b3
        go_wp2_with (first | (refine wpList_load_seg rfl 30 _ rfl w.heap.size 0 32 (arrV q) rfl _ Tryd.underlying30 rfl hi32' KQ3.out ?_))
        refine Z.mono ?_
        rintro e w4 ⟨rfl, b4⟩
        clear Z KQ3
        have cv : (convert 34 9 (.slice va (foundB N q).length vc)).run Tryd.prog w4 = .ok (.string (foundT N q)) w4 := by
          have := conv8 w4 _ _ (isBytes.below I3.out b4 (Nat.le_refl _))
          rw [foundT_B] at this; exact this
        have b4' : Below wr.heap.size wr w4 := B3.out.trans (b4.mono B3.out.size)
        have X4 := stands_any w1 w4 w1.heap.size (w1.heap.size + 1) N c (BP.out w4 b4') HNL.out.1 HNL.out.2
        obtain ⟨T, hT⟩ : ∃ T, T = foundT N q := ⟨_, rfl⟩
        obtain ⟨bf, hbf⟩ : ∃ bf, bf = (firstAt N q).isSome := ⟨_, rfl⟩
        rw [← hT] at cv ⊢
        rw [← hbf]
        clear hT hbf b4 b4' I3 B3 BP BG
        go_wp2_with fail
        refine X4.mono ?_
        rintro e w5 ⟨rfl, p5⟩
        clear X4 cv
        have X5 := stands_any w1 w5 w1.heap.size (w1.heap.size + 1) N c p5 HNL.out.1 HNL.out.2
        clear p5
        go_wp2_with fail
        refine X5.mono ?_
        rintro e w6 ⟨rfl, p6⟩
        clear X5
        have b6 : Below w1.heap.size w1 w6 := by obtain ⟨_, _, _, _, _, _, _, hb⟩ := p6; exact hb
        have X6 := AW.out w6 b6
        have B6 : Hid _ := b6
        clear p6 b6
        go_wp2_with fail
        refine X6.mono ?_
        rintro e w7 ⟨rfl, b7⟩
        have RES : Hid (Below w.heap.size w w7) := (show Below w.heap.size w w7 from B1.out.1.trans ((B6.out.trans (b7.mono B6.out.size)).mono (Nat.le_of_lt B1.out.2)))
        clear X6 b7
        go_wp2
        go_ret
        exact ⟨rfl, RES.out⟩
theorem sealNotes_f (n : Nat) (v : Value) (acts : Nat → AR) (f : Nat → Int) (hf : ∀ i, 0 ≤ f i ∧ f i ≤ 255) (w : World) (ht : tabIs w) (h : isActs w v n acts) :
    Calls Tryd.prog 7 #[v, .agg (rowV 32 fun i => .int .u8 (f i))] w fun e w' => e = .returned (.bool true) ∧ Below w.heap.size w w' := by
  rw [listF_row]
  exact sealNotes_any n v acts (listF f) w ht h (listF_sum hf)
end Go.Proofs.YtmfgfcknhjblgaaDoor

/- The document's Clash. -/
namespace Go.Proofs.YtmfgfcknhjblgaaDoor
set_option linter.unusedSimpArgs false
set_option linter.unusedVariables false
open Go.RowKit Go.Deep

/-- the first note of a sum. -/
def firstN (T : List Nt) (q : List Int) : Option Nt := T.find? fun x => decide (x.1 = q)
theorem firstN_append (T : List Nt) (x : Nt) (q : List Int) : firstN (T ++ [x]) q = (firstN T q).or (if x.1 = q then some x else none) := by
  unfold firstN
  rw [List.find?_append]
  by_cases h : x.1 = q <;> simp [h]
theorem firstN_mem {T : List Nt} {x : Nt} (h : x ∈ T) : ∃ y, firstN T x.1 = some y := by
  cases hf : firstN T x.1 with
  | some y => exact ⟨y, rfl⟩
  | none =>
    unfold firstN at hf
    have := List.find?_eq_none.1 hf x h
    simp at this
theorem firstN_add (A : List Nt) (x : Nt) (q : List Int) : firstN (addN A x) q = (firstN A q).or (if x.1 = q then some x else none) := by
  by_cases h : x ∈ A
  · rw [addN_in h]
    by_cases hq : x.1 = q
    · obtain ⟨y, hy⟩ := firstN_mem h
      rw [hq] at hy; rw [hy]; rfl
    · rw [if_neg hq]; simp
  · rw [addN_out h, firstN_append]
/-- the notes ahead, each once. -/
def foldA (L : List Nt) : Nat → List Nt
  | 0 => []
  | i + 1 => match L[i]? with
    | some x => addN (foldA L i) x
    | none => foldA L i
theorem foldA_first (L : List Nt) (q : List Int) : ∀ i, i ≤ L.length → firstN (foldA L i) q = firstN (L.take i) q
  | 0, _ => by simp [foldA]
  | i + 1, h => by
    have hi : i < L.length := h
    rw [foldA, List.getElem?_eq_getElem hi]
    show firstN (addN (foldA L i) L[i]) q = _
    rw [firstN_add, foldA_first L q i (by omega), List.take_succ_eq_append_getElem hi, firstN_append]
theorem firstAt_N (T : List Nt) (q : List Int) : (firstAt T q).isSome = (firstN T q).isSome ∧ ((firstN T q).isSome = true → firstN T q = some (foundN T q)) := by
  cases hf : firstAt T q with
  | none =>
    have hn : firstN T q = none := by
      unfold firstAt at hf; unfold firstN
      rw [List.findIdx?_eq_none_iff] at hf
      exact List.find?_eq_none.2 fun x hx => by simpa using hf x hx
    rw [hn]; simp
  | some i =>
    have hi := firstAt_lt hf
    have hf' := hf
    unfold firstAt at hf'
    obtain ⟨_, h1, h2⟩ := List.findIdx?_eq_some_iff_getElem.1 hf'
    have hs : firstN T q = some T[i] := by
      unfold firstN
      rw [List.find?_eq_some_iff_getElem]
      exact ⟨h1, i, hi, rfl, fun j hj => by simpa using h2 j hj⟩
    have he : foundN T q = T[i] := by
      unfold foundN; rw [hf]; simp only
      rw [List.getD_eq_getElem?_getD, List.getElem?_eq_getElem hi]; rfl
    rw [hs, he]; simp
/-- no note of that sum stands ahead, or the first one is the same: on. -/
theorem clash_on (L : List Nt) (i : Nat) (hi : i < L.length) (h : ∀ y, firstN (L.take i) L[i].1 = some y → y = L[i]) : clashGo (foldA L i) (L.drop i) = clashGo (foldA L (i + 1)) (L.drop (i + 1)) := by
  rw [List.drop_eq_getElem_cons hi, clashGo, if_neg, foldA, List.getElem?_eq_getElem hi]
  rintro ⟨h1, h2⟩
  obtain ⟨e1, e2⟩ := firstAt_N (foldA L i) L[i].1
  rw [e1] at h1
  have h3 := e2 h1
  rw [foldA_first L _ i (by omega)] at h3
  exact h2 (h _ h3)
theorem clash_here (L : List Nt) (i : Nat) (hi : i < L.length) (y : Nt) (h : firstN (L.take i) L[i].1 = some y) (hne : y ≠ L[i]) : clashGo (foldA L i) (L.drop i) = some (y.2, L[i].2) := by
  obtain ⟨e1, e2⟩ := firstAt_N (foldA L i) L[i].1
  rw [foldA_first L _ i (by omega), h] at e1 e2
  have h3 : y = foundN (foldA L i) L[i].1 := Option.some.inj (e2 rfl)
  rw [List.drop_eq_getElem_cons hi, clashGo, if_pos ⟨by rw [e1]; rfl, by rw [← h3]; exact hne⟩, ← h3]
theorem firstN_here {L : List Nt} {i k : Nat} (hi : i < L.length) (hk : k < i) (h : L[k].1 = L[i].1) (hno : ∀ j (hj : j < L.length), j < k → L[j].1 ≠ L[i].1) : firstN (L.take i) L[i].1 = some L[k] := by
  unfold firstN
  rw [List.find?_eq_some_iff_getElem]
  refine ⟨by simp [h], k, by simp; omega, by simp, fun j hj => ?_⟩
  have := hno j (by omega) hj
  simpa using this
theorem firstN_none {L : List Nt} {i : Nat} (hi : i < L.length) (hno : ∀ j (hj : j < L.length), j < i → L[j].1 ≠ L[i].1) : firstN (L.take i) L[i].1 = none := by
  unfold firstN
  rw [List.find?_eq_none]
  intro x hx
  obtain ⟨j, hj, rfl⟩ := List.mem_iff_getElem.1 hx
  have hj' : j < i ∧ j < L.length := by simp at hj; omega
  have := hno j hj'.2 hj'.1
  simpa using this
def clS1 (r : Option (ByteArray × ByteArray)) : ByteArray := match r with
  | none => ⟨#[]⟩
  | some p => p.1
def clS2 (r : Option (ByteArray × ByteArray)) : ByteArray := match r with
  | none => ⟨#[]⟩
  | some p => p.2
/-- a row of the document's notes, wherever it lies. -/
def rnotes (w : World) (v : Value) (L : List Nt) : Prop := ∃ a cap, v = .slice a L.length cap ∧ ∀ (i : Nat) (x : Nt), L[i]? = some x → ∃ g, a = some ⟨g, 0, none⟩ ∧ g < w.heap.size ∧ ∀ j, j < 33 → w.cell? ⟨g, i * 33 + j, none⟩ = some (noteV x j)
theorem rnotes_of {w : World} {B : Nat} {v : Value} {L : List Nt} (h : w.ownsRow B 97 33 v L.length (L.flatMap noteL)) : rnotes w v L := by
  obtain ⟨a, c, rfl, h1, h2, h3⟩ := ownsRow_slice h
  refine ⟨a, c, rfl, fun i x hx => ?_⟩
  have hi := (List.getElem?_eq_some_iff.1 hx).1
  obtain ⟨g, rfl, hg, _, hc⟩ := h3 (by omega)
  exact ⟨g, rfl, hg, fun j hj => hc _ _ (notes_get L i j x hx hj)⟩
set_option maxHeartbeats 2000000 in
set_option maxRecDepth 100000 in
theorem rclash_any (L : List Nt) (v : Value) (w : World) (h : rnotes w v L) (hs : ∀ x ∈ L, isSum x.1) (hL : L.length < 1000000) :
    Calls Tryd.prog 33 #[v] w fun e w' => e = .returned (.tuple #[.string (clS1 (clashGo [] L)), .string (clS2 (clashGo [] L)), .bool (clashGo [] L).isSome]) ∧ Below w.heap.size w w' := by
  obtain ⟨a, cap, rfl, hcell⟩ := h
  have q0 : (L.length : Int) ≤ 1000000 := by omega
  have KN : Hid (∀ (i : Nat) (hi : i < L.length), ∃ g, a = some ⟨g, 0, none⟩ ∧ ∀ wz, Below w.heap.size w wz → (∀ j, j < 32 → wz.cell? ⟨g, i * 33 + j, none⟩ = some (arrV L[i].1 j)) ∧ wz.cell? ⟨g, i * 33 + 32, none⟩ = some (.string L[i].2)) := (show ∀ (i : Nat) (hi : i < L.length), ∃ g, a = some ⟨g, 0, none⟩ ∧ ∀ wz, Below w.heap.size w wz → (∀ j, j < 32 → wz.cell? ⟨g, i * 33 + j, none⟩ = some (arrV L[i].1 j)) ∧ wz.cell? ⟨g, i * 33 + 32, none⟩ = some (.string L[i].2) from fun i hi => by
      obtain ⟨g, h1, h2, h3⟩ := hcell i _ (List.getElem?_eq_getElem hi)
      refine ⟨g, h1, fun wz hz => ⟨fun j hj => ?_, ?_⟩⟩
      · have := (hz.cell (p := ⟨g, i * 33 + j, none⟩) h2).trans (h3 j (by omega))
        rw [noteV, if_pos hj] at this; exact this
      · have := (hz.cell (p := ⟨g, i * 33 + 32, none⟩) h2).trans (h3 32 (by omega))
        rw [noteV, if_neg (by omega)] at this; exact this)
  have HS : Hid (∀ x ∈ L, isSum x.1) := (show ∀ x ∈ L, isSum x.1 from hs)
  obtain ⟨R, hR⟩ : ∃ R, R = clashGo [] L := ⟨_, rfl⟩
  rw [← hR]
  have HR0 : Hid (R = clashGo (foldA L 0) (L.drop 0)) := (show R = clashGo (foldA L 0) (L.drop 0) from by rw [hR]; rfl)
  clear hcell hs hR
  go_enter Tryd.func33, Tryd.ntmps33
  go_wp2
  go_loopw [5] (fun i wr => ∃ k : Nat, k ≤ L.length ∧ i = .int .i64 k ∧ R = clashGo (foldA L k) (L.drop k) ∧ Below w.heap.size w wr) (fun i _ => L.length - (intOf i).toNat)
  case atStart => exact ⟨0, by omega, rfl, HR0.out, Below.refl _ _⟩
  case round =>
    obtain ⟨k, hk, rfl, hr, hb⟩ := hrel
    have p0 : (0 : Int) ≤ (k : Int) := by omega
    have HR : Hid _ := hr
    have HB : Hid _ := hb
    clear HR0 hr hb
    by_cases hlt : k < L.length
    · have p1 : (k : Int) < (L.length : Int) := by omega
      obtain ⟨g, rfl, hgk⟩ := KN.out k hlt
      have HGK : Hid _ := hgk
      clear hgk
      obtain ⟨y, hy⟩ : ∃ y, y = L[k] := ⟨_, rfl⟩
      have hys : isSum y.1 := by rw [hy]; exact HS.out _ (List.getElem_mem _)
      rw [← hy] at HGK
      have HY : Hid _ := hy
      clear hy
      go_wp2
      go_loopw [6] (fun i wx => ∃ m : Nat, m ≤ k ∧ i = .int .i64 m ∧ (∀ j (hj : j < L.length), j < m → L[j].1 ≠ y.1) ∧ Below w.heap.size w wx) (fun i _ => k - (intOf i).toNat)
      case atStart => exact ⟨0, by omega, rfl, fun j hj h => by omega, HB.out⟩
      case round =>
        obtain ⟨m, hm, rfl, hno, hb⟩ := hrel
        have p2 : (0 : Int) ≤ (m : Int) := by omega
        have HNO : Hid _ := hno
        have HW : Hid _ := hb
        clear hno hb HB
        by_cases hmk : m < k
        · have p3 : (m : Int) < (k : Int) := by omega
          have p4 : (m : Int) < (L.length : Int) := by omega
          have hmL : m < L.length := by omega
          obtain ⟨g', hg', hgm⟩ := KN.out m hmL
          have hgg : g' = g := by simpa using hg'.symm
          subst hgg
          obtain ⟨z, hz0⟩ : ∃ z, z = L[m] := ⟨_, rfl⟩
          have hzs : isSum z.1 := by rw [hz0]; exact HS.out _ (List.getElem_mem _)
          rw [← hz0] at hgm
          have HZ : Hid _ := hz0
          have HGM : Hid _ := hgm
          clear hgm hz0 hg'
          obtain ⟨bq, hbq⟩ : ∃ bq, bq = decide (z.1 = y.1) := ⟨_, rfl⟩
          have E : ∀ wx, (binOp .eql 30 (.agg (rowV 32 (arrV z.1))) (.agg (rowV 32 (arrV y.1)))).run Tryd.prog wx = .ok (.bool bq) wx := fun wx => by rw [eql_sums hzs hys, hbq]
          have HBQ : Hid _ := hbq
          clear hbq
          go_upto_region 7 with fail
          go_cut [6, 28] from 13 to 49 (fun i c wx => i = .int .i64 (m : Int) ∧ c = .bool bq ∧ Below w.heap.size w wx)
          case first =>
            refine wp_region_noPanic ?_
            refine wp_region_held_drew (S := fun w' => Below w.heap.size w w') (by kernel_rfl) (HW.out.drew) (fun hHeld => ?_)
            refine take_op (i := 0) (v := ?va0) rfl (by kernel_rfl) (by kernel_rfl) (by kernel_rfl) (fun _ _ _ h => h) rfl hHeld ?ya0 ?ra0
            case ya0 => (intro wz hz; go_simp; first | done | with_reducible rfl)
            try simp only [Act.put, List.setIfInBounds_toArray, List.set_cons_zero, List.set_cons_succ]
            refine take_op (i := 1) (v := ?va1) rfl (by kernel_rfl) (by kernel_rfl) (by kernel_rfl) (fun _ _ _ h => h) rfl hHeld ?ya1 ?ra1
            case ya1 => (intro wz hz; go_simp; first | done | with_reducible rfl)
            try simp only [Act.put, List.setIfInBounds_toArray, List.set_cons_zero, List.set_cons_succ]
            refine take_op (i := 2) (v := ?va2) rfl (by kernel_rfl) (by kernel_rfl) (by kernel_rfl) (fun _ _ _ h => h) rfl hHeld ?ya2 ?ra2
            case ya2 => (intro wz hz; go_simp; first | done | with_reducible rfl)
            try simp only [Act.put, List.setIfInBounds_toArray, List.set_cons_zero, List.set_cons_succ]
            refine take_op (i := 3) (v := ?va3) rfl (by kernel_rfl) (by kernel_rfl) (by kernel_rfl) (fun _ _ _ h => h) rfl hHeld ?ya3 ?ra3
            case ya3 => (intro wz hz; go_simp; first | done | with_reducible rfl)
            try simp only [Act.put, List.setIfInBounds_toArray, List.set_cons_zero, List.set_cons_succ]
            refine take_load (i := 4) rfl (by kernel_rfl) (by kernel_rfl) (by kernel_rfl) 30 _ rfl g' (m * 33) 32 (arrV z.1) rfl _ Tryd.underlying30 rfl (by kernel_rfl) (fun _ _ _ h => h) rfl hHeld (fun wz hz => (HGM.out wz hz).1) ?_
            try simp only [Act.put, List.setIfInBounds_toArray, List.set_cons_zero, List.set_cons_succ]
            refine take_op (i := 5) (v := ?va5) rfl (by kernel_rfl) (by kernel_rfl) (by kernel_rfl) (fun _ _ _ h => h) rfl hHeld ?ya5 ?ra5
            case ya5 => (intro wz hz; go_simp; first | done | with_reducible rfl)
            try simp only [Act.put, List.setIfInBounds_toArray, List.set_cons_zero, List.set_cons_succ]
            refine take_op (i := 6) (v := ?va6) rfl (by kernel_rfl) (by kernel_rfl) (by kernel_rfl) (fun _ _ _ h => h) rfl hHeld ?ya6 ?ra6
            case ya6 => (intro wz hz; go_simp; first | done | with_reducible rfl)
            try simp only [Act.put, List.setIfInBounds_toArray, List.set_cons_zero, List.set_cons_succ]
            refine take_op (i := 7) (v := ?va7) rfl (by kernel_rfl) (by kernel_rfl) (by kernel_rfl) (fun _ _ _ h => h) rfl hHeld ?ya7 ?ra7
            case ya7 => (intro wz hz; go_simp; first | done | with_reducible rfl)
            try simp only [Act.put, List.setIfInBounds_toArray, List.set_cons_zero, List.set_cons_succ]
            refine take_op (i := 8) (v := ?va8) rfl (by kernel_rfl) (by kernel_rfl) (by kernel_rfl) (fun _ _ _ h => h) rfl hHeld ?ya8 ?ra8
            case ya8 => (intro wz hz; go_simp; first | done | with_reducible rfl)
            try simp only [Act.put, List.setIfInBounds_toArray, List.set_cons_zero, List.set_cons_succ]
            refine take_load (i := 9) rfl (by kernel_rfl) (by kernel_rfl) (by kernel_rfl) 30 _ rfl g' (k * 33) 32 (arrV y.1) rfl _ Tryd.underlying30 rfl (by kernel_rfl) (fun _ _ _ h => h) rfl hHeld (fun wz hz => (HGK.out wz hz).1) ?_
            try simp only [Act.put, List.setIfInBounds_toArray, List.set_cons_zero, List.set_cons_succ]
            refine take_op (i := 10) (v := ?va10) rfl (by kernel_rfl) (by kernel_rfl) (by kernel_rfl) (fun _ _ _ h => h) rfl hHeld ?ya10 ?ra10
            case ya10 => (intro wz hz; go_simp; first | done | with_reducible rfl)
            try simp only [Act.put, List.setIfInBounds_toArray, List.set_cons_zero, List.set_cons_succ]
            refine wpAnyH_done (by kernel_rfl) ?_ _
            refine NoPanic.normal ?_
            have HBX : Hid _ := hHeld
            clear hHeld
            go_wp2_with fail
            go_meet
            case rel => exact ⟨rfl, rfl, HBX.out⟩
          case rest =>
            obtain ⟨rfl, rfl, hb2⟩ := hcut
            have HB2 : Hid _ := hb2
            clear hb2 E HW
            cases bq with
            | false =>
              have hyq : z.1 ≠ y.1 := of_decide_eq_false HBQ.out.symm
              have HX : Hid _ := hyq
              clear hyq
              go_wp2
              go_light
              refine ⟨⟨m + 1, by omega, by go_num, fun i hi hij => ?_, HB2.out⟩, by simp [intOf]; omega⟩
              by_cases e : i < m
              · exact HNO.out i hi e
              · obtain rfl : i = m := by omega
                rw [← HZ.out]; exact HX.out
            | true =>
              have hyq : z.1 = y.1 := of_decide_eq_true HBQ.out.symm
              have hf : firstN (L.take k) L[k].1 = some z := by
                have := firstN_here hlt hmk (by rw [← HZ.out, ← HY.out]; exact hyq) (fun j hj h => by rw [← HY.out]; exact HNO.out j hj h)
                rw [this, HZ.out]
              have HF : Hid _ := hf
              have HYQ : Hid _ := hyq
              clear hf hyq
              go_upto_region 8 with fail
              go_cut [6, 39] from 13 to 49 (fun i c wx => i = .int .i64 (m : Int) ∧ c = .bool (!((z.2).toList == (y.2).toList)) ∧ Below w.heap.size w wx)
              case first =>
                refine wp_region_noPanic ?_
                refine wp_region_held_drew (S := fun w' => Below w.heap.size w w') (by kernel_rfl) (HB2.out.drew) (fun hHeld => ?_)
                refine take_op (i := 0) (v := ?vb0) rfl (by kernel_rfl) (by kernel_rfl) (by kernel_rfl) (fun _ _ _ h => h) rfl hHeld ?yb0 ?rb0
                case yb0 => (intro wz hz; go_simp; first | done | with_reducible rfl)
                try simp only [Act.put, List.setIfInBounds_toArray, List.set_cons_zero, List.set_cons_succ]
                refine take_op (i := 1) (v := ?vb1) rfl (by kernel_rfl) (by kernel_rfl) (by kernel_rfl) (fun _ _ _ h => h) rfl hHeld ?yb1 ?rb1
                case yb1 => (intro wz hz; go_simp; first | done | with_reducible rfl)
                try simp only [Act.put, List.setIfInBounds_toArray, List.set_cons_zero, List.set_cons_succ]
                refine take_op (i := 2) (v := ?vb2) rfl (by kernel_rfl) (by kernel_rfl) (by kernel_rfl) (fun _ _ _ h => h) rfl hHeld ?yb2 ?rb2
                case yb2 => (intro wz hz; go_simp; first | done | with_reducible rfl)
                try simp only [Act.put, List.setIfInBounds_toArray, List.set_cons_zero, List.set_cons_succ]
                refine take_op (i := 3) (v := ?vb3) rfl (by kernel_rfl) (by kernel_rfl) (by kernel_rfl) (fun _ _ _ h => h) rfl hHeld ?yb3 ?rb3
                case yb3 => (intro wz hz; go_simp; first | done | with_reducible rfl)
                try simp only [Act.put, List.setIfInBounds_toArray, List.set_cons_zero, List.set_cons_succ]
                refine take_op (i := 4) (v := ?vb4) rfl (by kernel_rfl) (by kernel_rfl) (by kernel_rfl) (fun _ _ _ h => h) rfl hHeld ?yb4 ?rb4
                case yb4 => (intro wz hz; have hcz := (HGM.out wz hz).2; go_simp; first | done | with_reducible rfl)
                try simp only [Act.put, List.setIfInBounds_toArray, List.set_cons_zero, List.set_cons_succ]
                refine take_op (i := 5) (v := ?vb5) rfl (by kernel_rfl) (by kernel_rfl) (by kernel_rfl) (fun _ _ _ h => h) rfl hHeld ?yb5 ?rb5
                case yb5 => (intro wz hz; go_simp; first | done | with_reducible rfl)
                try simp only [Act.put, List.setIfInBounds_toArray, List.set_cons_zero, List.set_cons_succ]
                refine take_op (i := 6) (v := ?vb6) rfl (by kernel_rfl) (by kernel_rfl) (by kernel_rfl) (fun _ _ _ h => h) rfl hHeld ?yb6 ?rb6
                case yb6 => (intro wz hz; go_simp; first | done | with_reducible rfl)
                try simp only [Act.put, List.setIfInBounds_toArray, List.set_cons_zero, List.set_cons_succ]
                refine take_op (i := 7) (v := ?vb7) rfl (by kernel_rfl) (by kernel_rfl) (by kernel_rfl) (fun _ _ _ h => h) rfl hHeld ?yb7 ?rb7
                case yb7 => (intro wz hz; go_simp; first | done | with_reducible rfl)
                try simp only [Act.put, List.setIfInBounds_toArray, List.set_cons_zero, List.set_cons_succ]
                refine take_op (i := 8) (v := ?vb8) rfl (by kernel_rfl) (by kernel_rfl) (by kernel_rfl) (fun _ _ _ h => h) rfl hHeld ?yb8 ?rb8
                case yb8 => (intro wz hz; go_simp; first | done | with_reducible rfl)
                try simp only [Act.put, List.setIfInBounds_toArray, List.set_cons_zero, List.set_cons_succ]
                refine take_op (i := 9) (v := ?vb9) rfl (by kernel_rfl) (by kernel_rfl) (by kernel_rfl) (fun _ _ _ h => h) rfl hHeld ?yb9 ?rb9
                case yb9 => (intro wz hz; have hcz := (HGK.out wz hz).2; go_simp; first | done | with_reducible rfl)
                try simp only [Act.put, List.setIfInBounds_toArray, List.set_cons_zero, List.set_cons_succ]
                refine take_op (i := 10) (v := ?vb10) rfl (by kernel_rfl) (by kernel_rfl) (by kernel_rfl) (fun _ _ _ h => h) rfl hHeld ?yb10 ?rb10
                case yb10 => (intro wz hz; go_simp; first | done | with_reducible rfl)
                try simp only [Act.put, List.setIfInBounds_toArray, List.set_cons_zero, List.set_cons_succ]
                refine wpAnyH_done (by kernel_rfl) ?_ _
                refine NoPanic.normal ?_
                have HBX : Hid _ := hHeld
                clear hHeld
                go_wp2_with fail
                go_meet
                case rel => exact ⟨rfl, rfl, HBX.out⟩
              case rest =>
                obtain ⟨rfl, rfl, hb3⟩ := hcut
                have HB3 : Hid _ := hb3
                clear hb3 HB2
                by_cases hxe : z.2 = y.2
                · have hd : decide (z.2 = y.2) = true := decide_eq_true hxe
                  have hzy : z = L[k] := by rw [← HY.out]; exact Prod.ext HYQ.out hxe
                  have HN : Hid (R = clashGo (foldA L (k + 1)) (L.drop (k + 1))) := (show R = clashGo (foldA L (k + 1)) (L.drop (k + 1)) from HR.out.trans (clash_on L k hlt (fun y' h => by rw [HF.out] at h; rw [← Option.some.inj h]; exact hzy)))
                  rw [str_beq, hd]
                  clear hd hxe hzy
                  go_wp2
                  go_light
                  exact ⟨⟨k + 1, by omega, by go_num, HN.out, HB3.out⟩, by simp [intOf]; omega⟩
                · have hd : decide (z.2 = y.2) = false := decide_eq_false hxe
                  have hRe : R = some (z.2, y.2) := by
                    have := HR.out.trans (clash_here L k hlt z HF.out (fun h => hxe (by rw [h, HY.out])))
                    rw [this, HY.out]
                  rw [str_beq, hd]
                  have HRE : Hid _ := hRe
                  clear hd hxe hRe
                  go_upto_region 9 with fail
                  refine wp_region_noPanic ?_
                  refine wp_region_held_drew (S := fun w' => Below w.heap.size w w') (by kernel_rfl) (HB3.out.drew) (fun hHeld => ?_)
                  refine take_op (i := 0) (v := ?vc0) rfl (by kernel_rfl) (by kernel_rfl) (by kernel_rfl) (fun _ _ _ h => h) rfl hHeld ?yc0 ?rc0
                  case yc0 => (intro wz hz; go_simp; first | done | with_reducible rfl)
                  try simp only [Act.put, List.setIfInBounds_toArray, List.set_cons_zero, List.set_cons_succ]
                  refine take_op (i := 1) (v := ?vc1) rfl (by kernel_rfl) (by kernel_rfl) (by kernel_rfl) (fun _ _ _ h => h) rfl hHeld ?yc1 ?rc1
                  case yc1 => (intro wz hz; go_simp; first | done | with_reducible rfl)
                  try simp only [Act.put, List.setIfInBounds_toArray, List.set_cons_zero, List.set_cons_succ]
                  refine take_op (i := 2) (v := ?vc2) rfl (by kernel_rfl) (by kernel_rfl) (by kernel_rfl) (fun _ _ _ h => h) rfl hHeld ?yc2 ?rc2
                  case yc2 => (intro wz hz; go_simp; first | done | with_reducible rfl)
                  try simp only [Act.put, List.setIfInBounds_toArray, List.set_cons_zero, List.set_cons_succ]
                  refine take_op (i := 3) (v := ?vc3) rfl (by kernel_rfl) (by kernel_rfl) (by kernel_rfl) (fun _ _ _ h => h) rfl hHeld ?yc3 ?rc3
                  case yc3 => (intro wz hz; go_simp; first | done | with_reducible rfl)
                  try simp only [Act.put, List.setIfInBounds_toArray, List.set_cons_zero, List.set_cons_succ]
                  refine take_op (i := 4) (v := ?vc4) rfl (by kernel_rfl) (by kernel_rfl) (by kernel_rfl) (fun _ _ _ h => h) rfl hHeld ?yc4 ?rc4
                  case yc4 => (intro wz hz; have hcz := (HGM.out wz hz).2; go_simp; first | done | with_reducible rfl)
                  try simp only [Act.put, List.setIfInBounds_toArray, List.set_cons_zero, List.set_cons_succ]
                  refine take_op (i := 5) (v := ?vc5) rfl (by kernel_rfl) (by kernel_rfl) (by kernel_rfl) (fun _ _ _ h => h) rfl hHeld ?yc5 ?rc5
                  case yc5 => (intro wz hz; go_simp; first | done | with_reducible rfl)
                  try simp only [Act.put, List.setIfInBounds_toArray, List.set_cons_zero, List.set_cons_succ]
                  refine take_op (i := 6) (v := ?vc6) rfl (by kernel_rfl) (by kernel_rfl) (by kernel_rfl) (fun _ _ _ h => h) rfl hHeld ?yc6 ?rc6
                  case yc6 => (intro wz hz; go_simp; first | done | with_reducible rfl)
                  try simp only [Act.put, List.setIfInBounds_toArray, List.set_cons_zero, List.set_cons_succ]
                  refine take_op (i := 7) (v := ?vc7) rfl (by kernel_rfl) (by kernel_rfl) (by kernel_rfl) (fun _ _ _ h => h) rfl hHeld ?yc7 ?rc7
                  case yc7 => (intro wz hz; go_simp; first | done | with_reducible rfl)
                  try simp only [Act.put, List.setIfInBounds_toArray, List.set_cons_zero, List.set_cons_succ]
                  refine take_op (i := 8) (v := ?vc8) rfl (by kernel_rfl) (by kernel_rfl) (by kernel_rfl) (fun _ _ _ h => h) rfl hHeld ?yc8 ?rc8
                  case yc8 => (intro wz hz; go_simp; first | done | with_reducible rfl)
                  try simp only [Act.put, List.setIfInBounds_toArray, List.set_cons_zero, List.set_cons_succ]
                  refine take_op (i := 9) (v := ?vc9) rfl (by kernel_rfl) (by kernel_rfl) (by kernel_rfl) (fun _ _ _ h => h) rfl hHeld ?yc9 ?rc9
                  case yc9 => (intro wz hz; have hcz := (HGK.out wz hz).2; go_simp; first | done | with_reducible rfl)
                  try simp only [Act.put, List.setIfInBounds_toArray, List.set_cons_zero, List.set_cons_succ]
                  refine take_op (i := 10) (v := ?vc10) rfl (by kernel_rfl) (by kernel_rfl) (by kernel_rfl) (fun _ _ _ h => h) rfl hHeld ?yc10 ?rc10
                  case yc10 => (intro wz hz; go_simp; first | done | with_reducible rfl)
                  try simp only [Act.put, List.setIfInBounds_toArray, List.set_cons_zero, List.set_cons_succ]
                  refine take_op (i := 11) (v := ?vc11) rfl (by kernel_rfl) (by kernel_rfl) (by kernel_rfl) (fun _ _ _ h => h) rfl hHeld ?yc11 ?rc11
                  case yc11 => (intro wz hz; go_simp; first | done | with_reducible rfl)
                  try simp only [Act.put, List.setIfInBounds_toArray, List.set_cons_zero, List.set_cons_succ]
                  refine take_op (i := 12) (v := ?vc12) rfl (by kernel_rfl) (by kernel_rfl) (by kernel_rfl) (fun _ _ _ h => h) rfl hHeld ?yc12 ?rc12
                  case yc12 => (intro wz hz; go_simp; first | done | with_reducible rfl)
                  try simp only [Act.put, List.setIfInBounds_toArray, List.set_cons_zero, List.set_cons_succ]
                  refine wpAnyH_done (by kernel_rfl) ?_ _
                  refine NoPanic.normal ?_
                  have HB4 : Hid _ := hHeld
                  clear hHeld
                  go_wp2
                  exact bodyPost_ret (results_tmp3 rfl _ _ _) rfl ⟨by rw [HRE.out]; rfl, HB4.out⟩
        · obtain rfl : m = k := by omega
          have HN : Hid (R = clashGo (foldA L (m + 1)) (L.drop (m + 1))) := (show R = clashGo (foldA L (m + 1)) (L.drop (m + 1)) from HR.out.trans (clash_on L m hlt (fun y' h => by rw [firstN_none hlt (fun j hj h2 => by rw [← HY.out]; exact HNO.out j hj h2)] at h; cases h)))
          clear HNO
          go_wp2
          go_light
          exact ⟨⟨m + 1, by omega, by go_num, HN.out, HW.out⟩, by simp [intOf]; omega⟩
    · obtain rfl : k = L.length := by omega
      have hn : R = none := by rw [HR.out, List.drop_length]; rfl
      subst hn
      go_wp2
      exact bodyPost_ret (results_tmp3 rfl _ _ _) rfl ⟨rfl, HB.out⟩
end Go.Proofs.YtmfgfcknhjblgaaDoor

/- Slices of acts that a law makes: append. -/
namespace Go.Proofs.YtmfgfcknhjblgaaDoor
set_option linter.unusedSimpArgs false
set_option linter.unusedVariables false
set_option maxRecDepth 100000
open Go.RowKit Go.Deep

theorem infoAct : (Tryd.prog.info? 49).map (fun i => (i.zero, i.size, i.bytes)) = some (some (.agg (rowV 36 (actV 0 0 (.slice none 0 0) (.slice none 0 0) zq))), 36, 96) := by kernel_rfl
/-- acts of the call's own, by their cells. -/
def ownActs (w : World) (B : Nat) (v : Value) (n : Nat) (xs : List Value) : Prop := w.ownsRow B 49 36 v n xs
theorem ownActs.none (w : World) (B : Nat) (hB : B ≤ w.heap.size) : ownActs (w.alloc (.cells #[] 49)) B (.slice (some ⟨w.heap.size, 0, none⟩) 0 0) 0 [] :=
  ⟨rfl, Or.inr ⟨w.heap.size, 0, #[], rfl, hB, blk_alloc_new _ _, Nat.le_refl _, by unfold maxLen; omega, rfl, rfl⟩⟩
/-- append(v, l...), l of one act or more. -/
theorem acts_append_run (w : World) (B : Nat) (v : Value) (n : Nat) (xs : List Value) (hv : ownActs w B v n xs) (qb qo m c : Nat) (news : List Value) (hl : news.length = m * 36) (hc : ∀ (j : Nat) (u : Value), news[j]? = some u → w.cell? ⟨qb, qo + j, none⟩ = some u) (h1 : ∀ u ∈ news, u.oneCell' = true)
    (hm : 0 < m) (hs : (n + m) * 96 ≤ 140737488355328) (hB : B ≤ w.heap.size) :
    ∃ v' w', (Builtin.append_ #[51, 51] 51 #[v, .slice (some ⟨qb, qo, none⟩) m c]).run Tryd.prog w = .ok v' w' ∧ ownActs w' B v' (n + m) (xs ++ news) ∧ w.grownBy w' v.ownBlock := by
  cases hq : Tryd.prog.info? 49 with
  | none => have := infoAct; simp [hq] at this
  | some i =>
    have hi := infoAct
    simp only [hq, Option.map_some, Option.some.injEq, Prod.mk.injEq] at hi
    obtain ⟨hz, hsz, hby⟩ := hi
    obtain ⟨g, cap, w', hr, ho, hg, hat, hlt⟩ := run_append_lies (P := Tryd.prog) w 51 51 B 49 i _ 36 96 Tryd.underlying51 hq hz hsz hby (by simp [Value.cells, rowV_size]) (by omega)
      v n xs hv ⟨qb, qo, none⟩ m c news (by omega) (fun j u hu => by rw [Addr.add_mid]; exact hc j u hu) h1 hm (by unfold maxLen; omega) hs hB w.heap.size rfl
    exact ⟨_, w', hr, ho, hg⟩
theorem ownActs.block {w : World} {B : Nat} {v : Value} {n : Nat} {xs : List Value} (h : ownActs w B v n xs) (k : Nat) (hk : v.ownBlock = some k) : B ≤ k ∧ k < w.heap.size := by
  obtain ⟨_, h | ⟨g, cap, cur, rfl, hB, hb, _⟩⟩ := h
  · rw [h.1] at hk; cases hk
  · obtain rfl : g = k := by simpa [Value.ownBlock] using hk
    exact ⟨hB, (Array.getElem?_eq_some_iff.1 hb).1⟩
/-- their acts. -/
theorem ownActs.acts {w : World} {B : Nat} {v : Value} {n : Nat} {xs : List Value} (h : ownActs w B v n xs) (acts : Nat → AR)
    (hx : ∀ i, i < n → ∃ pv bv, (∀ j, j < 36 → xs[i * 36 + j]? = some (actV (acts i).what (acts i).kind pv bv (acts i).sum j)) ∧ anyParts w pv (acts i).n (acts i).ps ∧ anyBytes w bv (acts i).bytes ∧ isSum (acts i).sum) : isActs w v n acts := by
  obtain ⟨hl, h | ⟨g, cap, cur, rfl, hB, hb, hc, hm, hs, ht⟩⟩ := h
  · exact Or.inl h
  · refine Or.inr ⟨g, 0, cap, rfl, (Array.getElem?_eq_some_iff.1 hb).1, hc, hm, fun i hi => ?_⟩
    obtain ⟨pv, bv, h1, h2, h3, h4⟩ := hx i hi
    refine ⟨pv, bv, fun j hj => ?_, h2, h3, h4⟩
    rw [Nat.zero_add, cell_of_row _ _ _ _ _ _ hb, ← h1 j hj]
    have hlt : i * 36 + j < n * 36 := by have := Nat.mul_le_mul_right 36 (show i + 1 ≤ n from hi); omega
    rw [← ht, List.getElem?_take, if_pos hlt, Array.getElem?_toList]
theorem actV_one (d k : Int) (pv bv : Value) (q : List Int) (j : Nat) (hp : pv.oneCell' = true) (hb : bv.oneCell' = true) : (actV d k pv bv q j).oneCell' = true := by
  unfold actV arrV
  repeat' split
  all_goals first | rfl | exact hp | exact hb
theorem anyParts.one {w : World} {v : Value} {n : Nat} {ps : Nat → List Int} (h : anyParts w v n ps) : v.oneCell' = true := by
  obtain ⟨a, c, rfl, _, _⟩ := h.open; rfl
theorem anyBytes.one {w : World} {v : Value} {l : List Int} (h : anyBytes w v l) : v.oneCell' = true := by
  obtain ⟨a, c, rfl, _⟩ := h.slice; rfl
/-- append(append([]Act{}, l...), Act{Parts: parts}). -/
theorem grows_acts (w : World) (l : Value) (n : Nat) (acts : Nat → AR) (hl : isActs w l n acts) (v : Value) (m : Nat) (ps : Nat → List Int) (hv : anyParts w v m ps) (hs : (n + 1) * 96 ≤ 140737488355328) :
    ∃ v1 w1 v2 w2, (Builtin.append_ #[51, 51] 51 #[.slice (some ⟨w.heap.size, 0, none⟩) 0 0, l]).run Tryd.prog (w.alloc (.cells #[] 49)) = .ok v1 w1 ∧
      (Builtin.append_ #[51, 51] 51 #[v1, .slice (some ⟨w1.heap.size, 0, none⟩) 1 1]).run Tryd.prog (w1.alloc (.cells (rowV 36 (actV 0 0 v (.slice none 0 0) zq)) 49)) = .ok v2 w2 ∧
      isActs w2 v2 (n + 1) (fun i => if i < n then acts i else partsA m ps) ∧ Below w.heap.size w w2 ∧ ∃ a c, v1 = .slice a n c := by
  have b0 : Below w.heap.size w (w.alloc (.cells #[] 49)) := (Below.refl _ _).alloc (Nat.le_refl _) _
  have o0 := ownActs.none w w.heap.size (Nat.le_refl _)
  -- the copy of l
  obtain ⟨v1, w1, xs, hr1, ho1, hb1, hx1⟩ : ∃ (v1 : Value) (w1 : World) (xs : List Value), (Builtin.append_ #[51, 51] 51 #[.slice (some ⟨w.heap.size, 0, none⟩) 0 0, l]).run Tryd.prog (w.alloc (.cells #[] 49)) = .ok v1 w1 ∧ ownActs w1 w.heap.size v1 n xs ∧ Below w.heap.size w w1 ∧
      ∀ i, i < n → ∃ pv bv, (∀ j, j < 36 → xs[i * 36 + j]? = some (actV (acts i).what (acts i).kind pv bv (acts i).sum j)) ∧ anyParts w pv (acts i).n (acts i).ps ∧ anyBytes w bv (acts i).bytes ∧ isSum (acts i).sum := by
    by_cases h0 : n = 0
    · subst h0
      obtain ⟨a, cap, rfl, _, _, _⟩ := hl.open
      exact ⟨_, _, [], run_append_nil _ _ _ _ Tryd.underlying51 (by kernel_rfl) _ 0 0 (Nat.le_refl _) a cap, o0, b0, fun i hi => by omega⟩
    · rcases hl with ⟨_, h⟩ | ⟨qb, qo, cap, rfl, h2, h3, h4, h5⟩
      · exact absurd h h0
      · have hcell : ∀ k, k < n * 36 → ∃ u : Value, w.cell? ⟨qb, qo + k, none⟩ = some u ∧ u.oneCell' = true := fun k hk => by
          obtain ⟨pv, bv, g1, g2, g3, g4⟩ := h5 (k / 36) (by omega)
          have := g1 (k % 36) (Nat.mod_lt _ (by omega))
          rw [show qo + k / 36 * 36 + k % 36 = qo + k by omega] at this
          exact ⟨_, this, actV_one _ _ _ _ _ _ g2.one g3.one⟩
        obtain ⟨f, hf⟩ : ∃ f : Nat → Value, ∀ k, k < n * 36 → w.cell? ⟨qb, qo + k, none⟩ = some (f k) ∧ (f k).oneCell' = true := ⟨fun k => (w.cell? ⟨qb, qo + k, none⟩).getD undef, fun k hk => by
          obtain ⟨u, h1, h2⟩ := hcell k hk
          simp only [h1, Option.getD_some]
          exact ⟨trivial, h2⟩⟩
        obtain ⟨v1, w1, hr, ho, hg⟩ := acts_append_run _ w.heap.size _ 0 [] o0 qb qo n cap ((List.range (n * 36)).map f) (by simp) (fun j u hu => by
          have hj : j < n * 36 := by
            by_cases hj : j < n * 36
            · exact hj
            · rw [List.getElem?_eq_none (by simp; omega)] at hu; cases hu
          rw [List.getElem?_map, List.getElem?_range hj] at hu
          rw [b0.cell (p := ⟨qb, qo + j, none⟩) h2, (hf j hj).1]; exact hu) (fun u hu => by
          obtain ⟨j, hj, rfl⟩ := List.mem_map.1 hu
          exact (hf j (List.mem_range.1 hj)).2) (by omega) (by omega) (by simp)
        rw [Nat.zero_add, List.nil_append] at ho
        refine ⟨v1, w1, _, hr, ho, b0.trans (below_grown hg (fun k hk => (o0.block k hk).1) (by simp)), fun i hi => ?_⟩
        obtain ⟨pv, bv, g1, g2, g3, g4⟩ := h5 i hi
        refine ⟨pv, bv, fun j hj => ?_, g2, g3, g4⟩
        have hlt : i * 36 + j < n * 36 := by have := Nat.mul_le_mul_right 36 (show i + 1 ≤ n from hi); omega
        rw [List.getElem?_map, List.getElem?_range hlt, Option.map_some, ← g1 j hj, show qo + i * 36 + j = qo + (i * 36 + j) by omega, (hf _ hlt).1]
  -- one more
  have b1 : Below w1.heap.size w1 (w1.alloc (.cells (rowV 36 (actV 0 0 v (.slice none 0 0) zq)) 49)) := (Below.refl _ _).alloc (Nat.le_refl _) _
  have ho1' : ownActs (w1.alloc (.cells (rowV 36 (actV 0 0 v (.slice none 0 0) zq)) 49)) w.heap.size v1 n xs := by
    obtain ⟨hl, h | ⟨g, cap, cur, rfl, hB, hb, hrest⟩⟩ := ho1
    · exact ⟨hl, Or.inl h⟩
    · exact ⟨hl, Or.inr ⟨g, cap, cur, rfl, hB, by rw [blk_alloc_lt _ _ _ (Array.getElem?_eq_some_iff.1 hb).1]; exact hb, hrest⟩⟩
  have hsz1 := hb1.size
  obtain ⟨v2, w2, hr2, ho2, hg2⟩ := acts_append_run _ w.heap.size v1 n xs ho1' w1.heap.size 0 1 1 (rowV 36 (actV 0 0 v (.slice none 0 0) zq)).toList (by simp [rowV_size]) (fun j u hu => by
      rw [Array.getElem?_toList] at hu
      have hj : j < 36 := by
        by_cases hj : j < 36
        · exact hj
        · rw [Array.getElem?_eq_none (by rw [rowV_size]; omega)] at hu; cases hu
      rw [rowV_get _ _ _ hj] at hu
      rw [Nat.zero_add, (rowIs_box w1 49 36 _).cell hj]; exact hu) (fun u hu => by
      rw [Array.mem_toList_iff] at hu
      obtain ⟨k, hk, rfl⟩ := Array.mem_iff_getElem.1 hu
      have hk' : k < 36 := by rw [rowV_size] at hk; exact hk
      have := rowV_get 36 (actV 0 0 v (.slice none 0 0) zq) k hk'
      rw [Array.getElem?_eq_getElem hk] at this
      rw [Option.some.inj this]; exact actV_one _ _ _ _ _ _ hv.one rfl) (by omega) hs (by simp; omega)
  have b2 : Below w.heap.size w w2 := hb1.trans ((b1.mono hsz1).trans (below_grown hg2 (fun k hk => (ho1'.block k hk).1) (by simp; omega)))
  have hlx : xs.length = n * 36 := ho1.1
  have hsh : ∃ a c, v1 = .slice a n c := by
    obtain ⟨_, h | ⟨g, cap, cur, h, _⟩⟩ := ho1
    · exact ⟨none, 0, by rw [h.1, h.2]⟩
    · exact ⟨_, _, h⟩
  refine ⟨v1, w1, v2, w2, hr1, hr2, ho2.acts _ (fun i hi => ?_), b2, hsh⟩
  by_cases e : i < n
  · obtain ⟨pv, bv, g1, g2, g3, g4⟩ := hx1 i e
    simp only [if_pos e]
    refine ⟨pv, bv, fun j hj => ?_, g2.below b2 (Nat.le_refl _), g3.below b2 (Nat.le_refl _), g4⟩
    have hlt : i * 36 + j < n * 36 := by have := Nat.mul_le_mul_right 36 (show i + 1 ≤ n from e); omega
    rw [List.getElem?_append_left (by omega)]; exact g1 j hj
  · obtain rfl : i = n := by omega
    simp only [if_neg e]
    refine ⟨v, .slice none 0 0, fun j hj => ?_, hv.below b2 (Nat.le_refl _), Or.inl (Or.inl ⟨rfl, rfl⟩), zq_sum⟩
    rw [List.getElem?_append_right (by omega), hlx, show i * 36 + j - i * 36 = j by omega, Array.getElem?_toList, rowV_get _ _ _ hj]; rfl
end Go.Proofs.YtmfgfcknhjblgaaDoor

/- The frame of a law's row, where no package variable is laid. -/
namespace Go.Proofs.YtmfgfcknhjblgaaDoor
open Go.RowKit Go.Deep Go.ChangeShapes Go.WideShapes Go.ChangeAt
theorem own : ownKnob Tryd.prog.godebug = none := by kernel_rfl
theorem laidOut : laidOutB Tryd.prog = true := by kernel_rfl
theorem bounds_u64 {a : Int} (h : (Lit.int .u64 a).wf = true) : 0 ≤ a ∧ a < 18446744073709551616 := by
  have h' : 0 ≤ a ∧ a ≤ 18446744073709551615 := by simpa [Lit.wf, IntKind.min, IntKind.max, IntKind.signed, IntKind.bits] using h
  omega
end Go.Proofs.YtmfgfcknhjblgaaDoor

/- Slices that came in, opened. -/
namespace Go.Proofs.YtmfgfcknhjblgaaDoor
open Go.RowKit Go.Deep Go.ChangeShapes Go.WideShapes

theorem bounds_i64 {a : Int} (h : (Lit.int .i64 a).wf = true) : -9223372036854775808 ≤ a ∧ a ≤ 9223372036854775807 := by
  simpa [Lit.wf, IntKind.min, IntKind.max, IntKind.signed, IntKind.bits] using h
/-- A SLICE, opened at every index. -/
theorem open_any {H : Type} {enc : TypeId × Value → H} {P : Program} {w : World} {base b0 : Nat} {sp : Nat → Bool} {held : Bool} {r : Reach} {t e : TypeId} {v : Value} {d : DataW H} {ps : List MemPlace} (c : Nat)
    (hu : P.underlying t = some (.slice e)) (hc : P.cellsOf e = c) (hval : Value.okWide P w r b0 t v) (hd : DataW.Trod enc P w base sp held t v d ps) :
    (v = .slice none 0 0) ∨ ∃ pb po len cap : Nat, v = .slice (some ⟨pb, po, none⟩) len cap ∧ len ≤ cap ∧ cap ≤ maxLen ∧ pb < w.heap.size ∧
      ∀ i, i < len → ∃ (cs' : List Value) (n : Nat) (D : DataW H × List MemPlace), cs'.length = c ∧ (∀ j, j < c → w.cell? ⟨pb, po + i * c + j, none⟩ = cs'[j]?) ∧ DataW.trod enc P w base sp held n e cs' = some D := by
  obtain ⟨a, len, cap, rfl⟩ := okWide_slice hu hval
  obtain ⟨fuel, hf⟩ := hd
  rcases open_slice hu hf with ⟨h0, _⟩ | ⟨a', len', cap', m, n, D, Pl, h0, _, h1, h2, h3, _, h4⟩
  · left; simpa [Value.cells] using h0
  · right
    have h0' : a = some a' ∧ len = len' ∧ cap = cap' := by simpa [Value.cells] using h0
    obtain ⟨rfl, rfl, rfl⟩ := h0'
    have hlm : len ≤ m := by rw [h3]; split <;> omega
    simp only [Value.okWide, hu, Cell.okWide, Cell.ok] at hval
    obtain ⟨_, _, _, hsp, row, cells, hsh, _⟩ := hval
    obtain ⟨pb, po, spot⟩ := a'
    obtain rfl : spot = none := hsp
    refine ⟨pb, po, len, cap, rfl, h1, h2, ?_, fun i hi => ?_⟩
    · unfold World.shape? at hsh
      cases hq : w.heap[pb]? with
      | none => rw [hq] at hsh; cases hsh
      | some o => exact (Array.getElem?_eq_some_iff.1 hq).1
    · obtain ⟨cs', g1, g2⟩ := h4 i (by omega)
      rw [hc] at g1
      obtain ⟨_, hlen, hcell⟩ := World.cells?_some g1
      refine ⟨cs', n, _, hlen, fun j hj => ?_, g2⟩
      have e0 := hcell j (by omega)
      rw [add_add, Addr.add_mid] at e0
      rw [Nat.add_assoc]; exact e0
theorem open_bytes_slice {H : Type} {enc : TypeId × Value → H} {P : Program} {w : World} {base b0 : Nat} {sp : Nat → Bool} {held : Bool} {r : Reach} {t e : TypeId} {v : Value} {d : DataW H} {ps : List MemPlace}
    (hu : P.underlying t = some (.slice e)) (he : P.underlying e = some (.int .u8)) (hc : P.cellsOf e = 1) (hval : Value.okWide P w r b0 t v) (hd : DataW.Trod enc P w base sp held t v d ps) : ∃ l, isBytes w v l := by
  rcases open_any 1 hu hc hval hd with rfl | ⟨pb, po, len, cap, rfl, h1, h2, h3, h4⟩
  · exact ⟨[], Or.inl ⟨rfl, rfl⟩⟩
  · have each : ∀ i, i < len → ∃ z : Int, w.cell? ⟨pb, po + i, none⟩ = some (.int .u8 z) ∧ 0 ≤ z ∧ z ≤ 255 := fun i hi => by
      obtain ⟨cs', n, D, g1, g2, g3⟩ := h4 i hi
      obtain ⟨z, rfl, _, hw⟩ := DataW.trod_int he g3
      have := g2 0 (by omega)
      rw [Nat.mul_one, Nat.add_zero] at this
      exact ⟨z, this, bounds_u8 hw⟩
    obtain ⟨f, hf⟩ := choose_lt each
    have hg : ∀ i, i < len → ((List.range len).map f).getD i 0 = f i := fun i hi => by
      rw [List.getD_eq_getElem?_getD, List.getElem?_map, List.getElem?_range hi]; rfl
    refine ⟨(List.range len).map f, Or.inr ⟨pb, po, cap, by simp, by simpa using h1, h2, h3, fun i hi => ?_, fun i => ?_⟩⟩
    · have hi' : i < len := by simpa using hi
      rw [hg i hi']; exact (hf i hi').1
    · by_cases hi : i < len
      · rw [hg i hi]; exact (hf i hi).2
      · rw [List.getD_eq_getElem?_getD, List.getElem?_eq_none (by simp; omega)]; exact ⟨by simp, by simp⟩
end Go.Proofs.YtmfgfcknhjblgaaDoor

/- Slices of slices of bytes that came in, opened. -/
namespace Go.Proofs.YtmfgfcknhjblgaaDoor
set_option maxRecDepth 100000
open Go.RowKit Go.Deep Go.ChangeShapes Go.WideShapes

theorem open_inner {H : Type} {enc : TypeId × Value → H} {w : World} {base : Nat} {held : Bool} {n : Nat} {u : Value} {D : DataW H × List MemPlace}
    (hd : DataW.trod enc Tryd.prog w base (fun _ => true) held n 34 [u] = some D) : ∃ l, anyBytes w u l := by
  rcases open_slice1 Tryd.underlying34 (by kernel_rfl) hd with ⟨h0, _⟩ | ⟨a, len, cap, m, n', V, D', Pl, h0, _, h1, h2, h3, _, h4⟩
  · exact ⟨[], Or.inl (Or.inl ⟨by simpa using h0, rfl⟩)⟩
  · obtain rfl : u = .slice (some a) len cap := by simpa using h0
    simp only [if_true] at h3
    subst h3
    by_cases hc : m = 0
    · subst hc
      obtain rfl : len = 0 := by omega
      exact ⟨[], Or.inr ⟨⟨_, rfl⟩, rfl⟩⟩
    · have h00 := (h4 0 (by omega)).1
      have ha0 : a.add 0 = a := by unfold Addr.add; rw [if_pos rfl]
      rw [ha0] at h00
      have hsp : a.spot = none := by
        unfold World.cell? at h00
        split at h00
        · cases hs : a.spot with
          | none => rfl
          | some q => rw [hs] at h00; simp at h00
        · cases h00
      obtain ⟨pb, po, spot⟩ := a
      obtain rfl : spot = none := hsp
      have hlt := World.block_lt_of_cell? _ _ h00
      have each : ∀ i, i < len → ∃ z : Int, w.cell? ⟨pb, po + i, none⟩ = some (.int .u8 z) ∧ 0 ≤ z ∧ z ≤ 255 := fun i hi => by
        obtain ⟨e1, e2⟩ := h4 i (by omega)
        rw [Addr.add_mid] at e1
        obtain ⟨z, hz, _, hw⟩ := DataW.trod_int Tryd.underlying5 e2
        have hz' : V i = .int .u8 z := by simpa using hz
        exact ⟨z, by rw [e1, hz'], bounds_u8 hw⟩
      obtain ⟨f, hf⟩ := choose_lt each
      have hg : ∀ i, i < len → ((List.range len).map f).getD i 0 = f i := fun i hi => by
        rw [List.getD_eq_getElem?_getD, List.getElem?_map, List.getElem?_range hi]; rfl
      refine ⟨(List.range len).map f, Or.inl (Or.inr ⟨pb, po, m, by simp, by simpa using h1, h2, hlt, fun i hi => ?_, fun i => ?_⟩)⟩
      · have hi' : i < len := by simpa using hi
        rw [hg i hi']; exact (hf i hi').1
      · by_cases hi : i < len
        · rw [hg i hi]; exact (hf i hi).2
        · rw [List.getD_eq_getElem?_getD, List.getElem?_eq_none (by simp; omega)]; exact ⟨by simp, by simp⟩
theorem open_parts {H : Type} {enc : TypeId × Value → H} {w : World} {base b0 : Nat} {held : Bool} {r : Reach} {v : Value} {d : DataW H} {ps : List MemPlace}
    (hval : Value.okWide Tryd.prog w r b0 22 v) (hd : DataW.Trod enc Tryd.prog w base (fun _ => true) held 22 v d ps) : ∃ n p, isParts w v n p := by
  rcases open_any 1 Tryd.underlying22 (by kernel_rfl) hval hd with rfl | ⟨pb, po, len, cap, rfl, h1, h2, h3, h4⟩
  · exact ⟨0, fun _ => [], Or.inl ⟨rfl, rfl⟩⟩
  · have each : ∀ i, i < len → ∃ z : Value × List Int, w.cell? ⟨pb, po + i, none⟩ = some z.1 ∧ anyBytes w z.1 z.2 := fun i hi => by
      obtain ⟨cs', n, D, g1, g2, g3⟩ := h4 i hi
      match cs', g1 with
      | [u], _ =>
        obtain ⟨l, hl⟩ := open_inner g3
        have := g2 0 (by omega)
        rw [Nat.mul_one, Nat.add_zero] at this
        exact ⟨(u, l), this, hl⟩
    obtain ⟨f, hf⟩ := choose_lt each
    exact ⟨len, fun i => (f i).2, Or.inr ⟨pb, po, cap, fun i => (f i).1, rfl, h3, by omega, fun i hi => hf i hi⟩⟩
end Go.Proofs.YtmfgfcknhjblgaaDoor

/- Parts within what came in, opened. -/
namespace Go.Proofs.YtmfgfcknhjblgaaDoor
set_option maxRecDepth 100000
open Go.RowKit Go.Deep Go.ChangeShapes Go.WideShapes

/-- inner parts, opened. -/
theorem open_inner_parts {H : Type} {enc : TypeId × Value → H} {w : World} {base : Nat} {held : Bool} {n : Nat} {u : Value} {D : DataW H × List MemPlace}
    (hd : DataW.trod enc Tryd.prog w base (fun _ => true) held n 22 [u] = some D) : ∃ n p, anyParts w u n p := by
  rcases open_slice1 Tryd.underlying22 (by kernel_rfl) hd with ⟨h0, _⟩ | ⟨a, len, cap, m, n', V, D', Pl, h0, _, h1, h2, h3, _, h4⟩
  · exact ⟨0, fun _ => [], Or.inl (Or.inl ⟨by simpa using h0, rfl⟩)⟩
  · obtain rfl : u = .slice (some a) len cap := by simpa using h0
    simp only [if_true] at h3
    subst h3
    by_cases hc : m = 0
    · subst hc
      obtain rfl : len = 0 := by omega
      exact ⟨0, fun _ => [], Or.inr ⟨⟨_, rfl⟩, rfl⟩⟩
    · have h00 := (h4 0 (by omega)).1
      have ha0 : a.add 0 = a := by unfold Addr.add; rw [if_pos rfl]
      rw [ha0] at h00
      have hsp : a.spot = none := by
        unfold World.cell? at h00
        split at h00
        · cases hs : a.spot with
          | none => rfl
          | some q => rw [hs] at h00; simp at h00
        · cases h00
      obtain ⟨pb, po, spot⟩ := a
      obtain rfl : spot = none := hsp
      have hlt := World.block_lt_of_cell? _ _ h00
      have each : ∀ i, i < len → ∃ z : Value × List Int, w.cell? ⟨pb, po + i, none⟩ = some z.1 ∧ anyBytes w z.1 z.2 := fun i hi => by
        obtain ⟨e1, e2⟩ := h4 i (by omega)
        rw [Addr.add_mid] at e1
        obtain ⟨l, hl⟩ := open_inner e2
        exact ⟨(V i, l), e1, hl⟩
      obtain ⟨f, hf⟩ := choose_lt each
      exact ⟨len, fun i => (f i).2, Or.inl (Or.inr ⟨pb, po, m, fun i => (f i).1, rfl, hlt, by omega, fun i hi => hf i hi⟩)⟩
theorem drop_take1 {cs : List Value} {o : Nat} (h : o < cs.length) : (cs.drop o).take 1 = [cs[o]] := by
  rw [List.drop_eq_getElem_cons h]; rfl
end Go.Proofs.YtmfgfcknhjblgaaDoor
