import Derived.RangeFuncNested
import Derived.RangeFuncBound
import Derived.RangeFuncCalls
import Derived.RangeFuncLeaves
import Derived.Shelf.Abstract
import Derived.Shelf.RegionOpen
import Derived.WalkKit
import Derived.OwnWalkIn
import Derived.TacticsInMore
import Derived.LoopNIn
import Derived.LoopIn
import Derived.OrdersIn
import Derived.Deep.RegionHeld3
import Derived.Lib.BytesEntry
import Derived.Laws.MakeOwn
import Derived.Deep.Light
import Derived.Test.YtkgegihkhdgdoaaDoorOwn1
import Derived.Test.YtkgegihkhdgdoaaDoorOwn2
import Derived.Test.YtkgegihkhdgdoaaDoorOwn3
set_option linter.unusedVariables false
set_option linter.unusedSimpArgs false
/- tree.Root: by no book, by a book. -/
namespace Go.Proofs.YtkgegihkhdgdoaaDoor
set_option linter.unusedSimpArgs false
set_option linter.unusedVariables false
open Go.RowKit Go.Deep

theorem callsR_more {n h : Nat} (h0 : 1 ≤ h) (h1 : h < n) : callsR n = callsR h + callsR (n - h) + 1 := by unfold callsR; rw [if_neg (by omega), if_neg (by omega), if_neg (by omega)]; omega
theorem rootNF_length : ∀ (n : Nat) (N : List Nt) (L : List (List Int)), L.length ≤ n → (rootNF n N L).length ≤ N.length + L.length + 1 ∧ (1 ≤ L.length → (rootNF n N L).length + 1 ≤ N.length + L.length)
  | 0, N, L, h => by
    rw [rootNF]; have := addN_len N (nodeS [], nodeT []); omega
  | n + 1, N, L, h => by
    rw [rootNF]
    by_cases e0 : L.length = 0
    · rw [if_pos e0]; have := addN_len N (nodeS [], nodeT []); omega
    · by_cases e1 : L.length = 1
      · rw [if_neg e0, if_pos e1]; omega
      · have ht := half_take (L := L) (by omega)
        rw [if_neg e0, if_neg e1]
        have h1 := rootNF_length n N (L.take (halfN L.length)) (by omega)
        have h2 := rootNF_length n (rootNF n N (L.take (halfN L.length))) (L.drop (halfN L.length)) (by omega)
        have h3 := addN_len (rootNF n (rootNF n N (L.take (halfN L.length))) (L.drop (halfN L.length))) (nodeS [rootS (L.take (halfN L.length)), rootS (L.drop (halfN L.length))], nodeT [rootS (L.take (halfN L.length)), rootS (L.drop (halfN L.length))])
        omega
theorem tabIs.far {w w' : World} (h : tabIs w) (hb : w'.heap[1]? = w.heap[1]?) (hs : w.heap.size ≤ w'.heap.size) : tabIs w' := ⟨Nat.lt_of_lt_of_le h.1 hs, fun i hi => (World.cell?_of_block (a := ⟨1, i, none⟩) hb).trans (h.2 i hi)⟩
theorem sumsAt.far {w w' : World} {v : Value} {L : List (List Int)} (h : sumsAt w v L) (hb : 0 < L.length → ∀ k, v.ownBlock = some k → k < w.heap.size → w'.heap[k]? = w.heap[k]?) (hs : w.heap.size ≤ w'.heap.size) : sumsAt w' v L := by
  obtain ⟨h1, a, cap, rfl, h3, h4, h5⟩ := h
  refine ⟨h1, a, cap, rfl, h3, h4, fun h0 => ?_⟩
  obtain ⟨g, o, rfl, hg, hc⟩ := h5 h0
  exact ⟨g, o, rfl, Nat.lt_of_lt_of_le hg hs, fun i hi j hj => (World.cell?_of_block (a := ⟨g, o + i * 32 + j, none⟩) (hb h0 g rfl hg)).trans (hc i hi j hj)⟩
theorem sumsAt.to' {w : World} {v : Value} {L : List (List Int)} (h : sumsAt w v L) (n : Nat) (hn : n < L.length) :
    ∃ u, (∀ wz : World, (Instr.slice 39 v none (some (.int .i64 n)) none).run Tryd.prog wz = .ok u wz) ∧ sumsAt w u (L.take n) ∧ u.ownBlock = v.ownBlock ∧ ∃ x y, u = .slice x n y := by
  obtain ⟨h1, a, cap, rfl, h3, h4, h5⟩ := h
  obtain ⟨g, o, rfl, hg, hc⟩ := h5 (by omega)
  have hl : (L.take n).length = n := by simp; omega
  refine ⟨_, fun wz => run_slice_to32 39 32 g o L.length cap n Tryd.underlying39 (by kernel_rfl) (by omega) wz, ⟨fun x hx => h1 x (List.mem_of_mem_take hx), _, cap, by rw [hl], by omega, h4, fun _ => ⟨g, o, rfl, hg, fun i hi j hj => ?_⟩⟩, rfl, _, _, rfl⟩
  rw [List.getElem_take]; exact hc i (by omega) j hj
theorem sumsAt.from' {w : World} {v : Value} {L : List (List Int)} (h : sumsAt w v L) (n : Nat) (hn : n < L.length) :
    ∃ u, (∀ wz : World, (Instr.slice 39 v (some (.int .i64 n)) none none).run Tryd.prog wz = .ok u wz) ∧ sumsAt w u (L.drop n) ∧ u.ownBlock = v.ownBlock ∧ ∃ x y, u = .slice x (L.length - n) y := by
  obtain ⟨h1, a, cap, rfl, h3, h4, h5⟩ := h
  obtain ⟨g, o, rfl, hg, hc⟩ := h5 (by omega)
  have hl : (L.drop n).length = L.length - n := by simp
  refine ⟨_, fun wz => run_slice_from32 39 32 g o L.length cap n Tryd.underlying39 (by kernel_rfl) (by omega) (by omega) wz, ⟨fun x hx => h1 x (List.mem_of_mem_drop hx), _, cap - n, by rw [hl], by omega, by omega, fun _ => ⟨g, o + n * 32, rfl, hg, fun i hi j hj => ?_⟩⟩, rfl, _, _, rfl⟩
  rw [List.getElem_drop, show o + n * 32 + i * 32 + j = o + (n + i) * 32 + j by omega]
  exact hc (n + i) (by omega) j hj
set_option maxHeartbeats 2000000 in
set_option maxRecDepth 100000 in
theorem root_nil_small (L : List (List Int)) (v : Value) (w : World) (hn : L.length ≤ 1) (h : sumsAt w v L) (ht : tabIs w) :
    Calls Tryd.prog 40 #[.pointer none, v] w fun e w' => e = .returned (sumV (rootS L)) ∧ Below w.heap.size w w' := by
  have hz32 := zero_s32
  obtain ⟨w1, hw1⟩ : ∃ w1, w1 = w.alloc (.cells (rowV 32 (fun _ => .int .u8 0)) 32) := ⟨_, rfl⟩
  have r1 : w1.rowIs w.heap.size 32 32 (fun _ => .int .u8 0) := by rw [hw1]; exact rowIs_box w _ _ _
  have b1 : Below w.heap.size w w1 := by rw [hw1]; exact (Below.refl _ _).alloc (Nat.le_refl _) _
  have s1 : w1.heap.size = w.heap.size + 1 := by rw [hw1]; simp
  by_cases h0 : L.length = 0
  · have X := node_nil [] (.slice none 0 0) w1 (sumsAt.nil w1) (by simp) (ht.below b1 ht.1)
    have ES := rootS_none h0
    rw [← ES] at X
    unfold sumV at X ⊢
    have HES : Hid _ := ES
    clear ES
    obtain ⟨_, a, cap, rfl, _, _, _⟩ := h
    rw [h0]
    go_enter Tryd.func40, Tryd.ntmps40
    go_upto_region 1 with fail
    rw [← hw1]
    have S1 : Hid _ := s1
    clear hw1 hz32 s1
    go_wp2_with fail
    refine X.mono ?_
    rintro e wx ⟨rfl, bx⟩
    clear X
    have s1 := S1.out
    have sx := bx.size
    have rx := bx.row r1 (by omega)
    have BX : Hid _ := b1.trans (bx.mono (by omega))
    clear bx s1 r1
    go_wp2_with (first | (refine wpList_store_row rfl 32 _ _ rfl rfl w.heap.size 0 32 (arrV (rootS L)) rfl rfl hi32' (fun _ _ => rfl) _ _ _ rx (by omega) ?_; intro w6 r6 hz6 hb6))
    exact bodyPost_ret (results_cell_seg rfl _ _ w.heap.size 32 32 (arrV (rootS L)) _ rfl Tryd.underlying32 rfl hi32' (r6.congr fun i hi => by rw [if_pos (by omega), Nat.sub_zero])) rfl ⟨rfl, BX.out.trans (hb6.below' (Nat.le_refl _) (Below.size BX.out))⟩
  · have h1 : L.length = 1 := by omega
    have ES : rootS L = L[0] := by rw [rootS_one h1, List.getD_eq_getElem?_getD, List.getElem?_eq_getElem (by omega)]; rfl
    obtain ⟨hs, a, cap, rfl, hc1, hm1, hcl⟩ := h
    obtain ⟨g, o, rfl, hg, hcell⟩ := hcl (by omega)
    have ld : ∀ j, j < 32 → w1.cell? ⟨g, o + j, none⟩ = some (arrV (rootS L) j) := fun j hj => by
      have := hcell 0 (by omega) j hj
      rw [show o + 0 * 32 + j = o + j by omega] at this
      rw [b1.cell (p := ⟨g, o + j, none⟩) hg, this, ES]
    have LD : Hid _ := ld
    clear ld hcell hcl hs ES
    rw [h1]
    unfold sumV
    go_enter Tryd.func40, Tryd.ntmps40
    go_upto_region 1 with fail
    rw [← hw1]
    have S1 : Hid _ := s1
    clear hw1 hz32 s1
    go_wp2_with (first | (refine wpList_load_seg rfl 32 _ rfl g o 32 (arrV (rootS L)) rfl _ Tryd.underlying32 rfl hi32' LD.out ?_) | (refine wpList_store_row rfl 32 _ _ rfl rfl w.heap.size 0 32 (arrV (rootS L)) rfl rfl hi32' (fun _ _ => rfl) _ _ _ r1 (by omega) ?_; intro w6 r6 hz6 hb6))
    have s1 := S1.out
    exact bodyPost_ret (results_cell_seg rfl _ _ w.heap.size 32 32 (arrV (rootS L)) _ rfl Tryd.underlying32 rfl hi32' (r6.congr fun i hi => by rw [if_pos (by omega), Nat.sub_zero])) rfl ⟨rfl, b1.trans (hb6.below' (Nat.le_refl _) (by omega))⟩
set_option maxHeartbeats 2000000 in
set_option maxRecDepth 100000 in
theorem root_book_small (F : Nat → Prop) (k : Nat) (N : List Nt) (c : Int) (L : List (List Int)) (v : Value) (w : World) (hn : L.length ≤ 1) (hk : bookAt w F k N c) (h : sumsAt w v L) (ht : tabIs w) (hF0 : ¬ F 1) (hN : N.length + L.length < 100000) (hc : 0 ≤ c ∧ c + (L.length : Int) < 100000000) :
    Calls Tryd.prog 40 #[.pointer (some ⟨k, 0, none⟩), v] w fun e w' => e = .returned (sumV (rootS L)) ∧ bookAt w' (Gr F w w') k (rootN N L) (c + callsR L.length) ∧ Fr F w w' := by
  have hz32 := zero_s32
  obtain ⟨w1, hw1⟩ : ∃ w1, w1 = w.alloc (.cells (rowV 32 (fun _ => .int .u8 0)) 32) := ⟨_, rfl⟩
  have r1 : w1.rowIs w.heap.size 32 32 (fun _ => .int .u8 0) := by rw [hw1]; exact rowIs_box w _ _ _
  have b1 : Below w.heap.size w w1 := by rw [hw1]; exact (Below.refl _ _).alloc (Nat.le_refl _) _
  have s1 : w1.heap.size = w.heap.size + 1 := by rw [hw1]; simp
  have hlt := hk.2.1
  have hFw : ¬ F w.heap.size := fun hf => by have := hlt _ hf; omega
  have K1 := hk.below b1 (Nat.le_refl _)
  by_cases h0 : L.length = 0
  · have X := node_book F k N c [] (.slice none 0 0) w1 K1 (sumsAt.nil w1) (by simp) (ht.below b1 ht.1) hF0 (by omega) ⟨hc.1, by omega⟩
    have ES := rootS_none h0
    rw [← ES] at X
    unfold sumV at X ⊢
    have HES : Hid _ := ES
    have EN : Hid _ := rootN_none N h0
    have EC : Hid (callsR L.length = 1) := (show callsR L.length = 1 from by unfold callsR; rw [if_pos h0])
    clear ES
    obtain ⟨_, a, cap, rfl, _, _, _⟩ := h
    rw [h0]
    go_enter Tryd.func40, Tryd.ntmps40
    go_upto_region 1 with fail
    rw [← hw1]
    have S1 : Hid _ := s1
    clear hw1 hz32 s1
    go_wp2_with fail
    refine X.mono ?_
    rintro e wx ⟨rfl, kx, fx⟩
    clear X
    have s1 := S1.out
    have sx := fx.size
    have rx : wx.rowIs w.heap.size 32 32 (fun _ => .int .u8 0) := World.rowIs.of_block r1 (fx.block _ (by omega) hFw)
    have KX : Hid _ := kx
    have FX : Hid _ := fx
    clear kx fx s1 r1
    go_wp2_with (first | (refine wpList_store_row rfl 32 _ _ rfl rfl w.heap.size 0 32 (arrV (rootS L)) rfl rfl hi32' (fun _ _ => rfl) _ _ _ rx (by omega) ?_; intro w6 r6 hz6 hb6))
    have s1 := S1.out
    refine bodyPost_ret (results_cell_seg rfl _ _ w.heap.size 32 32 (arrV (rootS L)) _ rfl Tryd.underlying32 rfl hi32' (r6.congr fun i hi => by rw [if_pos (by omega), Nat.sub_zero])) rfl ⟨rfl, ?_, ?_⟩
    · rw [EN.out, show callsR 0 = 1 from rfl, ← HES.out]
      refine (bookAt.far KX.out (fun j hj hl => hb6.block j hl (fun e => ?_)) (by omega)).grow (fun j hj => ?_) (fun j hj => ?_)
      · rcases hj with hj | hj
        · exact hFw (e ▸ hj)
        · omega
      · rcases hj with hj | hj
        · exact Or.inl hj
        · exact Or.inr ⟨by omega, by omega⟩
      · rcases hj with hj | hj
        · have := hlt j hj; omega
        · exact hj.2
    · exact ((Fr.of_below F b1).trans FX.out (fun _ _ h => h)).trans (G := fun j => j = w.heap.size) ⟨hb6.os, hb6.tape, hb6.output, by omega, fun j hj hne => hb6.block j hj hne⟩ (fun j hj e => by omega)
  · have h1 : L.length = 1 := by omega
    have ES : rootS L = L[0] := by rw [rootS_one h1, List.getD_eq_getElem?_getD, List.getElem?_eq_getElem (by omega)]; rfl
    obtain ⟨hs, a, cap, rfl, hc1, hm1, hcl⟩ := h
    obtain ⟨g, o, rfl, hg, hcell⟩ := hcl (by omega)
    have ld : ∀ j, j < 32 → w1.cell? ⟨g, o + j, none⟩ = some (arrV (rootS L) j) := fun j hj => by
      have := hcell 0 (by omega) j hj
      rw [show o + 0 * 32 + j = o + j by omega] at this
      rw [b1.cell (p := ⟨g, o + j, none⟩) hg, this, ES]
    have LD : Hid _ := ld
    have EN : Hid _ := rootN_one N h1
    have EC : Hid (callsR L.length = 0) := (show callsR L.length = 0 from by unfold callsR; rw [h1]; rfl)
    clear ld hcell hcl hs ES
    rw [h1]
    unfold sumV
    go_enter Tryd.func40, Tryd.ntmps40
    go_upto_region 1 with fail
    rw [← hw1]
    have S1 : Hid _ := s1
    clear hw1 hz32 s1
    go_wp2_with (first | (refine wpList_load_seg rfl 32 _ rfl g o 32 (arrV (rootS L)) rfl _ Tryd.underlying32 rfl hi32' LD.out ?_) | (refine wpList_store_row rfl 32 _ _ rfl rfl w.heap.size 0 32 (arrV (rootS L)) rfl rfl hi32' (fun _ _ => rfl) _ _ _ r1 (by omega) ?_; intro w6 r6 hz6 hb6))
    have s1 := S1.out
    refine bodyPost_ret (results_cell_seg rfl _ _ w.heap.size 32 32 (arrV (rootS L)) _ rfl Tryd.underlying32 rfl hi32' (r6.congr fun i hi => by rw [if_pos (by omega), Nat.sub_zero])) rfl ⟨rfl, ?_, ?_⟩
    · rw [EN.out, show callsR 1 = 0 from rfl, Int.add_zero]
      refine (bookAt.far K1 (fun j hj hl => hb6.block j hl (fun e => hFw (e ▸ hj))) (by omega)).grow (fun j hj => Or.inl hj) (fun j hj => ?_)
      rcases hj with hj | hj
      · have := hlt j hj; omega
      · exact hj.2
    · exact (Fr.of_below F b1).trans (G := fun j => j = w.heap.size) ⟨hb6.os, hb6.tape, hb6.output, by omega, fun j hj hne => hb6.block j hj hne⟩ (fun j hj e => by omega)
end Go.Proofs.YtkgegihkhdgdoaaDoor

/- tree.Root: of two leaves and more. -/
namespace Go.Proofs.YtkgegihkhdgdoaaDoor
set_option linter.unusedSimpArgs false
set_option linter.unusedVariables false
open Go.RowKit Go.Deep

set_option maxHeartbeats 4000000 in
set_option maxRecDepth 100000 in
theorem root_book : ∀ (n : Nat) (F : Nat → Prop) (k : Nat) (N : List Nt) (c : Int) (L : List (List Int)) (v : Value) (w : World), L.length ≤ n → n ≤ 1000 → bookAt w F k N c → sumsAt w v L → (0 < L.length → ∀ j, v.ownBlock = some j → ¬ F j) → tabIs w → ¬ F 1 → N.length + L.length < 100000 → (0 ≤ c ∧ c + (L.length : Int) < 100000000) →
    Calls Tryd.prog 40 #[.pointer (some ⟨k, 0, none⟩), v] w fun e w' => e = .returned (sumV (rootS L)) ∧ bookAt w' (Gr F w w') k (rootN N L) (c + callsR L.length) ∧ Fr F w w' := by
  intro n
  induction n with
  | zero =>
    intro F k N c L v w hn h1000 hk h hvF ht hF0 hN hc
    exact root_book_small F k N c L v w (by omega) hk h ht hF0 hN hc
  | succ n ih =>
  intro F k N c L v w hn h1000 hk h hvF ht hF0 hN hc
  by_cases hsm : L.length ≤ 1
  · exact root_book_small F k N c L v w hsm hk h ht hF0 hN hc
  have h2 : 2 ≤ L.length := by omega
  have hh := half_take h2
  have hz32 := zero_s32
  obtain ⟨w1, hw1⟩ : ∃ w1, w1 = w.alloc (.cells (rowV 32 (fun _ => .int .u8 0)) 32) := ⟨_, rfl⟩
  have r1 : w1.rowIs w.heap.size 32 32 (fun _ => .int .u8 0) := by rw [hw1]; exact rowIs_box w _ _ _
  have b1 : Below w.heap.size w w1 := by rw [hw1]; exact (Below.refl _ _).alloc (Nat.le_refl _) _
  have s1 : w1.heap.size = w.heap.size + 1 := by rw [hw1]; simp
  have X1 := half_any (L.length : Int) (by omega) (by omega) w1
  obtain ⟨ua, ra, sa, oa, xa, ya, rfl⟩ := h.to' (halfN L.length) (by omega)
  obtain ⟨ub, rb, sb, ob, xb, yb, rfl⟩ := h.from' (halfN L.length) (by omega)
  have hvl : ∀ j, v.ownBlock = some j → j < w.heap.size := by
    obtain ⟨_, a, cap, rfl, _, _, h5⟩ := h
    obtain ⟨g, o, rfl, hg, _⟩ := h5 (by omega)
    intro j hj
    have : g = j := by simpa [Value.ownBlock] using hj
    omega
  obtain ⟨TL, hTL⟩ : ∃ TL, TL = L.take (halfN L.length) := ⟨_, rfl⟩
  obtain ⟨DL, hDL⟩ : ∃ DL, DL = L.drop (halfN L.length) := ⟨_, rfl⟩
  have ES : rootS L = nodeS [rootS TL, rootS DL] := by rw [hTL, hDL]; exact rootS_more h2
  have hsT : isSum (rootS TL) := rootS_sum (by rw [hTL]; exact sa.1)
  have hsD : isSum (rootS DL) := rootS_sum (by rw [hDL]; exact sb.1)
  have lT : TL.length = halfN L.length := by rw [hTL]; exact hh.1
  have lD : DL.length = L.length - halfN L.length := by rw [hDL]; exact hh.2.1
  rw [← hTL] at sa
  rw [← hDL] at sb
  have EN : rootN N L = addN (rootN (rootN N TL) DL) (nodeS [rootS TL, rootS DL], nodeT [rootS TL, rootS DL]) := by rw [hTL, hDL]; exact rootN_more N h2
  have EC : callsR L.length = callsR TL.length + callsR DL.length + 1 := by rw [lT, lD]; exact callsR_more hh.2.2.2 hh.2.2.1
  have hlt := hk.2.1
  have hFw : ¬ F w.heap.size := fun hf => by have := hlt _ hf; omega
  have K1 := hk.below b1 (Nat.le_refl _)
  have hcT : 0 ≤ callsR TL.length ∧ callsR TL.length ≤ (TL.length : Int) := by unfold callsR; rw [if_neg (by omega)]; omega
  have hcD : 0 ≤ callsR DL.length ∧ callsR DL.length ≤ (DL.length : Int) := by unfold callsR; rw [if_neg (by omega)]; omega
  have lN1 := (rootNF_length TL.length N TL (Nat.le_refl _)).2 (by omega)
  have lN2 := (rootNF_length DL.length (rootN N TL) DL (Nat.le_refl _)).2 (by omega)
  have XA := ih F k N c TL _ w1.drew (by omega) (by omega) (K1.below ((Below.refl _ _).drew) (Nat.le_refl _)) ((sa.below b1 (Nat.le_refl _)).below ((Below.refl _ _).drew) (Nat.le_refl _)) (fun _ j hj => hvF (by omega) j (oa ▸ hj)) ((ht.below b1 ht.1).below ((Below.refl _ _).drew) (by have := ht.1; omega)) hF0 (by omega) ⟨hc.1, by omega⟩
  have HFW : Hid _ := hFw
  have HLT : Hid _ := hlt
  have HEN : Hid _ := EN
  have HEC : Hid _ := EC
  have HLN : Hid ((rootN N TL).length + 1 ≤ N.length + TL.length ∧ (rootN (rootN N TL) DL).length + 1 ≤ (rootN N TL).length + DL.length) := (show (rootN N TL).length + 1 ≤ N.length + TL.length ∧ (rootN (rootN N TL) DL).length + 1 ≤ (rootN N TL).length + DL.length from ⟨lN1, lN2⟩)
  clear lN1 lN2 EN EC
  unfold sumV at XA ⊢
  have HES : Hid _ := ES
  have hsl : ∃ a cap, v = .slice a L.length cap := by
    obtain ⟨_, a, cap, e, _⟩ := h; exact ⟨a, cap, e⟩
  obtain ⟨va, vc, rfl⟩ := hsl
  have q0 : (2 : Int) ≤ (L.length : Int) := by omega
  have q1 : (L.length : Int) ≤ 1001 := by omega
  have n0 : ¬ (L.length : Int) = 0 := by omega
  have n1 : ¬ (L.length : Int) = 1 := by omega
  have hI : halfI (L.length : Int) = (halfN L.length : Int) := by unfold halfI; rw [Int.toNat_natCast]
  rw [hI] at X1
  have hh2 := hh.2.2
  clear hI ES hTL hDL hh hsm
  go_enter Tryd.func40, Tryd.ntmps40
  go_upto_region 1 with fail
  rw [← hw1]
  have S1 : Hid _ := s1
  have R1 : Hid _ := r1
  have B1 : Hid _ := b1
  have SB : Hid _ := sb
  have HT : Hid _ := ht
  have HVL : Hid _ := hvl
  have HOB : Hid _ := ob
  clear hw1 hz32 s1 r1 b1 sa sb h ht hvl oa ob
  go_wp2_with fail
  refine X1.mono ?_
  rintro e w' ⟨rfl, hw⟩
  obtain rfl := hw.symm
  clear X1 hw
  go_upto_region 7 with fail
  refine wp_region_noPanic ?_
  refine wp_region_held_drew (S := fun w' => True) (by kernel_rfl) trivial (fun hHeld => ?_)
  refine take_op (i := 0) (v := ?va0) rfl (by kernel_rfl) (by kernel_rfl) (by kernel_rfl) (fun _ _ _ h => h) rfl hHeld ?ya0 ?ra0
  case ya0 => (intro wz hz; go_simp; first | done | with_reducible rfl)
  try simp only [Act.put, List.setIfInBounds_toArray, List.set_cons_zero, List.set_cons_succ]
  refine take_op (i := 1) (v := ?va1) rfl (by kernel_rfl) (by kernel_rfl) (by kernel_rfl) (fun _ _ _ h => h) rfl hHeld ?ya1 ?ra1
  case ya1 => (intro wz hz; go_simp; first | done | with_reducible rfl)
  try simp only [Act.put, List.setIfInBounds_toArray, List.set_cons_zero, List.set_cons_succ]
  refine take_op (i := 2) (v := ?va2) rfl (by kernel_rfl) (by kernel_rfl) (by kernel_rfl) (fun _ _ _ h => h) rfl hHeld ?ya2 ?ra2
  case ya2 => (intro wz hz; go_simp; first | done | with_reducible rfl)
  try simp only [Act.put, List.setIfInBounds_toArray, List.set_cons_zero, List.set_cons_succ]
  refine take_op (i := 3) (v := ?va3) rfl (by kernel_rfl) (by kernel_rfl) (by kernel_rfl) (fun _ _ _ h => h) rfl hHeld ?ya3 ?ra3
  case ya3 => (intro wz hz; go_simp; first | done | with_reducible rfl)
  try simp only [Act.put, List.setIfInBounds_toArray, List.set_cons_zero, List.set_cons_succ]
  refine take_op (i := 4) (v := ?va4) rfl (by kernel_rfl) (by kernel_rfl) (by kernel_rfl) (fun _ _ _ h => h) rfl hHeld ?ya4 ?ra4
  case ya4 => (intro wz hz; have hcz := ra wz; go_simp; first | done | with_reducible rfl)
  try simp only [Act.put, List.setIfInBounds_toArray, List.set_cons_zero, List.set_cons_succ]
  refine take_op (i := 6) (v := ?va6) rfl (by kernel_rfl) (by kernel_rfl) (by kernel_rfl) (fun _ _ _ h => h) rfl hHeld ?ya6 ?ra6
  case ya6 => (intro wz hz; go_simp; first | done | with_reducible rfl)
  try simp only [Act.put, List.setIfInBounds_toArray, List.set_cons_zero, List.set_cons_succ]
  refine take_op (i := 7) (v := ?va7) rfl (by kernel_rfl) (by kernel_rfl) (by kernel_rfl) (fun _ _ _ h => h) rfl hHeld ?ya7 ?ra7
  case ya7 => (intro wz hz; go_simp; first | done | with_reducible rfl)
  try simp only [Act.put, List.setIfInBounds_toArray, List.set_cons_zero, List.set_cons_succ]
  refine take_op (i := 8) (v := ?va8) rfl (by kernel_rfl) (by kernel_rfl) (by kernel_rfl) (fun _ _ _ h => h) rfl hHeld ?ya8 ?ra8
  case ya8 => (intro wz hz; go_simp; first | done | with_reducible rfl)
  try simp only [Act.put, List.setIfInBounds_toArray, List.set_cons_zero, List.set_cons_succ]
  refine take_op (i := 9) (v := ?va9) rfl (by kernel_rfl) (by kernel_rfl) (by kernel_rfl) (fun _ _ _ h => h) rfl hHeld ?ya9 ?ra9
  case ya9 => (intro wz hz; have hcz := rb wz; go_simp; first | done | with_reducible rfl)
  try simp only [Act.put, List.setIfInBounds_toArray, List.set_cons_zero, List.set_cons_succ]
  refine take_one (i := 5) rfl (by kernel_rfl) rfl (fun K hK => ?_)
  go_simp
  refine Calls.mono XA ?_
  rintro e w5 ⟨rfl, k5, f5⟩
  clear XA
  have s1 := S1.out
  have s5 : w1.heap.size ≤ w5.heap.size := f5.size
  have f5' : Fr F w1 w5 := ((Fr.refl F w1).drew).trans f5 (fun _ _ h => h)
  have hvF' : ∀ j, (Value.slice va L.length vc).ownBlock = some j → ¬ F j := hvF (by omega)
  have sb5 : sumsAt w5 _ DL := sumsAt.far SB.out (fun _ j hj hl => (f5'.block j (by omega) (hvF' j (HOB.out ▸ hj))).trans (B1.out.block j hl)) (by omega)
  have t5 : tabIs w5 := tabIs.far HT.out ((f5'.block 1 (by have := HT.out.1; omega) hF0).trans (B1.out.block 1 HT.out.1)) (by omega)
  have r5 : w5.rowIs w.heap.size 32 32 (fun _ => .int .u8 0) := World.rowIs.of_block R1.out (f5'.block _ (by omega) HFW.out)
  have XB := ih (Gr F w1.drew w5) k (rootN N TL) (c + callsR TL.length) DL _ w5 (by omega) (by omega) k5 sb5 (fun _ j hj hg => by
    rcases hg with hg | hg
    · exact hvF' j (HOB.out ▸ hj) hg
    · have h1 : w1.heap.size ≤ j := hg.1
      have := HVL.out j (HOB.out ▸ hj); omega) t5 (fun hg => by
    rcases hg with hg | hg
    · exact hF0 hg
    · have h1 : w1.heap.size ≤ 1 := hg.1
      have h9 := HT.out.1
      omega) (by have := HLN.out.1; omega) ⟨by omega, by omega⟩
  unfold sumV at XB
  refine hK.out _ _ trivial (fun hHeld => ?_)
  clear hK K
  try simp only [Act.put, List.setIfInBounds_toArray, List.set_cons_zero, List.set_cons_succ]
  refine take_one (i := 10) rfl (by kernel_rfl) rfl (fun K hK => ?_)
  go_simp
  refine Calls.mono XB ?_
  rintro e w10 ⟨rfl, k10, f10⟩
  clear XB
  have s10 := f10.size
  have hnw : ¬ Gr F w1.drew w5 w.heap.size := fun hg => by
    rcases hg with hg | hg
    · exact HFW.out hg
    · have h1 : w1.heap.size ≤ w.heap.size := hg.1
      omega
  have n010 : ¬ Gr (Gr F w1.drew w5) w5 w10 1 := fun hg => by
    rcases hg with (hg | hg) | hg
    · exact hF0 hg
    · have h1 : w1.heap.size ≤ 1 := hg.1
      have h9 := HT.out.1
      omega
    · have := hg.1; have := HT.out.1; omega
  have t10 : tabIs w10 := tabIs.far t5 (f10.block 1 t5.1 (fun hg => n010 (Or.inl hg))) s10
  have r10 : w10.rowIs w.heap.size 32 32 (fun _ => .int .u8 0) := World.rowIs.of_block r5 (f10.block _ (by omega) hnw)
  have f10' : Fr F w1 w10 := f5'.trans f10 (fun j hj hg => by
    rcases hg with hg | hg
    · exact hg
    · have h1 : w1.heap.size ≤ j := hg.1
      omega)
  refine hK.out _ _ trivial (fun hHeld => ?_)
  clear hK K
  try simp only [Act.put, List.setIfInBounds_toArray, List.set_cons_zero, List.set_cons_succ]
  refine take_one (i := 11) rfl (by kernel_rfl) rfl (fun K hK => ?_)
  refine wp_of_run (exec_bslice2' 39 2 0 1 (.tmp 25) (.tmp 30) _ _ rfl rfl rfl (build_two (arrV (rootS TL)) (arrV (rootS DL)) w10)) ?_
  refine hK.out _ _ trivial (fun hHeld => ?_)
  clear hK K
  try simp only [Act.put, List.setIfInBounds_toArray, List.set_cons_zero, List.set_cons_succ]
  have b11 : Below w10.heap.size w10 (w10.alloc (.cells (rowV 64 (fun j => if j < 32 then arrV (rootS TL) j else arrV (rootS DL) (j - 32))) 32)) := (Below.refl _ _).alloc (Nat.le_refl _) _
  have XC := node_book (Gr (Gr F w1.drew w5) w5 w10) k (rootN (rootN N TL) DL) (c + callsR TL.length + callsR DL.length) [rootS TL, rootS DL] _ _ (k10.below b11 (Nat.le_refl _)) (two_sums w10 _ _ hsT hsD) (by simp) (t10.below b11 t10.1) n010 (by have := HLN.out; omega) ⟨by omega, by omega⟩
  unfold sumV at XC
  refine take_one (i := 12) rfl (by kernel_rfl) rfl (fun K hK => ?_)
  go_simp
  refine Calls.mono XC ?_
  rintro e w12 ⟨rfl, k12, f12⟩
  clear XC
  have s11 := b11.size
  have s12 := f12.size
  have r12 : w12.rowIs w.heap.size 32 32 (fun _ => .int .u8 0) := World.rowIs.of_block r10 ((f12.block _ (by omega) (fun hg => by
    rcases hg with hg | hg
    · exact hnw hg
    · have := hg.1; omega)).trans (b11.block _ (by omega)))
  have f12' : Fr F w1 w12 := (f10'.trans (Fr.of_below F b11) (fun _ _ h => h)).trans f12 (fun j hj hg => by
    rcases hg with (hg | hg) | hg
    · exact hg
    · have h1 : w1.heap.size ≤ j := hg.1
      omega
    · have := hg.1; omega)
  rw [← HES.out] at k12 ⊢
  refine hK.out _ _ trivial (fun hHeld => ?_)
  clear hK K
  try simp only [Act.put, List.setIfInBounds_toArray, List.set_cons_zero, List.set_cons_succ]
  refine take_one (i := 13) rfl (by kernel_rfl) rfl (fun K hK => ?_)
  have hst := stow32T_run w12 w.heap.size (rootS L) r12
  have h9 := stow32T_row w12 w.heap.size (rootS L) r12
  have r9 := h9.1
  have hz9 := h9.2.1
  have hb9 := h9.2.2
  clear h9
  unfold Oper.wp execOp
  simp only [Instr.storeAt, Instr.sureAddr, Sem.run_bind, Sem.run_pure, Result.andThen_ok]
  simp [Act.eval, hst, Oper.upon]
  clear hst
  generalize w12.setCells w.heap.size 0 (rowV 32 (arrV (rootS L))).toList = w9 at r9 hz9 hb9 ⊢
  refine hK.out _ _ trivial (fun hHeld => ?_)
  clear hK K hHeld
  try simp only [Act.put, List.setIfInBounds_toArray, List.set_cons_zero, List.set_cons_succ]
  refine wpAnyH_done (by kernel_rfl) ?_ _
  refine NoPanic.normal ?_
  have RES : Hid (bookAt w9 (Gr F w w9) k (rootN N L) (c + callsR L.length) ∧ Fr F w w9) := (show bookAt w9 (Gr F w w9) k (rootN N L) (c + callsR L.length) ∧ Fr F w w9 from by
    constructor
    · rw [HEN.out, HEC.out, ← HES.out, show c + (callsR TL.length + callsR DL.length + 1) = c + callsR TL.length + callsR DL.length + 1 by omega]
      refine (bookAt.far k12 (fun j hj hl => hb9.block j hl (fun e => ?_)) (by omega)).grow (fun j hj => ?_) (fun j hj => ?_)
      · subst e
        rcases hj with hj | hj
        · rcases hj with hj | hj
          · exact hnw hj
          · have := hj.1; omega
        · have := hj.1; omega
      · rcases hj with ((hj | hj) | hj) | hj
        · exact Or.inl hj
        · have h1 : w1.heap.size ≤ j := hj.1
          exact Or.inr ⟨by omega, by have := hj.2; omega⟩
        · exact Or.inr ⟨by have := hj.1; omega, by have := hj.2; omega⟩
        · exact Or.inr ⟨by have := hj.1; omega, by have := hj.2; omega⟩
      · rcases hj with hj | hj
        · have := HLT.out j hj; omega
        · exact hj.2
    · exact ((Fr.of_below F B1.out).trans f12' (fun _ _ h => h)).trans (G := fun j => j = w.heap.size) ⟨hb9.os, hb9.tape, hb9.output, by omega, fun j hj hne => hb9.block j hj hne⟩ (fun j hj e => by omega))
  clear k12 f12 f12' f10 f10' f5 f5' k10 k5 hb9 r12 r10 r5 t5 t10 b11
  go_wp2
  exact bodyPost_ret (results_cell_seg rfl _ _ w.heap.size 32 32 (arrV (rootS L)) _ rfl Tryd.underlying32 rfl hi32' r9) rfl ⟨rfl, RES.out.1, RES.out.2⟩
end Go.Proofs.YtkgegihkhdgdoaaDoor

/- tree.Root: of two leaves and more. -/
namespace Go.Proofs.YtkgegihkhdgdoaaDoor
set_option linter.unusedSimpArgs false
set_option linter.unusedVariables false
open Go.RowKit Go.Deep

set_option maxHeartbeats 4000000 in
set_option maxRecDepth 100000 in
theorem root_nil : ∀ (n : Nat) (L : List (List Int)) (v : Value) (w : World), L.length ≤ n → n ≤ 1000 → sumsAt w v L → tabIs w →
    Calls Tryd.prog 40 #[.pointer none, v] w fun e w' => e = .returned (sumV (rootS L)) ∧ Below w.heap.size w w' := by
  intro n
  induction n with
  | zero =>
    intro L v w hn h1000 h ht
    exact root_nil_small L v w (by omega) h ht
  | succ n ih =>
  intro L v w hn h1000 h ht
  by_cases hsm : L.length ≤ 1
  · exact root_nil_small L v w hsm h ht
  have h2 : 2 ≤ L.length := by omega
  have hh := half_take h2
  have hz32 := zero_s32
  obtain ⟨w1, hw1⟩ : ∃ w1, w1 = w.alloc (.cells (rowV 32 (fun _ => .int .u8 0)) 32) := ⟨_, rfl⟩
  have r1 : w1.rowIs w.heap.size 32 32 (fun _ => .int .u8 0) := by rw [hw1]; exact rowIs_box w _ _ _
  have b1 : Below w.heap.size w w1 := by rw [hw1]; exact (Below.refl _ _).alloc (Nat.le_refl _) _
  have s1 : w1.heap.size = w.heap.size + 1 := by rw [hw1]; simp
  have X1 := half_any (L.length : Int) (by omega) (by omega) w1
  obtain ⟨ua, ra, sa, oa, xa, ya, rfl⟩ := h.to' (halfN L.length) (by omega)
  obtain ⟨ub, rb, sb, ob, xb, yb, rfl⟩ := h.from' (halfN L.length) (by omega)
  have hvl : ∀ j, v.ownBlock = some j → j < w.heap.size := by
    obtain ⟨_, a, cap, rfl, _, _, h5⟩ := h
    obtain ⟨g, o, rfl, hg, _⟩ := h5 (by omega)
    intro j hj
    have : g = j := by simpa [Value.ownBlock] using hj
    omega
  obtain ⟨TL, hTL⟩ : ∃ TL, TL = L.take (halfN L.length) := ⟨_, rfl⟩
  obtain ⟨DL, hDL⟩ : ∃ DL, DL = L.drop (halfN L.length) := ⟨_, rfl⟩
  have ES : rootS L = nodeS [rootS TL, rootS DL] := by rw [hTL, hDL]; exact rootS_more h2
  have hsT : isSum (rootS TL) := rootS_sum (by rw [hTL]; exact sa.1)
  have hsD : isSum (rootS DL) := rootS_sum (by rw [hDL]; exact sb.1)
  have lT : TL.length = halfN L.length := by rw [hTL]; exact hh.1
  have lD : DL.length = L.length - halfN L.length := by rw [hDL]; exact hh.2.1
  rw [← hTL] at sa
  rw [← hDL] at sb
  have XA := ih TL _ w1.drew (by omega) (by omega) ((sa.below b1 (Nat.le_refl _)).below ((Below.refl _ _).drew) (Nat.le_refl _)) ((ht.below b1 ht.1).below ((Below.refl _ _).drew) (by have := ht.1; omega))
  unfold sumV at XA ⊢
  have HES : Hid _ := ES
  have hsl : ∃ a cap, v = .slice a L.length cap := by
    obtain ⟨_, a, cap, e, _⟩ := h; exact ⟨a, cap, e⟩
  obtain ⟨va, vc, rfl⟩ := hsl
  have q0 : (2 : Int) ≤ (L.length : Int) := by omega
  have q1 : (L.length : Int) ≤ 1001 := by omega
  have n0 : ¬ (L.length : Int) = 0 := by omega
  have n1 : ¬ (L.length : Int) = 1 := by omega
  have hI : halfI (L.length : Int) = (halfN L.length : Int) := by unfold halfI; rw [Int.toNat_natCast]
  rw [hI] at X1
  have hh2 := hh.2.2
  clear hI ES hTL hDL hh hsm
  go_enter Tryd.func40, Tryd.ntmps40
  go_upto_region 1 with fail
  rw [← hw1]
  have S1 : Hid _ := s1
  have R1 : Hid _ := r1
  have B1 : Hid _ := b1
  have SB : Hid _ := sb
  have HT : Hid _ := ht
  have HVL : Hid _ := hvl
  have HOB : Hid _ := ob
  clear hw1 hz32 s1 r1 b1 sa sb h ht hvl oa ob
  go_wp2_with fail
  refine X1.mono ?_
  rintro e w' ⟨rfl, hw⟩
  obtain rfl := hw.symm
  clear X1 hw
  go_upto_region 7 with fail
  refine wp_region_noPanic ?_
  refine wp_region_held_drew (S := fun w' => True) (by kernel_rfl) trivial (fun hHeld => ?_)
  refine take_op (i := 0) (v := ?va0) rfl (by kernel_rfl) (by kernel_rfl) (by kernel_rfl) (fun _ _ _ h => h) rfl hHeld ?ya0 ?ra0
  case ya0 => (intro wz hz; go_simp; first | done | with_reducible rfl)
  try simp only [Act.put, List.setIfInBounds_toArray, List.set_cons_zero, List.set_cons_succ]
  refine take_op (i := 1) (v := ?va1) rfl (by kernel_rfl) (by kernel_rfl) (by kernel_rfl) (fun _ _ _ h => h) rfl hHeld ?ya1 ?ra1
  case ya1 => (intro wz hz; go_simp; first | done | with_reducible rfl)
  try simp only [Act.put, List.setIfInBounds_toArray, List.set_cons_zero, List.set_cons_succ]
  refine take_op (i := 2) (v := ?va2) rfl (by kernel_rfl) (by kernel_rfl) (by kernel_rfl) (fun _ _ _ h => h) rfl hHeld ?ya2 ?ra2
  case ya2 => (intro wz hz; go_simp; first | done | with_reducible rfl)
  try simp only [Act.put, List.setIfInBounds_toArray, List.set_cons_zero, List.set_cons_succ]
  refine take_op (i := 3) (v := ?va3) rfl (by kernel_rfl) (by kernel_rfl) (by kernel_rfl) (fun _ _ _ h => h) rfl hHeld ?ya3 ?ra3
  case ya3 => (intro wz hz; go_simp; first | done | with_reducible rfl)
  try simp only [Act.put, List.setIfInBounds_toArray, List.set_cons_zero, List.set_cons_succ]
  refine take_op (i := 4) (v := ?va4) rfl (by kernel_rfl) (by kernel_rfl) (by kernel_rfl) (fun _ _ _ h => h) rfl hHeld ?ya4 ?ra4
  case ya4 => (intro wz hz; have hcz := ra wz; go_simp; first | done | with_reducible rfl)
  try simp only [Act.put, List.setIfInBounds_toArray, List.set_cons_zero, List.set_cons_succ]
  refine take_op (i := 6) (v := ?va6) rfl (by kernel_rfl) (by kernel_rfl) (by kernel_rfl) (fun _ _ _ h => h) rfl hHeld ?ya6 ?ra6
  case ya6 => (intro wz hz; go_simp; first | done | with_reducible rfl)
  try simp only [Act.put, List.setIfInBounds_toArray, List.set_cons_zero, List.set_cons_succ]
  refine take_op (i := 7) (v := ?va7) rfl (by kernel_rfl) (by kernel_rfl) (by kernel_rfl) (fun _ _ _ h => h) rfl hHeld ?ya7 ?ra7
  case ya7 => (intro wz hz; go_simp; first | done | with_reducible rfl)
  try simp only [Act.put, List.setIfInBounds_toArray, List.set_cons_zero, List.set_cons_succ]
  refine take_op (i := 8) (v := ?va8) rfl (by kernel_rfl) (by kernel_rfl) (by kernel_rfl) (fun _ _ _ h => h) rfl hHeld ?ya8 ?ra8
  case ya8 => (intro wz hz; go_simp; first | done | with_reducible rfl)
  try simp only [Act.put, List.setIfInBounds_toArray, List.set_cons_zero, List.set_cons_succ]
  refine take_op (i := 9) (v := ?va9) rfl (by kernel_rfl) (by kernel_rfl) (by kernel_rfl) (fun _ _ _ h => h) rfl hHeld ?ya9 ?ra9
  case ya9 => (intro wz hz; have hcz := rb wz; go_simp; first | done | with_reducible rfl)
  try simp only [Act.put, List.setIfInBounds_toArray, List.set_cons_zero, List.set_cons_succ]
  refine take_one (i := 5) rfl (by kernel_rfl) rfl (fun K hK => ?_)
  go_simp
  refine Calls.mono XA ?_
  rintro e w5 ⟨rfl, b5⟩
  clear XA
  have s1 := S1.out
  have b5' : Below w1.heap.size w1 w5 := ((Below.refl w1.heap.size w1).drew).trans b5
  have b5w : Below w.heap.size w w5 := B1.out.trans (b5'.mono (by omega))
  have s5 := b5'.size
  have XB := ih DL _ w5 (by omega) (by omega) (sumsAt.below SB.out b5w (Nat.le_refl _)) (tabIs.below HT.out b5w HT.out.1)
  unfold sumV at XB
  refine hK.out _ _ trivial (fun hHeld => ?_)
  clear hK K
  try simp only [Act.put, List.setIfInBounds_toArray, List.set_cons_zero, List.set_cons_succ]
  refine take_one (i := 10) rfl (by kernel_rfl) rfl (fun K hK => ?_)
  go_simp
  refine Calls.mono XB ?_
  rintro e w10 ⟨rfl, b10⟩
  clear XB
  have b10w : Below w.heap.size w w10 := b5w.trans (b10.mono (by omega))
  have s10 := b10.size
  have r10 : w10.rowIs w.heap.size 32 32 (fun _ => .int .u8 0) := b10.row (b5'.row R1.out (by omega)) (by omega)
  refine hK.out _ _ trivial (fun hHeld => ?_)
  clear hK K
  try simp only [Act.put, List.setIfInBounds_toArray, List.set_cons_zero, List.set_cons_succ]
  refine take_one (i := 11) rfl (by kernel_rfl) rfl (fun K hK => ?_)
  refine wp_of_run (exec_bslice2' 39 2 0 1 (.tmp 25) (.tmp 30) _ _ rfl rfl rfl (build_two (arrV (rootS TL)) (arrV (rootS DL)) w10)) ?_
  refine hK.out _ _ trivial (fun hHeld => ?_)
  clear hK K
  try simp only [Act.put, List.setIfInBounds_toArray, List.set_cons_zero, List.set_cons_succ]
  have b11 : Below w10.heap.size w10 (w10.alloc (.cells (rowV 64 (fun j => if j < 32 then arrV (rootS TL) j else arrV (rootS DL) (j - 32))) 32)) := (Below.refl _ _).alloc (Nat.le_refl _) _
  have XC := node_nil [rootS TL, rootS DL] _ _ (two_sums w10 _ _ hsT hsD) (by simp) ((tabIs.below HT.out b10w HT.out.1).below b11 (by have := HT.out.1; have := b10w.size; omega))
  unfold sumV at XC
  refine take_one (i := 12) rfl (by kernel_rfl) rfl (fun K hK => ?_)
  go_simp
  refine Calls.mono XC ?_
  rintro e w12 ⟨rfl, b12⟩
  clear XC
  have s11 := b11.size
  have s12 := b12.size
  have b12w : Below w.heap.size w w12 := (b10w.trans (b11.mono (by omega))).trans (b12.mono (by omega))
  have r12 : w12.rowIs w.heap.size 32 32 (fun _ => .int .u8 0) := b12.row (b11.row r10 (by omega)) (by omega)
  rw [← HES.out]
  refine hK.out _ _ trivial (fun hHeld => ?_)
  clear hK K
  try simp only [Act.put, List.setIfInBounds_toArray, List.set_cons_zero, List.set_cons_succ]
  refine take_one (i := 13) rfl (by kernel_rfl) rfl (fun K hK => ?_)
  have hst := stow32T_run w12 w.heap.size (rootS L) r12
  have h9 := stow32T_row w12 w.heap.size (rootS L) r12
  have r9 := h9.1
  have hz9 := h9.2.1
  have hb9 := h9.2.2
  clear h9
  unfold Oper.wp execOp
  simp only [Instr.storeAt, Instr.sureAddr, Sem.run_bind, Sem.run_pure, Result.andThen_ok]
  simp [Act.eval, hst, Oper.upon]
  clear hst
  generalize w12.setCells w.heap.size 0 (rowV 32 (arrV (rootS L))).toList = w9 at r9 hz9 hb9 ⊢
  refine hK.out _ _ trivial (fun hHeld => ?_)
  clear hK K hHeld
  try simp only [Act.put, List.setIfInBounds_toArray, List.set_cons_zero, List.set_cons_succ]
  refine wpAnyH_done (by kernel_rfl) ?_ _
  refine NoPanic.normal ?_
  have RES : Hid (Below w.heap.size w w9) := (show Below w.heap.size w w9 from b12w.trans (hb9.below' (Nat.le_refl _) b12w.size))
  clear b12w b12 b11 b10 b10w b5 b5w b5' hb9 r12 r10
  go_wp2
  exact bodyPost_ret (results_cell_seg rfl _ _ w.heap.size 32 32 (arrV (rootS L)) _ rfl Tryd.underlying32 rfl hi32' r9) rfl ⟨rfl, RES.out⟩
end Go.Proofs.YtkgegihkhdgdoaaDoor

/- Clash. -/
namespace Go.Proofs.YtkgegihkhdgdoaaDoor
set_option linter.unusedSimpArgs false
set_option linter.unusedVariables false
open Go.RowKit Go.Deep

/-- which notes clash: behind those of A. -/
def clashGo (A : List Nt) : List Nt → Option (ByteArray × ByteArray)
  | [] => none
  | x :: r => if (firstAt A x.1).isSome = true ∧ foundN A x.1 ≠ x then some ((foundN A x.1).2, x.2) else clashGo (addN A x) r
/-- the notes of the books from place i on. -/
def joinF (ns : Nat → List Nt) (i : Nat) : Nat → List Nt
  | 0 => []
  | k + 1 => ns i ++ joinF ns (i + 1) k
/-- v is a slice of books, nil ones among them. -/
def isBooks (w : World) (v : Value) (n : Nat) (ns : Nat → List Nt) : Prop :=
  (v = .slice none 0 0 ∧ n = 0) ∨ ∃ (qb qo cap : Nat) (pv : Nat → Value), v = .slice (some ⟨qb, qo, none⟩) n cap ∧ qb < w.heap.size ∧ n ≤ maxLen ∧ ∀ i, i < n → w.cell? ⟨qb, qo + i, none⟩ = some (pv i) ∧
    ((pv i = .pointer none ∧ ns i = []) ∨ ∃ (k : Nat) (F : Nat → Prop) (c : Int), pv i = .pointer (some ⟨k, 0, none⟩) ∧ bookAt w F k (ns i) c)
theorem isBooks.open {w : World} {v : Value} {n : Nat} {ns : Nat → List Nt} (h : isBooks w v n ns) :
    ∃ a cap, v = .slice a n cap ∧ n ≤ maxLen ∧ ∀ i, i < n → ∃ qb qo pv, a = some ⟨qb, qo, none⟩ ∧ qb < w.heap.size ∧ w.cell? ⟨qb, qo + i, none⟩ = some pv ∧
    ((pv = .pointer none ∧ ns i = []) ∨ ∃ (k : Nat) (F : Nat → Prop) (c : Int), pv = .pointer (some ⟨k, 0, none⟩) ∧ bookAt w F k (ns i) c) := by
  rcases h with ⟨rfl, rfl⟩ | ⟨qb, qo, cap, pv, rfl, h2, h3, h4⟩
  · exact ⟨_, _, rfl, Nat.zero_le _, fun k hk => by omega⟩
  · exact ⟨_, _, rfl, h3, fun k hk => ⟨qb, qo, pv k, rfl, h2, (h4 k hk).1, (h4 k hk).2⟩⟩
/-- what Clash answers. -/
def clashAnsS (w' : World) (B : Nat) (va vb : Value) (fb : Bool) (r : Option (ByteArray × ByteArray)) : Prop := match r with
  | none => va = .slice none 0 0 ∧ vb = .slice none 0 0 ∧ fb = false
  | some (s, t) => softB w' va (sBytes s) ∧ softB w' vb (sBytes t) ∧ (∀ j, va.ownBlock = some j → B ≤ j) ∧ (∀ j, vb.ownBlock = some j → B ≤ j) ∧ fb = true
def clashAns (w' : World) (B : Nat) (va vb : Value) (fb : Bool) (r : Option (ByteArray × ByteArray)) : Prop := match r with
  | none => va = .slice none 0 0 ∧ vb = .slice none 0 0 ∧ fb = false
  | some (s, t) => isBytes w' va (sBytes s) ∧ isBytes w' vb (sBytes t) ∧ (∀ j, va.ownBlock = some j → B ≤ j) ∧ (∀ j, vb.ownBlock = some j → B ≤ j) ∧ fb = true
/-- the notes ahead. -/
def aheadAt (w wr : World) (L : List Nt) (A R : List Nt) : Prop :=
  notesAt wr (fun j => w.heap.size ≤ j ∧ j < wr.heap.size) w.heap.size A 0 ∧ Below w.heap.size w wr ∧ clashGo [] L = clashGo A R ∧ A.length + R.length ≤ L.length ∧ ∀ x ∈ A, x.2.size ≤ 1000000000
theorem isBytes.below' {w w' : World} {v : Value} {l : List Int} (h : isBytes w v l) (hb : Below w.heap.size w w') : isBytes w' v l := h.below hb (Nat.le_refl _)

end Go.Proofs.YtkgegihkhdgdoaaDoor

/- Where a clash is told, and where none is. Plain mathematics (of any seat). -/
namespace Go.Proofs.YtkgegihkhdgdoaaDoor
set_option linter.unusedSimpArgs false
set_option linter.unusedVariables false
open Go.RowKit Go.Deep

end Go.Proofs.YtkgegihkhdgdoaaDoor

/- Preimages are told apart. Plain mathematics. -/
namespace Go.Proofs.YtkgegihkhdgdoaaDoor
set_option linter.unusedSimpArgs false
set_option linter.unusedVariables false
open Go.RowKit Go.Deep

/-- the parts from place i on. -/
def flatF (ps : Nat → List Int) (i : Nat) : Nat → List Int
  | 0 => []
  | k + 1 => blobB (ps i) ++ flatF ps (i + 1) k
end Go.Proofs.YtkgegihkhdgdoaaDoor

/- What a root binds. Plain mathematics. -/
namespace Go.Proofs.YtkgegihkhdgdoaaDoor
set_option linter.unusedSimpArgs false
set_option linter.unusedVariables false
open Go.RowKit Go.Deep

def ntOf (L : List (List Int)) : Nt := (nodeS L, nodeT L)
theorem addN_le (N : List Nt) (x : Nt) : N.length ≤ (addN N x).length ∧ (addN N x).length ≤ N.length + 1 := by
  by_cases e : x ∈ N
  · rw [addN_in e]; omega
  · rw [addN_out e]; simp
/-- no sum has unlike texts here and there. -/
def noClash (A B : Nt → Prop) : Prop := ∀ x y, A x → B y → x.1 = y.1 → x = y
end Go.Proofs.YtkgegihkhdgdoaaDoor

/- A range over a function that hands out a known list, whose rounds always go on. -/
namespace Go.Proofs.YtkgegihkhdgdoaaDoor
open Go.RowKit Go.Shelf

/-- an iterator that hands out ys, and turns nothing itself. -/
def hands {α : Type} (n : Nat) (P : Program) (gf : Nat) (lb : Array Value) (encs : α → Array Value) (ys : List α) (w : World) : Prop :=
  ∀ (l : Nat) (J : Nat → World → Prop) (W : World), Below w.heap.size w W → (∀ k W, J k W → J k W.drew) → J 0 W →
    (∀ k (hk : k < ys.length) W1, J k W1 → YieldAt Fence.wide (n - 1) P l (encs ys[k]) W1 fun e W' => e = .returned (.bool true) ∧ J (k + 1) W') →
    CallsIn Fence.wide n P gf (#[.func (.yield l) #[] #[]] ++ lb) W fun e W' => (∃ v, e = .returned v) ∧ J ys.length W'

/-- behind a round's body: it goes on, what is no cells lies as it lay. -/
def goesOn (I : Nat → World → Prop) (k : Nat) (W : World) : Exit → Act → World → Prop
  | .normal, _, W' => KeepsOthers W W' ∧ I k W'
  | _, _, _ => False

theorem wpIn_range_list {α : Type} {n : Nat} {P : Program} {g : Operand} {ps : Array Tmp} {assign body : Code} {Q : Exit → Act → World → Prop} {a : Act} {w : World}
    {gf : Nat} {lb : Array Value} (hg : a.eval g = .func (.func gf) #[] lb) (eg : ∀ args w, (callFunc gf args).run P w = .ok (.enter gf args) w)
    {encs : α → Array Value} {ys : List α} (hseq : hands (n - 1) P gf lb encs ys w) (hps : ∀ x, (encs x).size = ps.size)
    (I : Nat → World → Prop) (hI : OwnFrom w.heap.size I) (hd : ∀ k W, I k W → I k W.drew) (h0 : I 0 w) (a₁ : α → Act)
    (hassign : ∀ (l : Nat) (x : α) (W : World) (K : Act → World → Prop), K (a₁ x) W →
      assign.wpIn (Fence.wide.inRound l) (n - 1 - 1) P (Exit.then K (fun _ _ _ => False)) { tmps := (ps.zip (encs x)).foldl (fun t (p, v) => t.setIfInBounds p v) a.tmps, defers := [] } W)
    (hbody : ∀ (l k : Nat) (hk : k < ys.length) (W : World), I k W → body.wpIn (Fence.wide.inRound l) (n - 1 - 1) P (goesOn I (k + 1) W) (a₁ ys[k]) W)
    (hdone : ∀ (D : Nat) (W : World), w.heap.size ≤ D → I ys.length W → W.heap[D]? = some (.deferred (some [])) → Q .normal { a with defers := { target := .collected D, args := #[] } :: a.defers } W) :
    (Code.rangeFunc g ps assign body).wpIn Fence.wide n P Q a w := by
  refine wpIn_rangeFunc fun fn hfn => ?_
  -- the record of the loop, in its two states
  obtain ⟨mk, hmk⟩ : ∃ mk : LoopState → Loop, mk = fun st => { state := st, pending := none, fn, tmps := a.tmps, params := ps, assign, body, defers := w.heap.size } := ⟨_, rfl⟩
  obtain ⟨W1, hW1⟩ : ∃ W1, W1 = (w.alloc (.deferred (some []))).alloc (.loop (mk .ready)) := ⟨_, rfl⟩
  have b1 : Below w.heap.size w W1 := by rw [hW1]; exact ((Below.refl _ _).alloc (Nat.le_refl _) _).alloc (by simp) _
  have c1 : W1.heap[w.heap.size + 1]? = some (.loop (mk .ready)) := by
    rw [hW1]; have := World.alloc_heap_new (w.alloc (.deferred (some []))) (.loop (mk .ready)); rwa [World.size_alloc] at this
  have d1 : W1.heap[w.heap.size]? = some (.deferred (some [])) := by
    rw [hW1]; exact (Below.heap_alloc _ _ _ (by simp)).trans (World.alloc_heap_new w _)
  have i1 : I 0 W1 := by rw [hW1]; exact hI.alloc _ (hI.alloc _ h0)
  refine ⟨w.heap.size + 1, [{ target := .collected w.heap.size, args := #[] }], W1, { target := .fn (.func gf) lb, args := #[.func (.yield (w.heap.size + 1)) #[] #[]] }, W1, gf, #[.func (.yield (w.heap.size + 1)) #[] #[]] ++ lb, W1, ?_, ?_, ?_, ?_, ?_, ?_⟩
  · rw [hW1, hmk]; exact run_enterLoop_outer _ _ _ _ _
  · simp only [resolve, hg]; simp [go_sem]
  · exact fun _ _ => trivial
  · simp [invoke, go_sem, eg]
  · exact fun h => absurd h (by simp [Fence.wide])
  · refine (hseq (w.heap.size + 1) (fun k W => I k W ∧ W.heap[w.heap.size + 1]? = some (.loop (mk .ready)) ∧ W.heap[w.heap.size]? = some (.deferred (some []))) W1 b1 (fun k W h => ⟨hd k W h.1, h.2⟩) ⟨i1, c1, d1⟩ ?_).mono ?_
    · rintro k hk W ⟨hi, hl, hD⟩
      have hlt : w.heap.size + 1 < W.heap.size := (Array.getElem?_eq_some_iff.1 hl).1
      have hy := run_yield (P := P) (args := encs ys[k]) hl (by rw [hmk]; exact hps _)
      have hbg := run_beginRound (P := P) hl (by rw [hmk])
      obtain ⟨W2, hW2⟩ : ∃ W2, W2 = W.putObj (w.heap.size + 1) (.loop { mk .ready with state := .busy }) := ⟨_, rfl⟩
      rw [← hW2] at hbg
      have l2 : W2.heap[w.heap.size + 1]? = some (.loop { mk .ready with state := .busy }) := by rw [hW2]; exact World.putObj_heap_same hlt
      have e2 : W2.heap[w.heap.size]? = some (.deferred (some [])) := by rw [hW2]; exact (World.putObj_heap_other (by omega)).trans hD
      have i2 : I k W2 := by rw [hW2]; exact hI.putObj _ hi (by omega) hl rfl
      have hrec : mk .ready = { state := .ready, pending := none, fn := fn, tmps := a.tmps, params := ps, assign := assign, body := body, defers := w.heap.size } := by rw [hmk]
      rw [hrec] at hy
      refine ⟨fn, _, assign, body, hy, roundIn_of_wpIn hfn (hassign _ ys[k] W _ ⟨W2, hbg, wpIn_mono (hbody _ k hk W2 i2) ?_⟩)⟩
      rintro e a3 W3 hp
      cases e with
      | normal =>
        obtain ⟨hko, hi3⟩ := hp
        have l3 := hko.same _ _ l2 rfl
        have hen := run_endRound (P := P) none l3
        refine ⟨_, _, hen, rfl, hI.putObj _ hi3 (by omega) l3 rfl, ?_, (World.putObj_heap_other (by omega)).trans (hko.same _ _ e2 rfl)⟩
        rw [World.putObj_heap_same (Array.getElem?_eq_some_iff.1 l3).1, hrec]; rfl
      | ret => exact hp.elim
      | exit id => exact hp.elim
      | goto t => exact hp.elim
      | panic ch => exact hp.elim
      | outgrown => exact hp.elim
    · rintro e W2 ⟨⟨v, rfl⟩, hi, hl, hD⟩
      have hen := run_endLoop (P := P) hl (by rw [hmk]; simp)
      exact ⟨_, _, hen, by rw [hmk]; exact hdone _ _ (Nat.le_refl _) (hI.putObj _ hi (by omega) hl rfl) ((World.putObj_heap_other (by omega)).trans hD)⟩
end Go.Proofs.YtkgegihkhdgdoaaDoor

/- A region in a round of a range over a function, by its plain walk; a range whose body keeps what the call has made. -/
namespace Go.Proofs.YtkgegihkhdgdoaaDoor
open Go.RowKit Go.Shelf

/-- Q at the normal end alone. -/
def Calm (Q : Exit → Act → World → Prop) : Exit → Act → World → Prop
  | .normal, a, w => Q .normal a w
  | _, _, _ => False
theorem Calm.no {Q : Exit → Act → World → Prop} (h : LetsOut (Calm Q)) : False := by obtain ⟨_, _, h⟩ := h; exact h
def plainOp (o : Oper) : Bool := match o.op with | .defer _ => false | _ => true
theorem plainOp_is {o : Oper} (h : plainOp o = true) : ∀ c, o.op ≠ .defer c := by
  intro c hc
  unfold plainOp at h
  rw [hc] at h
  cases h
section
variable {P : Program} {ops : Array Oper} {Q : Exit → Act → World → Prop} {S : World → Prop} {md : Region.Mode}
theorem operIn_of_wp {l n : Nat} {o : Oper} {a : Act} {w : World} {K : Act → World → Prop} (hd : plainOp o = true) (h : o.wp P a w K (Calm Q) ∨ (o.asks P a w ∧ LetsOut (Calm Q))) : o.wpIn (Fence.wide.inRound l) n P a w K Q := by
  rcases h with h | h
  · refine ⟨fun _ _ => trivial, ?_⟩
    rw [Oper.semAt_plain _ _ _ (plainOp_is hd)]
    unfold Oper.wp at h
    generalize (execOp a.eval o).run P w = r at h ⊢
    cases r with
    | ok x w' =>
      cases x <;> simp only [Oper.upon, Oper.uponIn] at h ⊢
      case value v => exact h
      case skip => exact h
      case defer d => exact h
      case enter f args =>
        refine ⟨fun h => absurd h (by simp [Fence.wide]), CallsIn.inRound l ((callsIn_wide.2 h).mono fun e w'' he => ?_)⟩
        cases e with
        | returned v => exact he
        | panicked ch => exact (he : False).elim
        | outgrown => exact (Calm.no he).elim
      case row row args =>
        refine ⟨fun h => absurd h (by simp [Fence.wide]), fun c cs _ => ?_⟩
        obtain ⟨v, w'', hv, hs⟩ := h c cs
        exact ⟨v, w'', hv, stepsIn_wide.2 hs⟩
    | halt x w' =>
      cases x <;> simp only [Oper.upon, Oper.uponIn] at h ⊢
      case panic v => exact (h : False).elim
  · exact (Calm.no h.2).elim
theorem wpAnyIn_of_held {l n : Nat} (hd : ops.all plainOp = true) : ∀ (fuel : Nat) (listed : Array Bool) (a : Act) (w : World), wpAnyH P md ops (Calm Q) S fuel listed a w → wpAnyIn (Fence.wide.inRound l) n P md ops Q fuel listed a w
  | 0, _, _, _, h => ⟨h.1, h.2⟩
  | fuel + 1, listed, a, w, h => ⟨fun hr => h.1 hr, fun i hi => by
    have h2 := h.2 i hi
    unfold wpOp at h2
    unfold wpOpIn
    cases ho : ops[i]? with
    | none => rw [ho] at h2; exact wpAnyIn_of_held hd fuel _ a w h2.2
    | some o =>
      rw [ho] at h2
      have hpo : plainOp o = true := by
        rw [Array.all_eq_true_iff_forall_mem] at hd
        exact hd o (Array.mem_of_getElem? ho)
      simp only at h2 ⊢
      split
      · rename_i hw
        rw [if_pos hw] at h2
        exact Oper.wpIn_mono (fun a' w' h' => wpAnyIn_of_held hd fuel _ a' w' h'.2) (operIn_of_wp hpo h2)
      · rename_i hw
        rw [if_neg hw] at h2
        exact ⟨fun _ _ => trivial, wpAnyIn_of_held hd fuel _ _ _ h2.2⟩⟩
/-- A REGION THAT DRAWS, IN A ROUND: walked as anywhere. -/
theorem wpIn_region_round {l n id : Nat} {a : Act} {w : World} (hm : P.follows .mixedOrders = true) (hd : ops.all plainOp = true) (hS : S w.drew)
    (h : S w.drew → wpAnyH P .any ops (Calm Q) S ops.size (Array.replicate ops.size false) a w.drew) : (Code.region id ops true).wpIn (Fence.wide.inRound l) n P Q a w :=
  wpIn_region_any hm (wpAnyIn_of_held hd _ _ _ _ (h hS))
end
/-- append in a fence, by what its run comes to. -/
theorem wpListIn_append_run {F : Fence} {n : Nat} {P : Program} {ops : Array Oper} {rest : List Oper} {o : Oper} {a : Act} {w w' : World} {Q : Exit → Act → World → Prop} {v y r : Value} (hgd : o.guard = none) (s x : Operand) (t : TypeId)
    (ho : o.op = Op.call { callee := Callee.builtin Builtin.append, args := #[s, x], argTypes := #[t, t] }) (hs : a.eval s = v) (hx : a.eval x = y)
    (hr : (Builtin.append_ #[t, t] o.type #[v, y]).run P w = .ok r w') (h : wpListIn F n P ops Q rest (a.put o.dst r) w') : wpListIn F n P ops Q (o :: rest) a w := by
  refine wpListIn_plain hgd fun K hK' => ?_
  unfold Oper.wpIn
  refine ⟨?_, ?_⟩
  · simp [Oper.about, ho, resolve, Target.leads, Sem.run_pure]
  · rw [Oper.semAt_plain F _ _ (by rw [ho]; intro c hc'; cases hc')]
    simp [execOp, ho, resolve, invoke, builtin, hs, hx, hr, Result.andThen]
    exact hK' _ _ h
/-- behind a round's body: it goes on, the loop's two blocks lie as they lay. -/
def goesAt (D : Nat) (I : Nat → World → Prop) (k : Nat) (W : World) : Exit → Act → World → Prop
  | .normal, _, W' => W'.heap[D]? = W.heap[D]? ∧ W'.heap[D + 1]? = W.heap[D + 1]? ∧ I k W'
  | _, _, _ => False
/-- A RANGE OVER A FUNCTION THAT HANDS OUT A KNOWN LIST, whose rounds always go on, and turn whatever they like but the loop's own two blocks. -/
theorem wpIn_range_at {α : Type} {n : Nat} {P : Program} {g : Operand} {ps : Array Tmp} {assign body : Code} {Q : Exit → Act → World → Prop} {a : Act} {w : World}
    {gf : Nat} {lb : Array Value} (hg : a.eval g = .func (.func gf) #[] lb) (eg : ∀ args w, (callFunc gf args).run P w = .ok (.enter gf args) w)
    {encs : α → Array Value} {ys : List α} (hseq : hands (n - 1) P gf lb encs ys w) (hps : ∀ x, (encs x).size = ps.size)
    (I : Nat → World → Prop) (hI : ∀ k W x y, I k W → W.heap[w.heap.size + 1]? = some (.loop x) → I k (W.putObj (w.heap.size + 1) (.loop y))) (hd : ∀ k W, I k W → I k W.drew) (h0 : ∀ o o', I 0 ((w.alloc o).alloc o')) (a₁ : α → Act)
    (hassign : ∀ (l : Nat) (x : α) (W : World) (K : Act → World → Prop), K (a₁ x) W →
      assign.wpIn (Fence.wide.inRound l) (n - 1 - 1) P (Exit.then K (fun _ _ _ => False)) { tmps := (ps.zip (encs x)).foldl (fun t (p, v) => t.setIfInBounds p v) a.tmps, defers := [] } W)
    (hbody : ∀ (l k : Nat) (hk : k < ys.length) (W : World) (x : Loop), I k W → W.heap[w.heap.size]? = some (.deferred (some [])) → W.heap[w.heap.size + 1]? = some (.loop x) → body.wpIn (Fence.wide.inRound l) (n - 1 - 1) P (goesAt w.heap.size I (k + 1) W) (a₁ ys[k]) W)
    (hdone : ∀ (W : World), I ys.length W → W.heap[w.heap.size]? = some (.deferred (some [])) → Q .normal { a with defers := { target := .collected w.heap.size, args := #[] } :: a.defers } W) :
    (Code.rangeFunc g ps assign body).wpIn Fence.wide n P Q a w := by
  refine wpIn_rangeFunc fun fn hfn => ?_
  -- the record of the loop, in its two states
  obtain ⟨mk, hmk⟩ : ∃ mk : LoopState → Loop, mk = fun st => { state := st, pending := none, fn, tmps := a.tmps, params := ps, assign, body, defers := w.heap.size } := ⟨_, rfl⟩
  obtain ⟨W1, hW1⟩ : ∃ W1, W1 = (w.alloc (.deferred (some []))).alloc (.loop (mk .ready)) := ⟨_, rfl⟩
  have b1 : Below w.heap.size w W1 := by rw [hW1]; exact ((Below.refl _ _).alloc (Nat.le_refl _) _).alloc (by simp) _
  have c1 : W1.heap[w.heap.size + 1]? = some (.loop (mk .ready)) := by
    rw [hW1]; have := World.alloc_heap_new (w.alloc (.deferred (some []))) (.loop (mk .ready)); rwa [World.size_alloc] at this
  have d1 : W1.heap[w.heap.size]? = some (.deferred (some [])) := by
    rw [hW1]; exact (Below.heap_alloc _ _ _ (by simp)).trans (World.alloc_heap_new w _)
  have i1 : I 0 W1 := by rw [hW1]; exact h0 _ _
  refine ⟨w.heap.size + 1, [{ target := .collected w.heap.size, args := #[] }], W1, { target := .fn (.func gf) lb, args := #[.func (.yield (w.heap.size + 1)) #[] #[]] }, W1, gf, #[.func (.yield (w.heap.size + 1)) #[] #[]] ++ lb, W1, ?_, ?_, ?_, ?_, ?_, ?_⟩
  · rw [hW1, hmk]; exact run_enterLoop_outer _ _ _ _ _
  · simp only [resolve, hg]; simp [go_sem]
  · exact fun _ _ => trivial
  · simp [invoke, go_sem, eg]
  · exact fun h => absurd h (by simp [Fence.wide])
  · refine (hseq (w.heap.size + 1) (fun k W => I k W ∧ W.heap[w.heap.size + 1]? = some (.loop (mk .ready)) ∧ W.heap[w.heap.size]? = some (.deferred (some []))) W1 b1 (fun k W h => ⟨hd k W h.1, h.2⟩) ⟨i1, c1, d1⟩ ?_).mono ?_
    · rintro k hk W ⟨hi, hl, hD⟩
      have hlt : w.heap.size + 1 < W.heap.size := (Array.getElem?_eq_some_iff.1 hl).1
      have hy := run_yield (P := P) (args := encs ys[k]) hl (by rw [hmk]; exact hps _)
      have hbg := run_beginRound (P := P) hl (by rw [hmk])
      obtain ⟨W2, hW2⟩ : ∃ W2, W2 = W.putObj (w.heap.size + 1) (.loop { mk .ready with state := .busy }) := ⟨_, rfl⟩
      rw [← hW2] at hbg
      have l2 : W2.heap[w.heap.size + 1]? = some (.loop { mk .ready with state := .busy }) := by rw [hW2]; exact World.putObj_heap_same hlt
      have e2 : W2.heap[w.heap.size]? = some (.deferred (some [])) := by rw [hW2]; exact (World.putObj_heap_other (by omega)).trans hD
      have i2 : I k W2 := by rw [hW2]; exact hI _ _ _ _ hi hl
      have hlt2 : w.heap.size + 1 < W2.heap.size := (Array.getElem?_eq_some_iff.1 l2).1
      have hrec : mk .ready = { state := .ready, pending := none, fn := fn, tmps := a.tmps, params := ps, assign := assign, body := body, defers := w.heap.size } := by rw [hmk]
      rw [hrec] at hy
      refine ⟨fn, _, assign, body, hy, roundIn_of_wpIn hfn (hassign _ ys[k] W _ ⟨W2, hbg, wpIn_mono (hbody _ k hk W2 _ i2 e2 l2) ?_⟩)⟩
      rintro e a3 W3 hp
      cases e with
      | normal =>
        obtain ⟨hkD, hkl, hi3⟩ := hp
        have l3 := hkl.trans l2
        have hen := run_endRound (P := P) none l3
        have hlt3 : w.heap.size + 1 < W3.heap.size := (Array.getElem?_eq_some_iff.1 l3).1
        refine ⟨_, _, hen, rfl, hI _ _ _ _ hi3 l3, ?_, (World.putObj_heap_other (by omega)).trans (hkD.trans e2)⟩
        rw [World.putObj_heap_same (Array.getElem?_eq_some_iff.1 l3).1, hrec]; rfl
      | ret => exact hp.elim
      | exit id => exact hp.elim
      | goto t => exact hp.elim
      | panic ch => exact hp.elim
      | outgrown => exact hp.elim
    · rintro e W2 ⟨⟨v, rfl⟩, hi, hl, hD⟩
      have hen := run_endLoop (P := P) hl (by rw [hmk]; simp)
      have hlt2 : w.heap.size + 1 < W2.heap.size := (Array.getElem?_eq_some_iff.1 hl).1
      exact ⟨_, _, hen, by rw [hmk]; exact hdone _ (hI _ _ _ _ hi hl) ((World.putObj_heap_other (by omega)).trans hD)⟩
end Go.Proofs.YtkgegihkhdgdoaaDoor

/- The book that is handed in, or none; a function's ways out, where it ranges over a function. -/
namespace Go.Proofs.YtkgegihkhdgdoaaDoor
set_option linter.unusedSimpArgs false
set_option linter.unusedVariables false
open Go.RowKit Go.Deep

/-- kv is a book of these notes, all its memory in F, or nil. -/
def bkAt (kv : Value) (w : World) (F : Nat → Prop) (N : List Nt) (c : Int) : Prop :=
  (kv = .pointer none ∧ ∀ j, F j → j < w.heap.size) ∨ ∃ k, kv = .pointer (some ⟨k, 0, none⟩) ∧ bookAt w F k N c
section
variable {kv : Value} {w w' : World} {F G : Nat → Prop} {N : List Nt} {c : Int}
theorem bkAt.lt (h : bkAt kv w F N c) : ∀ j, F j → j < w.heap.size := by
  rcases h with ⟨_, h⟩ | ⟨k, _, h⟩
  · exact h
  · exact h.2.1
theorem bkAt.far (h : bkAt kv w F N c) (hb : ∀ j, F j → j < w.heap.size → w'.heap[j]? = w.heap[j]?) (hs : w.heap.size ≤ w'.heap.size) : bkAt kv w' F N c := by
  rcases h with ⟨e, h⟩ | ⟨k, e, h⟩
  · exact Or.inl ⟨e, fun j hj => Nat.lt_of_lt_of_le (h j hj) hs⟩
  · exact Or.inr ⟨k, e, h.far hb hs⟩
theorem bkAt.below {B : Nat} (h : bkAt kv w F N c) (hb : Below B w w') (hB : w.heap.size ≤ B) : bkAt kv w' F N c :=
  h.far (fun j _ hl => hb.block j (by omega)) hb.size
theorem bkAt.grow (h : bkAt kv w F N c) (hG : ∀ j, F j → G j) (hl : ∀ j, G j → j < w.heap.size) : bkAt kv w G N c := by
  rcases h with ⟨e, h⟩ | ⟨k, e, h⟩
  · exact Or.inl ⟨e, hl⟩
  · exact Or.inr ⟨k, e, h.grow hG hl⟩
theorem bkAt.drew (h : bkAt kv w F N c) : bkAt kv w.drew F N c := h.below ((Below.refl w.heap.size w).drew) (Nat.le_refl _)
end
/-- without a book nothing old turns. -/
theorem bkAt.none (w : World) (N : List Nt) (c : Int) : bkAt (.pointer none) w (fun _ => False) N c := Or.inl ⟨rfl, fun _ h => h.elim⟩
theorem Fr.none {w w' : World} (h : Fr (fun _ => False) w w') : Below w.heap.size w w' := h.below (fun _ f => f.elim) (Nat.le_refl _)
theorem node_k (F : Nat → Prop) (kv : Value) (N : List Nt) (c : Int) (L : List (List Int)) (v : Value) (w : World) (hk : bkAt kv w F N c) (h : sumsAt w v L) (hL : L.length ≤ 1000) (ht : tabIs w) (hF0 : ¬ F 1) (hN : N.length < 1000000) (hc : 0 ≤ c ∧ c < 1000000000) :
    Calls Tryd.prog 70 #[kv, v] w fun e w' => e = .returned (sumV (nodeS L)) ∧ bkAt kv w' (Gr F w w') (addN N (ntOf L)) (c + 1) ∧ Fr F w w' := by
  have hlt := hk.lt
  rcases hk with ⟨rfl, _⟩ | ⟨k, rfl, hk⟩
  · refine (node_nil L v w h hL ht).mono ?_
    rintro e w' ⟨rfl, hb⟩
    have := hb.size
    exact ⟨rfl, Or.inl ⟨rfl, fun j hj => by
      rcases hj with hj | hj
      · have := hlt j hj; omega
      · exact hj.2⟩, Fr.of_below F hb⟩
  · refine (node_book F k N c L v w hk h hL ht hF0 hN hc).mono ?_
    rintro e w' ⟨rfl, hb, hf⟩
    exact ⟨rfl, Or.inr ⟨k, rfl, hb⟩, hf⟩
theorem root_k (F : Nat → Prop) (kv : Value) (N : List Nt) (c : Int) (L : List (List Int)) (v : Value) (w : World) (hk : bkAt kv w F N c) (h : sumsAt w v L) (hvF : 0 < L.length → ∀ j, v.ownBlock = some j → ¬ F j) (hL : L.length ≤ 1000) (ht : tabIs w) (hF0 : ¬ F 1) (hN : N.length + L.length < 100000) (hc : 0 ≤ c ∧ c + L.length < 100000000) :
    Calls Tryd.prog 40 #[kv, v] w fun e w' => e = .returned (sumV (rootS L)) ∧ bkAt kv w' (Gr F w w') (rootN N L) (c + callsR L.length) ∧ Fr F w w' := by
  have hlt := hk.lt
  rcases hk with ⟨rfl, _⟩ | ⟨k, rfl, hk⟩
  · refine (root_nil 1000 L v w hL (Nat.le_refl _) h ht).mono ?_
    rintro e w' ⟨rfl, hb⟩
    have := hb.size
    exact ⟨rfl, Or.inl ⟨rfl, fun j hj => by
      rcases hj with hj | hj
      · have := hlt j hj; omega
      · exact hj.2⟩, Fr.of_below F hb⟩
  · refine (root_book 1000 F k N c L v w hL (Nat.le_refl _) hk h hvF ht hF0 (by omega) (by omega)).mono ?_
    rintro e w' ⟨rfl, hb, hf⟩
    exact ⟨rfl, Or.inr ⟨k, rfl, hb⟩, hf⟩
section
variable {P : Program} {fn : Func} {R : Ending → World → Prop} {a : Act} {w : World} {v : Value} {n : Nat}
theorem bodyPostM_ret (hr : (results fn a.tmps).run P w = .ok v w) (hd : a.defers = []) (hR : R (.returned v) w) : bodyPostM Fence.wide n P fn R .ret a w := by
  show LeavesInM Fence.wide n P fn a.tmps R a.defers .returning w
  rw [hd]
  exact ⟨v, hr, hR⟩
theorem bodyPostM_mark {D : Nat} (hd : a.defers = [{ target := .collected D, args := #[] }]) (hK : w.heap[D]? = some (.deferred (some []))) (hr : (results fn a.tmps).run P (w.putObj D (.deferred none)) = .ok v (w.putObj D (.deferred none))) (hR : R (.returned v) (w.putObj D (.deferred none))) : bodyPostM Fence.wide n P fn R .ret a w := by
  show LeavesInM Fence.wide n P fn a.tmps R a.defers .returning w
  rw [hd]
  exact ⟨by simp, .inl ⟨_, _, rfl, run_takeDeferred hK, ⟨v, hr, hR⟩⟩⟩
end
end Go.Proofs.YtkgegihkhdgdoaaDoor

/- bytes.Compare, bytes.Equal, bytes.Clone. -/
namespace Go.Proofs.YtkgegihkhdgdoaaDoor
set_option linter.unusedSimpArgs false
set_option linter.unusedVariables false
open Go.RowKit Go.Deep

/-- lists of bytes, compared: -1, 0, 1. -/
def cmpI : List Int → List Int → Int
  | [], [] => 0
  | [], _ :: _ => -1
  | _ :: _, [] => 1
  | a :: x, b :: y => if a < b then -1 else if b < a then 1 else cmpI x y
theorem cmpI_self : ∀ x : List Int, cmpI x x = 0
  | [] => rfl
  | a :: x => by rw [cmpI, if_neg (by omega), if_neg (by omega)]; exact cmpI_self x
theorem cmpI_trans : ∀ x y z : List Int, cmpI x y < 0 → cmpI y z < 0 → cmpI x z < 0
  | [], [], _, h, _ => by simp [cmpI] at h
  | [], _ :: _, [], _, h => by simp [cmpI] at h
  | [], _ :: _, _ :: _, _, _ => by simp [cmpI]
  | _ :: _, [], _, h, _ => by simp [cmpI] at h
  | _ :: _, _ :: _, [], _, h => by simp [cmpI] at h
  | a :: x, b :: y, c :: z, h1, h2 => by
    rw [cmpI] at h1 h2 ⊢
    by_cases a1 : a < b
    · by_cases b1 : b < c
      · rw [if_pos (by omega)]; decide
      · rw [if_neg b1] at h2
        by_cases b2 : c < b
        · rw [if_pos b2] at h2; omega
        · rw [if_pos (by omega)]; decide
    · rw [if_neg a1] at h1
      by_cases a2 : b < a
      · rw [if_pos a2] at h1; omega
      · rw [if_neg a2] at h1
        by_cases b1 : b < c
        · rw [if_pos (by omega)]; decide
        · rw [if_neg b1] at h2
          by_cases b2 : c < b
          · rw [if_pos b2] at h2; omega
          · rw [if_neg b2] at h2
            rw [if_neg (by omega), if_neg (by omega)]
            exact cmpI_trans x y z h1 h2
theorem cmp_bytes : ∀ x y : List Int, (∀ b ∈ x, 0 ≤ b ∧ b ≤ 255) → (∀ b ∈ y, 0 ≤ b ∧ b ≤ 255) → Lib.compareBytes (x.map fun n => UInt8.ofNat n.toNat) (y.map fun n => UInt8.ofNat n.toNat) = cmpI x y
  | [], [], _, _ => rfl
  | [], _ :: _, _, _ => rfl
  | _ :: _, [], _, _ => rfl
  | a :: x, b :: y, hx, hy => by
    have ha := hx a (by simp)
    have hb := hy b (by simp)
    have h1 : (UInt8.ofNat a.toNat < UInt8.ofNat b.toNat) ↔ a < b := by rw [UInt8.lt_iff_toNat_lt, UInt8.toNat_ofNat', UInt8.toNat_ofNat']; omega
    have h2 : (UInt8.ofNat b.toNat < UInt8.ofNat a.toNat) ↔ b < a := by rw [UInt8.lt_iff_toNat_lt, UInt8.toNat_ofNat', UInt8.toNat_ofNat']; omega
    rw [List.map_cons, List.map_cons, Lib.compareBytes, cmpI, cmp_bytes x y (fun c hc => hx c (by simp [hc])) (fun c hc => hy c (by simp [hc]))]
    simp only [h1, h2]
theorem any_bytes {w : World} {v : Value} {l : List Int} (h : anyBytes w v l) : ∀ b ∈ l, 0 ≤ b ∧ b ≤ 255 := fun b hb => by
  obtain ⟨i, hi, rfl⟩ := List.getElem_of_mem hb
  have hg : l.getD i 0 = l[i] := by rw [List.getD_eq_getElem?_getD, List.getElem?_eq_getElem hi]; rfl
  rcases h with (⟨_, rfl⟩ | ⟨_, _, _, _, _, _, _, _, h7⟩) | ⟨_, rfl⟩
  · simp at hi
  · rw [← hg]; exact h7 i
  · simp at hi
theorem bytesOf_run (w : World) (v : Value) (l : List Int) (h : anyBytes w v l) : (Extern.Bytes.bytesOf v).run Tryd.prog w = .ok (strOf l) w := by
  rcases h with (⟨rfl, rfl⟩ | ⟨pb, po, cap, rfl, h2, h3, h4, h6, h7⟩) | ⟨⟨a, rfl⟩, rfl⟩
  · rfl
  · have hl := Lib.run_loadBytesX (P := Tryd.prog) w l ⟨pb, po, none⟩ .empty (fun j x hj => by
      have hjl : j < l.length := (List.getElem?_eq_some_iff.1 hj).1
      have e : (⟨pb, po, none⟩ : Addr).add j = ⟨pb, po + j, none⟩ := by unfold Addr.add; split <;> simp_all
      rw [e, h6 j hjl, List.getD_eq_getElem?_getD, hj]
      rfl)
    show (Extern.Bytes.loadBytes ⟨pb, po, none⟩ l.length .empty).run Tryd.prog w = _
    rw [hl]
    congr 1
    apply ByteArray.ext
    show (#[] : Array UInt8) ++ (Lib.bytesOf l).toArray = (strOf l).data
    simp [strOf, Lib.bytesOf]
  · cases a with
    | none => rfl
    | some a => rfl
theorem cmp_run (w : World) (u v : Value) (x y : List Int) (hx : anyBytes w u x) (hy : anyBytes w v y) : (callFunc 68 #[u, v]).run Tryd.prog w = .ok (.value (.int .i64 (cmpI x y))) w := by
  rw [run_callFunc_extern Tryd.func68 (by kernel_rfl) (by kernel_rfl) (by kernel_rfl) (e := Extern.BytealgCompare.compare) (by kernel_rfl)]
  have hc : (Extern.BytealgCompare.compare #[u, v]).run Tryd.prog w = .ok (.int .i64 (cmpI x y)) w := by
    show (do pure (goInt (Extern.BytealgCompare.cmp (← Extern.Bytes.bytesOf u) (← Extern.Bytes.bytesOf v))) : Sem Value).run Tryd.prog w = _
    rw [Sem.run_bind, bytesOf_run w u x hx, Result.andThen_ok, Sem.run_bind, bytesOf_run w v y hy, Result.andThen_ok, Lib.cmp_eq]
    have := cmp_bytes x y (any_bytes hx) (any_bytes hy)
    simp only [strOf]
    rw [this]
    rfl
  rw [hc]
  rfl
theorem compare_any (w : World) (u v : Value) (x y : List Int) (hx : anyBytes w u x) (hy : anyBytes w v y) :
    Calls Tryd.prog 38 #[u, v] w fun e w' => e = .returned (.int .i64 (cmpI x y)) ∧ w' = w := by
  have hr := cmp_run w u v x y hx hy
  clear hx hy
  go_enter Tryd.func38, Tryd.ntmps38
  go_wp2
  go_ret
  exact ⟨rfl, rfl⟩
end Go.Proofs.YtkgegihkhdgdoaaDoor

/- keyed.leaf: a pair's leaf. -/
namespace Go.Proofs.YtkgegihkhdgdoaaDoor
set_option linter.unusedSimpArgs false
set_option linter.unusedVariables false
open Go.RowKit Go.Deep

theorem of_k (F : Nat → Prop) (kv : Value) (N : List Nt) (c kind : Int) (n : Nat) (v : Value) (ps : Nat → List Int) (w : World) (hk : bkAt kv w F N c) (hp : anyParts w v n ps) (hs : ∀ i, i ≤ n → 1 + (flatTo (blobsB ps) i).length ≤ 100000000) (ht : tabIs w) (hF0 : ¬ F 1) (hN : N.length < 1000000) (hc : 0 ≤ c ∧ c < 1000000000) :
    Calls Tryd.prog 69 #[kv, .int .i64 kind, v] w fun e w' => e = .returned (sumV (sumL (preB kind n ps))) ∧ bkAt kv w' (Gr F w w') (addN N (sumL (preB kind n ps), strOf (preB kind n ps))) (c + 1) ∧ Fr F w w' := by
  have hlt := hk.lt
  rcases hk with ⟨rfl, _⟩ | ⟨k, rfl, hk⟩
  · refine (of_nil kind n v ps w hp hs ht).mono ?_
    rintro e w' ⟨rfl, hb⟩
    have := hb.size
    exact ⟨rfl, Or.inl ⟨rfl, fun j hj => by
      rcases hj with hj | hj
      · have := hlt j hj; omega
      · exact hj.2⟩, Fr.of_below F hb⟩
  · refine (of_any F k N c kind n v ps w hk hp hs ht hF0 hN hc).mono ?_
    rintro e w' ⟨rfl, hb, hf⟩
    exact ⟨rfl, Or.inr ⟨k, rfl, hb⟩, hf⟩
/-- a pair: key, value. -/
abbrev Pr := List Int × List Int
def prPs (x : Pr) (i : Nat) : List Int := if i = 0 then x.1 else x.2
def leafB (x : Pr) : List Int := preB 4 2 (prPs x)
def leafS (x : Pr) : List Int := sumL (leafB x)
def leafNt (x : Pr) : Nt := (leafS x, strOf (leafB x))
theorem leafS_sum (x : Pr) : isSum (leafS x) := sumL_is _
theorem blobB_le (l : List Int) : (blobB l).length ≤ l.length + 9 := by
  unfold blobB
  rw [List.length_append]
  have := numB_le (l.length : Int)
  omega
theorem prPs_light (x : Pr) (h : x.1.length + x.2.length ≤ 1000000) : ∀ i, i ≤ 2 → 1 + (flatTo (blobsB (prPs x)) i).length ≤ 100000000 := fun i hi => by
  have h1 := flatTo_mono (blobsB (prPs x)) 2 i hi
  have h2 : (flatTo (blobsB (prPs x)) 2).length = (blobB x.1).length + (blobB x.2).length := by simp [flatTo, blobsB, prPs]
  have h3 := blobB_le x.1
  have h4 := blobB_le x.2
  omega
theorem parts_two (w : World) (kc vc : Value) (x : Pr) (h1 : anyBytes w kc x.1) (h2 : anyBytes w vc x.2) : isParts (w.alloc (.cells #[kc, vc] 23)) (.slice (some ⟨w.heap.size, 0, none⟩) 2 2) 2 (prPs x) := by
  have hb : (w.alloc (.cells #[kc, vc] 23)).heap[w.heap.size]? = some (.cells #[kc, vc] 23) := blk_alloc_new _ _
  have bw : Below w.heap.size w (w.alloc (.cells #[kc, vc] 23)) := (Below.refl _ _).alloc (Nat.le_refl _) _
  refine Or.inr ⟨w.heap.size, 0, 2, fun i => if i = 0 then kc else vc, rfl, by simp, by decide, fun i hi => ?_⟩
  rw [cell_of_row _ _ _ _ _ _ hb]
  have : i = 0 ∨ i = 1 := by omega
  rcases this with rfl | rfl
  · exact ⟨rfl, h1.below bw (Nat.le_refl _)⟩
  · exact ⟨rfl, h2.below bw (Nat.le_refl _)⟩
set_option maxHeartbeats 2000000 in
set_option maxRecDepth 100000 in
theorem leaf_k (F : Nat → Prop) (kv : Value) (N : List Nt) (c : Int) (kc vc : Value) (x : Pr) (w : World) (hk : bkAt kv w F N c) (h1 : anyBytes w kc x.1) (h2 : anyBytes w vc x.2) (hx : x.1.length + x.2.length ≤ 1000000) (ht : tabIs w) (hF0 : ¬ F 1) (hN : N.length < 1000000) (hc : 0 ≤ c ∧ c < 1000000000) :
    Calls Tryd.prog 63 #[kv, .agg #[kc, vc]] w fun e w' => e = .returned (sumV (leafS x)) ∧ bkAt kv w' (Gr F w w') (addN N (leafNt x)) (c + 1) ∧ Fr F w w' := by
  have hz32 := zero_s32
  have hlt := hk.lt
  obtain ⟨w1, hw1⟩ : ∃ w1, w1 = (w.alloc (.cells #[kc, vc] 38)).alloc (.cells (rowV 32 (fun _ => .int .u8 0)) 32) := ⟨_, rfl⟩
  have b1 : Below w.heap.size w w1 := by rw [hw1]; exact ((Below.refl _ _).alloc (Nat.le_refl _) _).alloc (by simp) _
  have z1 : w1.heap.size = w.heap.size + 2 := by rw [hw1]; simp
  have rz : w1.rowIs (w.heap.size + 1) 32 32 (fun _ => .int .u8 0) := by
    have r := rowIs_box (w.alloc (.cells #[kc, vc] 38)) 32 32 (fun _ => .int .u8 0)
    rw [World.size_alloc] at r; rw [hw1]; exact r
  have hb0 : w1.heap[w.heap.size]? = some (.cells #[kc, vc] 38) := by rw [hw1, blk_alloc_lt _ _ _ (by simp), blk_alloc_new]
  have c0 : w1.cell? ⟨w.heap.size, 0, none⟩ = some kc := by rw [cell_of_row _ _ _ _ _ _ hb0]; rfl
  have c1 : w1.cell? ⟨w.heap.size, 1, none⟩ = some vc := by rw [cell_of_row _ _ _ _ _ _ hb0]; rfl
  obtain ⟨w2, hw2⟩ : ∃ w2, w2 = w1.alloc (.cells #[kc, vc] 23) := ⟨_, rfl⟩
  have b2 : Below w1.heap.size w1 w2 := by rw [hw2]; exact (Below.refl _ _).alloc (Nat.le_refl _) _
  have z2 : w2.heap.size = w1.heap.size + 1 := by rw [hw2]; simp
  have b02 : Below w.heap.size w w2 := b1.trans (b2.mono (by omega))
  have hp : isParts w2 (.slice (some ⟨w1.heap.size, 0, none⟩) 2 2) 2 (prPs x) := by rw [hw2]; exact parts_two w1 kc vc x (h1.below b1 (Nat.le_refl _)) (h2.below b1 (Nat.le_refl _))
  have X := of_k F kv N c 4 2 _ (prPs x) w2 (hk.below b02 (Nat.le_refl _)) hp.any (prPs_light x hx) (ht.below b02 ht.1) hF0 hN hc
  have X' : Calls Tryd.prog 69 #[kv, .int .i64 4, .slice (some ⟨w1.heap.size, 0, none⟩) 2 2] w2 fun e w' => e = .returned (.agg (rowV 32 (arrV (leafS x)))) ∧ bkAt kv w' (Gr F w2 w') (addN N (leafNt x)) (c + 1) ∧ Fr F w2 w' := X
  have HX : Hid (∀ w3, bkAt kv w3 (Gr F w2 w3) (addN N (leafNt x)) (c + 1) → Fr F w2 w3 → w3.rowIs (w.heap.size + 1) 32 32 (fun _ => .int .u8 0) ∧ ∀ w4, But w3.heap.size (w.heap.size + 1) w3 w4 → w4.heap.size = w3.heap.size → bkAt kv w4 (Gr F w w4) (addN N (leafNt x)) (c + 1) ∧ Fr F w w4) := (show _ from fun w3 k3 f3 => by
    have s3 := f3.size
    have nF : ∀ j, w.heap.size ≤ j → ¬ F j := fun j hj hf => by have := hlt j hf; omega
    refine ⟨World.rowIs.of_block (b2.row rz (by omega)) (f3.block _ (by omega) (nF _ (by omega))), fun w4 b4 z4 => ⟨?_, ?_⟩⟩
    · refine (bkAt.far k3 (fun j hj hl => b4.block j hl (fun e => ?_)) b4.size).grow (fun j hj => ?_) (fun j hj => ?_)
      · rcases hj with hj | hj
        · exact nF j (by omega) hj
        · omega
      · rcases hj with hj | hj
        · exact Or.inl hj
        · exact Or.inr ⟨by omega, by omega⟩
      · rcases hj with hj | hj
        · have := hlt j hj; omega
        · exact hj.2
    · exact ⟨b4.os.trans (f3.os.trans b02.os), b4.tape.trans (f3.tape.trans b02.tape), b4.output.trans (f3.output.trans b02.output), by have := b02.size; omega, fun j hj hn => (b4.block j (by omega) (by omega)).trans ((f3.block j (by omega) hn).trans (b02.block j hj))⟩)
  obtain ⟨ka, kcap, rfl, _⟩ := h1.slice
  obtain ⟨va, vcap, rfl, _⟩ := h2.slice
  clear X hk h1 h2 hp b1 b2 b02 z1 z2 rz hb0 hx ht hlt
  unfold sumV
  go_enter Tryd.func63, Tryd.ntmps63
  go_upto_region 1 with fail
  rw [← hw1]
  clear hw1
  go_wp2_with fail
  rw [← hw2]
  clear hw2 c0 c1
  refine X'.mono ?_
  rintro e w3 ⟨rfl, k3, f3⟩
  obtain ⟨r3, K3⟩ := HX.out w3 k3 f3
  have HK3 : Hid _ := K3
  clear X' HX k3 f3 K3
  go_wp2_with (refine wpList_store_row rfl 32 _ _ rfl rfl (w.heap.size + 1) 0 32 (arrV (leafS x)) rfl rfl hi32' (fun _ _ => rfl) _ _ _ r3 (by omega) ?_; intro w4 r4 hz4 hb4)
  exact bodyPost_ret (results_cell_seg rfl _ _ (w.heap.size + 1) 32 32 (arrV (leafS x)) _ rfl Tryd.underlying32 rfl hi32' (r4.congr fun i hi => by rw [if_pos (by omega), Nat.sub_zero])) rfl ⟨rfl, HK3.out w4 hb4 hz4⟩
end Go.Proofs.YtkgegihkhdgdoaaDoor

/- A load, a store of a whole row, by what its run comes to; slices of sums of the call's own. -/
namespace Go.Proofs.YtkgegihkhdgdoaaDoor
set_option linter.unusedSimpArgs false
set_option linter.unusedVariables false
open Go.RowKit Go.Deep

section
variable {P : Program}
theorem exec_load_row {o : Oper} {ev : Operand → Value} {w : World} (ty : TypeId) (x : Operand) (ho : o.op = .load ty x) (b s m : Nat) (g : Nat → Value) (hx : ev x = .pointer (some ⟨b, s, none⟩)) (d : TypeDesc)
    (hu : P.underlying ty = some d) (hd : d.isRow = true) (hi : (P.info? ty).map (·.size) = some m) (hc : ∀ i, i < m → w.cell? ⟨b, s + i, none⟩ = some (g i)) : (execOp ev o).run P w = .ok (.value (.agg (rowV m g))) w := by
  have e : (rowV m g) = (rowV m g).toList.toArray := by rw [Array.toArray_toList]
  rw [e]
  unfold execOp
  simp only [ho, hx, Instr.loadAt, Instr.sureAddr, Sem.run_bind, Sem.run_pure, Result.andThen_ok, run_loadVar_mid w b s ty (rowV m g).toList d (range_of_cells hc) hu hd (by rw [hi, Array.length_toList, rowV_size])]
/-- a store of a whole row. -/
theorem stowR_run (w : World) (ty : TypeId) (b s m : Nat) (g : Nat → Value) (hi : (P.info? ty).map (·.size) = some m) (h1 : ∀ i, i < m → (g i).oneCell' = true) (ht : w.there b s m) : (storeVar ty ⟨b, s, none⟩ (.agg (rowV m g))).run P w = .ok () (w.setCells b s (rowV m g).toList) := by
  have h2 : (rowV m g).all (·.oneCell') = true := by
    rw [Array.all_eq_true_iff_forall_mem]
    intro v hv
    obtain ⟨i, hi', rfl⟩ := Array.mem_iff_getElem.1 hv
    have hlt : i < m := by rw [rowV_size] at hi'; exact hi'
    have := rowV_get m g i hlt
    rw [Array.getElem?_eq_getElem hi'] at this
    rw [Option.some.inj this]; exact h1 i hlt
  exact run_storeVar_mid (P := P) w b s ty (rowV m g) (by rw [rowV_size]; exact ht) (by rw [hi, rowV_size]) h2
end
/-- the cells of sums, one behind the other. -/
def sumC (q : List Int) : List Value := (rowV 32 (arrV q)).toList
theorem sumC_len (q : List Int) : (sumC q).length = 32 := by simp [sumC, rowV_size]
theorem sumC_get (q : List Int) (j : Nat) (h : j < 32) : (sumC q)[j]? = some (arrV q j) := by rw [sumC, Array.getElem?_toList]; exact rowV_get _ _ _ h
theorem sumsC_len : ∀ L : List (List Int), (L.flatMap sumC).length = L.length * 32
  | [] => rfl
  | x :: N => by rw [List.flatMap_cons, List.length_append, sumC_len, sumsC_len N, List.length_cons]; omega
theorem sumsC_get : ∀ (L : List (List Int)) (i j : Nat) (x : List Int), L[i]? = some x → j < 32 → (L.flatMap sumC)[i * 32 + j]? = some (arrV x j)
  | [], i, j, x, h, _ => by simp at h
  | y :: N, 0, j, x, h, hj => by
    have e : y = x := by simpa using h
    subst e
    rw [List.flatMap_cons, Nat.zero_mul, Nat.zero_add, List.getElem?_append_left (by rw [sumC_len]; exact hj)]
    exact sumC_get _ _ hj
  | y :: N, i + 1, j, x, h, hj => by
    rw [List.flatMap_cons, List.getElem?_append_right (by rw [sumC_len]; omega), sumC_len, show (i + 1) * 32 + j - 32 = i * 32 + j by omega]
    exact sumsC_get N i j x (by simpa using h) hj
theorem sumC_one (q : List Int) : ∀ u ∈ sumC q, u.oneCell' = true := by
  intro u hu
  rw [sumC, Array.mem_toList_iff] at hu
  obtain ⟨k, hk, rfl⟩ := Array.mem_iff_getElem.1 hu
  have hk' : k < 32 := by rw [rowV_size] at hk; exact hk
  have := rowV_get 32 (arrV q) k hk'
  rw [Array.getElem?_eq_getElem hk] at this
  rw [Option.some.inj this]; rfl
/-- v is a slice of these sums, in a block of its own from B on. -/
def newSums (w : World) (B : Nat) (v : Value) (L : List (List Int)) : Prop := (∀ x ∈ L, isSum x) ∧ w.ownsRow B 32 32 v L.length (L.flatMap sumC)
theorem newSums.is {w : World} {B : Nat} {v : Value} {L : List (List Int)} (h : newSums w B v L) : sumsAt w v L := by
  obtain ⟨hs, ho⟩ := h
  obtain ⟨a, c, rfl, hc, hm, hg⟩ := ownsRow_slice ho
  refine ⟨hs, a, c, rfl, hc, hm, fun h0 => ?_⟩
  obtain ⟨g, rfl, hlt, _, hcell⟩ := hg h0
  refine ⟨g, 0, rfl, hlt, fun i hi j hj => ?_⟩
  rw [Nat.zero_add]
  exact hcell _ _ (sumsC_get L i j _ (List.getElem?_eq_getElem hi) hj)
theorem newSums.nil (w : World) (B : Nat) : newSums w B (.slice none 0 0) [] := ⟨fun x hx => by simp at hx, rfl, Or.inl ⟨rfl, rfl⟩⟩
theorem newSums.far {w w' : World} {B : Nat} {v : Value} {L : List (List Int)} (h : newSums w B v L) (hb : ∀ k, v.ownBlock = some k → w'.heap[k]? = w.heap[k]?) : newSums w' B v L := ⟨h.1, ownsRow_far h.2 hb⟩
theorem newSums.block {w : World} {B : Nat} {v : Value} {L : List (List Int)} (h : newSums w B v L) (k : Nat) (hk : v.ownBlock = some k) : B ≤ k ∧ k < w.heap.size := ownsRow_block h.2 k hk
theorem newSums.below {w w' : World} {B C : Nat} {v : Value} {L : List (List Int)} (h : newSums w B v L) (hb : Below C w w') (hC : w.heap.size ≤ C) : newSums w' B v L :=
  h.far fun k hk => hb.block k (Nat.lt_of_lt_of_le (h.block k hk).2 hC)
theorem newSums.lower {w : World} {B C : Nat} {v : Value} {L : List (List Int)} (h : newSums w B v L) (hC : C ≤ B) : newSums w C v L := ⟨h.1, ownsRow_lower h.2 hC⟩
theorem infoS32 : (Tryd.prog.info? 32).map (fun i => (i.zero, i.size, i.bytes)) = some (some (.agg (rowV 32 (fun _ => .int .u8 0))), 32, 32) := by kernel_rfl
/-- append of sums to sums of the call's own. -/
theorem sums_append (w : World) (B : Nat) (v : Value) (L : List (List Int)) (hv : newSums w B v L) (sv : Value) (K : List (List Int)) (hK : sumsAt w sv K) (hn : L.length + K.length < 1000000) (hB : B ≤ w.heap.size) :
    ∃ a c w', (Builtin.append_ #[39, 39] 39 #[v, sv]).run Tryd.prog w = .ok (.slice a (L.length + K.length) c) w' ∧ newSums w' B (.slice a (L.length + K.length) c) (L ++ K) ∧ w.grownBy w' v.ownBlock ∧
      ((Value.slice a (L.length + K.length) c).ownBlock = v.ownBlock ∨ (Value.slice a (L.length + K.length) c).ownBlock = some w.heap.size) := by
  obtain ⟨hs, hv⟩ := hv
  obtain ⟨hs2, a, cap, rfl, hc, hm, hcl⟩ := hK
  obtain ⟨a', c', w', hr, ho, hg, hat⟩ := row_append (P := Tryd.prog) w 39 39 32 _ 32 32 Tryd.underlying39 infoS32 (by simp [Value.cells, rowV_size]) (by omega)
    B v L.length _ hv (.slice a K.length cap) K.length (K.flatMap sumC) (sumsC_len K)
    ⟨_, _, rfl, fun h0 => by
      obtain ⟨g, o, rfl, hg, hcell⟩ := hcl h0
      refine ⟨g, o, rfl, fun j u hj => ?_⟩
      have hjl : j < K.length * 32 := by rw [← sumsC_len K]; exact (List.getElem?_eq_some_iff.1 hj).1
      have h1 := hcell (j / 32) (by omega) (j % 32) (by omega)
      have h2 := sumsC_get K (j / 32) (j % 32) _ (List.getElem?_eq_getElem (by omega : j / 32 < K.length)) (by omega)
      rw [show j / 32 * 32 + j % 32 = j by omega, hj] at h2
      rw [show o + j / 32 * 32 + j % 32 = o + j by omega, ← Option.some.inj h2] at h1
      exact h1⟩
    (fun u hu => by
      obtain ⟨q, _, hq⟩ := List.mem_flatMap.1 hu
      exact sumC_one q u hq) (by unfold maxLen; omega) (by omega) hB
  refine ⟨a', c', w', hr, ⟨fun x hx => ?_, ?_⟩, hg, hat⟩
  · rcases List.mem_append.1 hx with h | h
    · exact hs x h
    · exact hs2 x h
  · rw [List.flatMap_append, List.length_append]; exact ho
end Go.Proofs.YtkgegihkhdgdoaaDoor

/- One sum more; small tools. -/
namespace Go.Proofs.YtkgegihkhdgdoaaDoor
set_option linter.unusedSimpArgs false
set_option linter.unusedVariables false
open Go.RowKit Go.Deep Go.Shelf

theorem rowIs_one (w : World) (v : Value) (t : TypeId) : (w.alloc (.cells #[v] t)).rowIs w.heap.size t 1 (fun _ => v) :=
  rowIs_new w _ _ 1 _ rfl (fun i hi => by
    obtain rfl : i = 0 := by omega
    rfl)
theorem take_snoc {α : Type} (U : List α) (k : Nat) (h : k < U.length) : U.take (k + 1) = U.take k ++ [U[k]] := by rw [List.take_add_one, List.getElem?_eq_getElem h]; rfl
theorem putObj_block (W : World) (b : Nat) (o : Obj) {j : Nat} (h : j ≠ b) : (W.putObj b o).heap[j]? = W.heap[j]? := World.putObj_heap_other h
theorem Calm.normal {Q : Exit → Act → World → Prop} {a : Act} {w : World} (h : Q .normal a w) : Calm Q .normal a w := h
theorem one_sum (w : World) (q : List Int) (hq : isSum q) : sumsAt (w.alloc (.cells (rowV 32 (arrV q)) 32)) (.slice (some ⟨w.heap.size, 0, none⟩) 1 1) [q] := by
  refine ⟨fun x hx => by rw [List.mem_singleton.1 hx]; exact hq, _, 1, rfl, Nat.le_refl _, by unfold maxLen; omega, fun _ => ⟨w.heap.size, 0, rfl, by simp, fun i hi j hj => ?_⟩⟩
  have hi0 : i = 0 := by simpa using hi
  subst hi0
  rw [show 0 + 0 * 32 + j = j by omega, (rowIs_box w 32 32 (arrV q)).cell (by omega)]; rfl
theorem build_one (f : Nat → Value) (w : World) : (Instr.buildSlice 39 1 #[(0, .agg (rowV 32 f))]).run Tryd.prog w = .ok (.slice (some ⟨w.heap.size, 0, none⟩) 1 1) (w.alloc (.cells (rowV 32 f) 32)) := by
  show (_ : Result Value) = _
  kernel_rfl
theorem exec_bslice1' {P : Program} {o : Oper} {ev : Operand → Value} {w w' : World} {v : Value} (t : TypeId) (n i : Nat) (x : Operand) (a : Value) (ho : o.op = .buildSlice t n #[(i, x)]) (hx : ev x = a)
    (hr : (Instr.buildSlice t n #[(i, a)]).run P w = .ok v w') : (execOp ev o).run P w = .ok (.value v) w' := by
  unfold execOp
  simp only [ho, List.map_toArray, List.map_cons, List.map_nil, hx, Sem.run_bind, hr, Result.andThen_ok, Sem.run_pure]
end Go.Proofs.YtkgegihkhdgdoaaDoor

/- Rows of pairs; their leaves. -/
namespace Go.Proofs.YtkgegihkhdgdoaaDoor
set_option linter.unusedSimpArgs false
set_option linter.unusedVariables false
open Go.RowKit Go.Deep

/-- v is a row of n pairs. -/
def pairsAt (w : World) (v : Value) (n : Nat) (x : Nat → Pr) : Prop :=
  ∃ a cap, v = .slice a n cap ∧ n ≤ cap ∧ cap ≤ maxLen ∧ ∀ i, i < n → ∃ g o kc vc, a = some ⟨g, o, none⟩ ∧ g < w.heap.size ∧ w.cell? ⟨g, o + i * 2, none⟩ = some kc ∧ w.cell? ⟨g, o + i * 2 + 1, none⟩ = some vc ∧ anyBytes w kc (x i).1 ∧ anyBytes w vc (x i).2
theorem pairsAt.below {w w' : World} {B : Nat} {v : Value} {n : Nat} {x : Nat → Pr} (h : pairsAt w v n x) (hb : Below B w w') (hB : w.heap.size ≤ B) : pairsAt w' v n x := by
  obtain ⟨a, cap, h1, h2, h3, h4⟩ := h
  refine ⟨a, cap, h1, h2, h3, fun i hi => ?_⟩
  obtain ⟨g, o, kc, vc, e, hg, c0, c1, k1, k2⟩ := h4 i hi
  have hs := hb.size
  exact ⟨g, o, kc, vc, e, by omega, (hb.cell (p := ⟨g, o + i * 2, none⟩) (by show g < B; omega)).trans c0, (hb.cell (p := ⟨g, o + i * 2 + 1, none⟩) (by show g < B; omega)).trans c1, k1.below hb hB, k2.below hb hB⟩
def leavesTo (x : Nat → Pr) (k : Nat) : List (List Int) := (List.range k).map fun i => leafS (x i)
def leavesN (N : List Nt) (x : Nat → Pr) : Nat → List Nt
  | 0 => N
  | k + 1 => addN (leavesN N x k) (leafNt (x k))
theorem leavesTo_len (x : Nat → Pr) (k : Nat) : (leavesTo x k).length = k := by simp [leavesTo]
theorem leavesTo_succ (x : Nat → Pr) (k : Nat) : leavesTo x (k + 1) = leavesTo x k ++ [leafS (x k)] := by unfold leavesTo; rw [List.range_succ, List.map_append]; rfl
theorem leavesTo_sum (x : Nat → Pr) (k : Nat) : ∀ y ∈ leavesTo x k, isSum y := fun y hy => by
  obtain ⟨i, _, rfl⟩ := List.mem_map.1 hy
  exact leafS_sum _
theorem leavesN_len (N : List Nt) (x : Nat → Pr) : ∀ k, (leavesN N x k).length ≤ N.length + k
  | 0 => Nat.le_refl _
  | k + 1 => by
    have h1 := leavesN_len N x k
    have h2 := (addN_le (leavesN N x k) (leafNt (x k))).2
    rw [leavesN]; omega
/-- make([]api.Sum, 0, n). -/
theorem make_sums (w : World) (n : Nat) (hn : n ≤ 100000) : ∃ w', (Instr.makeSlice 39 (.int .i64 0) (.int .i64 (n : Int))).run Tryd.prog w = .ok (.slice (some ⟨w.heap.size, 0, none⟩) 0 n) w' ∧ newSums w' w.heap.size (.slice (some ⟨w.heap.size, 0, none⟩) 0 n) [] ∧ Below w.heap.size w w' := by
  have hi := infoS32
  cases hq : Tryd.prog.info? 32 with
  | none => rw [hq] at hi; cases hi
  | some i =>
    rw [hq] at hi
    simp only [Option.map_some, Option.some.injEq, Prod.mk.injEq] at hi
    obtain ⟨h1, h2, h3⟩ := hi
    obtain ⟨w', hr, ho, hg⟩ := run_make_own (P := Tryd.prog) w w.heap.size 39 32 i _ 32 Tryd.underlying39 hq h1 h2 .i64 .i64 n (by rw [h3]; omega) (by unfold maxLen; omega) (Nat.le_refl _)
    exact ⟨w', hr, ⟨fun x hx => by simp at hx, ho⟩, below_grown (v := .slice none 0 0) hg (fun k hk => by cases hk) (Nat.le_refl _)⟩
theorem sums_one_more (w : World) (B : Nat) (u : Value) (P : List (List Int)) (q : List Int) (hq : isSum q) (hu : newSums w B u P) (hB : B ≤ w.heap.size) (hl : P.length ≤ 100000) :
    ∃ a c w', (Builtin.append_ #[39, 39] 39 #[u, .slice (some ⟨w.heap.size, 0, none⟩) 1 1]).run Tryd.prog (w.alloc (.cells (rowV 32 (arrV q)) 32)) = .ok (.slice a (P.length + 1) c) w' ∧ newSums w' B (.slice a (P.length + 1) c) (P ++ [q]) ∧ w.grownBy w' u.ownBlock ∧
      (∀ j, (Value.slice a (P.length + 1) c).ownBlock = some j → u.ownBlock = some j ∨ w.heap.size ≤ j) := by
  have ba : Below w.heap.size w (w.alloc (.cells (rowV 32 (arrV q)) 32)) := (Below.refl _ _).alloc (Nat.le_refl _) _
  obtain ⟨a, c, w', hr, hn, hg, hat⟩ := sums_append _ B _ _ (hu.below ba (Nat.le_refl _)) _ _ (one_sum w q hq) (by simp; omega) (by simp; omega)
  refine ⟨a, c, w', hr, hn, ⟨hg.os.trans ba.os, hg.tape.trans ba.tape, hg.output.trans ba.output, Nat.le_trans ba.size hg.size, fun k hk hne => (hg.block k (by have := ba.size; omega) hne).trans (ba.block k hk)⟩, fun j hj => ?_⟩
  rcases hat with e | e
  · exact Or.inl (e ▸ hj)
  · refine Or.inr ?_
    have e2 : (Value.slice a (P.length + [q].length) c).ownBlock = some j := hj
    rw [e] at e2
    have : (w.alloc (.cells (rowV 32 (arrV q)) 32)).heap.size = j := Option.some.inj e2
    have := ba.size
    omega
/-- leaves, so far. -/
def lvS (w : World) (F : Nat → Prop) (kv : Value) (N : List Nt) (c : Int) (x : Nat → Pr) (k : Nat) (s : Value) (wr : World) : Prop :=
  newSums wr w.heap.size s (leavesTo x k) ∧ ∃ Fi, bkAt kv wr Fi (leavesN N x k) (c + k) ∧ (∀ j, Fi j → F j ∨ w.heap.size ≤ j) ∧ (∀ j, s.ownBlock = some j → ¬ Fi j) ∧ Fr F w wr
set_option maxHeartbeats 2000000 in
set_option maxRecDepth 100000 in
theorem leaves_k (F : Nat → Prop) (B : Nat) (kv : Value) (N : List Nt) (c : Int) (n : Nat) (v : Value) (x : Nat → Pr) (w : World) (hk : bkAt kv w F N c) (hFB : ∀ j, F j → B ≤ j) (hB : B ≤ w.heap.size) (hp : ∀ wz, Below B w wz → pairsAt wz v n x ∧ tabIs wz) (hn : n ≤ 10000) (hx : ∀ i, i < n → (x i).1.length + (x i).2.length ≤ 1000000) (hF0 : ¬ F 1) (hN : N.length < 100000) (hc : 0 ≤ c ∧ c < 100000000) :
    Calls Tryd.prog 34 #[kv, v] w fun e w' => ∃ s, e = .returned s ∧ lvS w F kv N c x n s w' := by
  have hlt := hk.lt
  obtain ⟨w1, hmk, n1, b1⟩ := make_sums w n (by omega)
  have HP : Hid (∀ wz, Fr F w wz → pairsAt wz v n x ∧ tabIs wz) := (show _ from fun wz hz => hp wz (hz.below hFB hB))
  have hsl : ∃ a cap, v = .slice a n cap := by
    obtain ⟨a, cap, e, _⟩ := (hp w (Below.refl _ _)).1; exact ⟨a, cap, e⟩
  obtain ⟨va, vc, rfl⟩ := hsl
  have hn' : (n : Int) ≤ 10000 := by omega
  have hn0 : (0 : Int) ≤ (n : Int) := by omega
  have HX : Hid (∀ i, i < n → (x i).1.length + (x i).2.length ≤ 1000000) := (show _ from hx)
  have S0 : Hid (lvS w F kv N c x 0 (.slice (some ⟨w.heap.size, 0, none⟩) 0 n) w1) := (show lvS w F kv N c x 0 (.slice (some ⟨w.heap.size, 0, none⟩) 0 n) w1 from ⟨n1, F, by
    have := hk.below b1 (Nat.le_refl _)
    rw [show c + ((0 : Nat) : Int) = c by omega]; exact this, fun j hj => Or.inl hj, fun j hj hf => by
    have e : w.heap.size = j := by simpa [Value.ownBlock] using hj
    have := hlt j hf; omega, Fr.of_below F b1⟩)
  have HLT : Hid (∀ j, F j → j < w.heap.size) := (show _ from hlt)
  have HF0 : Hid (¬ F 1) := (show ¬ F 1 from hF0)
  have HTW : Hid (tabIs w) := (show tabIs w from (hp w (Below.refl _ _)).2)
  have HNC : Hid (N.length < 100000 ∧ 0 ≤ c ∧ c < 100000000) := (show _ from ⟨hN, hc⟩)
  clear n1 hk hp hx hlt hF0 hN hc hFB hB b1
  go_enter Tryd.func34, Tryd.ntmps34
  go_wp2_with (first | (refine wpList_make_run rfl _ _ _ rfl rfl rfl hmk ?_))
  clear hmk
  go_loopw [5, 13] (fun s i wr => ∃ k : Nat, k ≤ n ∧ i = .int .i64 k ∧ lvS w F kv N c x k s wr) (fun _ i _ => n - (intOf i).toNat)
  case atStart => exact ⟨0, by omega, rfl, S0.out⟩
  case round =>
    obtain ⟨k, hkn, rfl, hns, Fi, hbk, hFi, hsF, hfr⟩ := hrel
    have p0 : (0 : Int) ≤ (k : Int) := by omega
    clear S0
    by_cases hlt2 : k < n
    · have p1 : (k : Int) < (n : Int) := by omega
      obtain ⟨⟨a, cap, e, _, _, hc⟩, htr⟩ := HP.out wr hfr
      obtain ⟨g, o, kc, vc', e2, hg, c0, c1, hkc, hvc⟩ := hc k hlt2
      injection e with ea en ec
      subst ec
      subst ea
      subst e2
      clear en
      obtain ⟨ka, kcap, hke, _⟩ := hkc.slice
      obtain ⟨va', vcap, hve, _⟩ := hvc.slice
      subst hke hve
      obtain ⟨w2, hw2⟩ : ∃ w2, w2 = wr.alloc (.cells #[.slice ka (x k).1.length kcap, .slice va' (x k).2.length vcap] 38) := ⟨_, rfl⟩
      have b2 : Below wr.heap.size wr w2 := by rw [hw2]; exact (Below.refl _ _).alloc (Nat.le_refl _) _
      have hb0 : w2.heap[wr.heap.size]? = some (.cells #[.slice ka (x k).1.length kcap, .slice va' (x k).2.length vcap] 38) := by rw [hw2, blk_alloc_new]
      have d0 : w2.cell? ⟨wr.heap.size, 0, none⟩ = some (.slice ka (x k).1.length kcap) := by rw [cell_of_row _ _ _ _ _ _ hb0]; rfl
      have d1 : w2.cell? ⟨wr.heap.size, 1, none⟩ = some (.slice va' (x k).2.length vcap) := by rw [cell_of_row _ _ _ _ _ _ hb0]; rfl
      have hFi0 : ¬ Fi 1 := fun h => by
        rcases hFi 1 h with h | h
        · exact HF0.out h
        · have := HTW.out.1; omega
      have hNl : (leavesN N x k).length < 1000000 := by have := leavesN_len N x k; have := HNC.out.1; omega
      have X := leaf_k Fi kv (leavesN N x k) (c + k) _ _ (x k) w2 (hbk.below b2 (Nat.le_refl _)) (hkc.below b2 (Nat.le_refl _)) (hvc.below b2 (Nat.le_refl _)) (HX.out k hlt2) (htr.below b2 htr.1) hFi0 hNl (by have := HNC.out; omega)
      have X' : Calls Tryd.prog 63 #[kv, .agg #[.slice ka (x k).1.length kcap, .slice va' (x k).2.length vcap]] w2 fun e w' => e = .returned (.agg (rowV 32 (arrV (leafS (x k))))) ∧ bkAt kv w' (Gr Fi w2 w') (leavesN N x (k + 1)) (c + k + 1) ∧ Fr Fi w2 w' := X
      have hnl : (leavesTo x k).length = k := leavesTo_len x k
      obtain ⟨ua, uc, hue⟩ : ∃ ua uc, u5 = .slice ua k uc := by
        obtain ⟨a, c, e, _⟩ := ownsRow_slice hns.2
        rw [hnl] at e; exact ⟨a, c, e⟩
      subst hue
      have STEP : Hid (∀ w3, bkAt kv w3 (Gr Fi w2 w3) (leavesN N x (k + 1)) (c + k + 1) → Fr Fi w2 w3 → ∃ a c' w4, (Builtin.append_ #[39, 39] 39 #[.slice ua k uc, .slice (some ⟨w3.heap.size, 0, none⟩) 1 1]).run Tryd.prog (w3.alloc (.cells (rowV 32 (arrV (leafS (x k)))) 32)) = .ok (.slice a (k + 1) c') w4 ∧ lvS w F kv N c x (k + 1) (.slice a (k + 1) c') w4) := (show _ from fun w3 k3 f3 => by
        have s3 := f3.size
        have s2 := b2.size
        have sw := hfr.size
        have hns3 : newSums w3 w.heap.size (.slice ua k uc) (leavesTo x k) := (hns.below b2 (Nat.le_refl _)).far fun j hj => f3.block j (by have := (hns.block j hj).2; omega) (hsF j hj)
        obtain ⟨a, c', w4, hr, hn4, hg, hat⟩ := sums_one_more w3 w.heap.size _ _ (leafS (x k)) (leafS_sum _) hns3 (by omega) (by rw [hnl]; omega)
        rw [hnl] at hr hn4 hat
        have hlt4 := k3.lt
        refine ⟨a, c', w4, hr, by rw [leavesTo_succ]; exact hn4, Gr Fi w2 w3, ?_, fun j hj => ?_, fun j hj hG => ?_, ?_⟩
        · rw [show c + ((k + 1 : Nat) : Int) = c + k + 1 by omega]
          refine k3.far (fun j hj hl => hg.block j hl (fun e => ?_)) hg.size
          rcases hj with hj | hj
          · exact hsF j e.symm hj
          · have := (hns.block j e.symm).2; omega
        · rcases hj with hj | hj
          · exact hFi j hj
          · exact Or.inr (by omega)
        · rcases hat j hj with e | e
          · rcases hG with hG | hG
            · exact hsF j e hG
            · have := (hns.block j e).2; omega
          · have := hlt4 j hG; omega
        · refine ⟨hg.os.trans (f3.os.trans (b2.os.trans hfr.os)), hg.tape.trans (f3.tape.trans (b2.tape.trans hfr.tape)), hg.output.trans (f3.output.trans (b2.output.trans hfr.output)), by have := hg.size; omega, fun j hj hn => ?_⟩
          have nFi : ¬ Fi j := fun h => by
            rcases hFi j h with h | h
            · exact hn h
            · omega
          have e1 : w4.heap[j]? = w3.heap[j]? := hg.block j (by omega) (fun e => by have := (hns.block j e.symm).1; omega)
          exact e1.trans ((f3.block j (by omega) nFi).trans ((b2.block j (by omega)).trans (hfr.block j hj hn))))
      have hbl := fun wz => build_one (arrV (leafS (x k))) wz
      clear X hbk hFi hsF hfr hns hkc hvc hg htr hb0 b2 hnl hNl hFi0
      unfold sumV at X'
      go_upto_region 5 with fail
      rw [← hw2]
      clear hw2 c0 c1
      go_wp2_with fail
      refine X'.mono ?_
      rintro e w3 ⟨rfl, k3, f3⟩
      obtain ⟨a, c', w4, hr, hS⟩ := STEP.out w3 k3 f3
      have HS4 : Hid (lvS w F kv N c x (k + 1) (.slice a (k + 1) c') w4) := (show lvS w F kv N c x (k + 1) (.slice a (k + 1) c') w4 from hS)
      clear X' STEP k3 f3 hS d0 d1
      go_wp2_with (first | (refine wpList_build_run (v := .agg (rowV 32 (arrV (leafS (x k))))) rfl 39 1 0 (.tmp 20) rfl rfl (hbl w3) ?_; clear hbl) | (at_builtin; refine wpList_append_run rfl _ _ _ rfl rfl rfl hr ?_))
      go_light
      exact ⟨⟨k + 1, by omega, by go_num, HS4.out⟩, by simp [intOf]; omega⟩
    · obtain rfl : k = n := by omega
      have HS4 : Hid (lvS w F kv N c x k u5 wr) := (show lvS w F kv N c x k u5 wr from ⟨hns, Fi, hbk, hFi, hsF, hfr⟩)
      clear hns hbk hFi hsF hfr
      go_wp2
      go_ret
      exact ⟨_, rfl, HS4.out⟩
end Go.Proofs.YtkgegihkhdgdoaaDoor

namespace Go.Proofs.YtkgegihkhdgdoaaDoor
open Go.RowKit Go.Deep

set_option maxHeartbeats 1000000 in
theorem num_any (l : List Int) (v u : Value) (n : Nat) (f : Nat → Int) (w : World) (hv : isBytes w v l) (hu : isRow w u n (fun i => .int .u64 (f i))) (hf : ∀ i, i < n → 0 ≤ f i ∧ f i < 18446744073709551616) (hs : l.length + 9 * n ≤ 1000000000000) :
    Calls Tryd.prog 53 #[v, u] w fun e w' => ∃ v', e = .returned v' ∧ newBytes w' w.heap.size v' (l ++ flatTo (numsB f) n) ∧ Below w.heap.size w w' := by
  obtain ⟨a, cap, rfl, hnm, hcell⟩ := hu.open
  clear hu
  have hlen := flatTo_len_le (numsB f) 9 (numsB_le f)
  go_enter Tryd.func53, Tryd.ntmps53
  go_wp2
  go_loopw [5, 13] (fun z i wr => ∃ k : Nat, k ≤ n ∧ i = .int .i64 k ∧ z = .int .i64 ((flatTo (numsB f) k).length : Int) ∧ wr = w) (fun _ i _ => n - (intOf i).toNat)
  case atStart => exact ⟨0, by omega, rfl, rfl, rfl⟩
  case round =>
    obtain ⟨k, hk, rfl, rfl, hwr⟩ := hrel
    obtain rfl := hwr.symm
    clear hwr
    have hlk := hlen k
    by_cases hlt : k < n
    · obtain ⟨qb, qo, rfl, hq, hc⟩ := hcell k hlt
      obtain ⟨f0, f1⟩ := hf k hlt
      have b0 : (0 : Int) ≤ (k : Int) := by omega
      have b1 : (k : Int) < (n : Int) := by omega
      have hsz := szI_le (f k)
      have HL : Hid ((flatTo (numsB f) (k + 1)).length = (flatTo (numsB f) k).length + (1 + szI (f k))) := by
        have : (flatTo (numsB f) (k + 1)).length = (flatTo (numsB f) k).length + (1 + szI (f k)) := by rw [flatTo, List.length_append, numsB, numB_length]
        exact this
      generalize hLL : (flatTo (numsB f) k).length = L at *
      have hL : (L : Int) ≤ 1000000000000 := by omega
      go_wp2_with (first | (go_at_call 78; refine (numberSize_any (f k) f0 f1 _).mono ?_; rintro e w' ⟨rfl, hw⟩; obtain rfl := hw.symm; clear hw))
      go_light
      exact ⟨⟨k + 1, by omega, by go_num, by rw [HL.out]; go_num, trivial⟩, by simp [intOf]; omega⟩
    · obtain rfl : k = n := by omega
      have hL9 := hlen k
      generalize hLL : (flatTo (numsB f) k).length = L at *
      go_wp2_with (first | (go_at_call 79; refine (withRoom_any l v L _ hv (by omega)).mono ?_; rintro e w1 ⟨v1, rfl, hn1, hb1⟩))
      have HN : Hid _ := hn1
      have HB : Hid _ := hb1
      clear hn1 hb1 hLL
      go_loopw [8, 27] (fun z i wr => ∃ j : Nat, j ≤ k ∧ i = .int .i64 j ∧ newBytes wr w.heap.size z (l ++ flatTo (numsB f) j) ∧ Below w.heap.size w wr) (fun _ i _ => k - (intOf i).toNat)
      case atStart => exact ⟨0, by omega, rfl, by rw [flatTo, List.append_nil]; exact HN.out, HB.out⟩
      case round =>
        clear HN HB
        obtain ⟨j, hj, rfl, hn, hb⟩ := hrel
        by_cases hlt2 : j < k
        · obtain ⟨qb, qo, rfl, hq, hc⟩ := hcell j hlt2
          obtain ⟨f0, f1⟩ := hf j hlt2
          have b0 : (0 : Int) ≤ (j : Int) := by omega
          have b1 : (j : Int) < (k : Int) := by omega
          have hlj := hlen j
          rw [← hb.cell (p := ⟨qb, qo + j, none⟩) hq] at hc
          have HN : Hid _ := hn
          clear hn
          go_wp2_with (first | (go_at_call 80; refine (addNumber_any (f j) f0 f1 _ _ _ _ HN.out (by rw [List.length_append]; omega) hb.size).mono ?_; rintro e w2 ⟨v2, rfl, hn2, hb2⟩))
          go_light
          exact ⟨⟨j + 1, by omega, by go_num, by rw [flatTo, ← List.append_assoc]; exact hn2, hb.trans hb2⟩, by simp [intOf]; omega⟩
        · obtain rfl : j = k := by omega
          have HN : Hid _ := hn
          clear hn
          go_wp2
          go_ret
          exact ⟨_, rfl, HN.out, hb⟩
end Go.Proofs.YtkgegihkhdgdoaaDoor

/- The document's Node and Root. -/
namespace Go.Proofs.YtkgegihkhdgdoaaDoor
set_option linter.unusedSimpArgs false
set_option linter.unusedVariables false
open Go.RowKit Go.Deep

theorem row_bytes {w : World} {b : Nat} {t : TypeId} {p : List Int} (h : w.rowIs b t 32 (arrV p)) (hp : isSum p) : isBytes w (.slice (some ⟨b, 0, none⟩) 32 32) p :=
  Or.inr ⟨b, 0, 32, by rw [hp.1], by rw [hp.1]; exact Nat.le_refl _, by unfold maxLen; omega, h.lt, fun i hi => by rw [Nat.zero_add, h.cell (by rw [hp.1] at hi; exact hi)]; rfl, hp.2⟩
end Go.Proofs.YtkgegihkhdgdoaaDoor

/- keyed.rootOf, keyed.Root. -/
namespace Go.Proofs.YtkgegihkhdgdoaaDoor
set_option linter.unusedSimpArgs false
set_option linter.unusedVariables false
open Go.RowKit Go.Deep

/-- a book that was handed on, and then a box that is written into. -/
theorem book_done {F : Nat → Prop} {kv : Value} {N' : List Nt} {c' : Int} {w w3 w4 w5 : World} {b : Nat} (hlt : ∀ j, F j → j < w.heap.size) (hb : w.heap.size ≤ b) (hb3 : b < w3.heap.size) (b03 : Below w.heap.size w w3) (k4 : bkAt kv w4 (Gr F w3 w4) N' c') (f4 : Fr F w3 w4) (b5 : But w4.heap.size b w4 w5) (z5 : w5.heap.size = w4.heap.size) :
    bkAt kv w5 (Gr F w w5) N' c' ∧ Fr F w w5 := by
  have s3 := f4.size
  have s0 := b03.size
  have nF : ∀ j, w.heap.size ≤ j → ¬ F j := fun j hj hf => by have := hlt j hf; omega
  refine ⟨?_, ?_⟩
  · refine (bkAt.far k4 (fun j hj hl => b5.block j hl (fun e => ?_)) b5.size).grow (fun j hj => ?_) (fun j hj => ?_)
    · rcases hj with hj | hj
      · exact nF j (by omega) hj
      · omega
    · rcases hj with hj | hj
      · exact Or.inl hj
      · exact Or.inr ⟨by omega, by omega⟩
    · rcases hj with hj | hj
      · have := hlt j hj; omega
      · exact hj.2
  · exact ⟨b5.os.trans (f4.os.trans b03.os), b5.tape.trans (f4.tape.trans b03.tape), b5.output.trans (f4.output.trans b03.output), by omega, fun j hj hn => (b5.block j (by omega) (by omega)).trans ((f4.block j (by omega) hn).trans (b03.block j hj))⟩
def kroot (count : Int) (s : List Int) (i : Nat) : List Int := if i = 0 then numB count else s
def krootB (count : Int) (s : List Int) : List Int := preB 5 2 (kroot count s)
/-- the root of so many pairs, whose leaves have the root s. -/
def krootS (count : Int) (s : List Int) : List Int := sumL (krootB count s)
def krootNt (count : Int) (s : List Int) : Nt := (krootS count s, strOf (krootB count s))
theorem krootS_sum (count : Int) (s : List Int) : isSum (krootS count s) := sumL_is _
theorem kroot_light (count : Int) (s : List Int) (hs : isSum s) : ∀ i, i ≤ 2 → 1 + (flatTo (blobsB (kroot count s)) i).length ≤ 100000000 := fun i hi => by
  have h1 := flatTo_mono (blobsB (kroot count s)) 2 i hi
  have h2 : (flatTo (blobsB (kroot count s)) 2).length = (blobB (numB count)).length + (blobB s).length := by
    show (([] ++ blobB (numB count)) ++ blobB s).length = _
    rw [List.nil_append, List.length_append]
  have h3 := blobB_le (numB count)
  have h4 := blobB_le s
  have h5 := numB_le count
  have h6 := hs.1
  omega
theorem wrapU63 (n : Int) (h0 : 0 ≤ n) (h1 : n ≤ 9223372036854775807) : IntKind.wrap .u64 n = n := by
  have e : IntKind.u64.wrap n = n % 18446744073709551616 := by simp [IntKind.wrap, IntKind.bits, IntKind.signed]
  rw [e]; omega
theorem build_u64 (x : Int) (w : World) : (Instr.buildSlice 126 1 #[(0, .int .u64 x)]).run Tryd.prog w = .ok (.slice (some ⟨w.heap.size, 0, none⟩) 1 1) (w.alloc (.cells #[.int .u64 x] 94)) := by
  show (_ : Result Value) = _
  kernel_rfl
theorem build_parts2 (a b : Option Addr) (n m c d : Nat) (w : World) : (Instr.buildSlice 130 2 #[(0, .slice a n c), (1, .slice b m d)]).run Tryd.prog w = .ok (.slice (some ⟨w.heap.size, 0, none⟩) 2 2) (w.alloc (.cells #[.slice a n c, .slice b m d] 23)) := by
  show (_ : Result Value) = _
  kernel_rfl
theorem row_u64 (w : World) (x : Int) : isRow (w.alloc (.cells #[.int .u64 x] 94)) (.slice (some ⟨w.heap.size, 0, none⟩) 1 1) 1 (fun _ => .int .u64 x) := by
  refine Or.inr ⟨w.heap.size, 0, 1, rfl, by simp, by decide, fun i hi => ?_⟩
  obtain rfl : i = 0 := by omega
  rw [cell_of_row _ _ _ _ _ _ (blk_alloc_new w (.cells #[.int .u64 x] 94))]; rfl
set_option maxHeartbeats 4000000 in
set_option maxRecDepth 100000 in
theorem rootOf_k (F : Nat → Prop) (kv : Value) (N : List Nt) (c count : Int) (s : List Int) (w : World) (hk : bkAt kv w F N c) (h0 : 0 ≤ count) (h63 : count ≤ 9223372036854775807) (hs : isSum s) (ht : tabIs w) (hF0 : ¬ F 1) (hN : N.length < 1000000) (hc : 0 ≤ c ∧ c < 1000000000) :
    Calls Tryd.prog 39 #[kv, .int .i64 count, .agg (rowV 32 (arrV s))] w fun e w' => e = .returned (sumV (krootS count s)) ∧ bkAt kv w' (Gr F w w') (addN N (krootNt count s)) (c + 1) ∧ Fr F w w' := by
  have hz32 := zero_s32
  have hlt := hk.lt
  obtain ⟨w1, hw1⟩ : ∃ w1, w1 = (w.alloc (.cells (rowV 32 (arrV s)) 32)).alloc (.cells (rowV 32 (fun _ => .int .u8 0)) 32) := ⟨_, rfl⟩
  have b1 : Below w.heap.size w w1 := by rw [hw1]; exact ((Below.refl _ _).alloc (Nat.le_refl _) _).alloc (by simp) _
  have z1 : w1.heap.size = w.heap.size + 2 := by rw [hw1]; simp
  have rs : w1.rowIs w.heap.size 32 32 (arrV s) := by
    have r := rowIs_box w 32 32 (arrV s)
    rw [hw1]; exact ((Below.refl (w.alloc (.cells (rowV 32 (arrV s)) 32)).heap.size _).alloc (Nat.le_refl _) _).row r (by simp)
  have rz : w1.rowIs (w.heap.size + 1) 32 32 (fun _ => .int .u8 0) := by
    have r := rowIs_box (w.alloc (.cells (rowV 32 (arrV s)) 32)) 32 32 (fun _ => .int .u8 0)
    rw [World.size_alloc] at r; rw [hw1]; exact r
  have hwu : IntKind.wrap .u64 count = count := wrapU63 count h0 h63
  have FACT : Hid (∀ wz, Below w1.heap.size w1 wz → Below w.heap.size w wz ∧ bkAt kv wz F N c ∧ wz.rowIs w.heap.size 32 32 (arrV s) ∧ wz.rowIs (w.heap.size + 1) 32 32 (fun _ => .int .u8 0) ∧ tabIs wz) := (show _ from fun wz hz => by
    have hz' : Below w.heap.size w wz := b1.trans (hz.mono (by omega))
    exact ⟨hz', hk.below hz' (Nat.le_refl _), hz.row rs (by omega), hz.row rz (by omega), ht.below hz' ht.1⟩)
  have HLT : Hid (∀ j, F j → j < w.heap.size) := (show _ from hlt)
  have Z1 : Hid (w1.heap.size = w.heap.size + 2) := (show w1.heap.size = w.heap.size + 2 from z1)
  clear hk ht hlt b1 z1 rs rz
  unfold sumV
  go_enter Tryd.func39, Tryd.ntmps39
  go_upto_region 1 with fail
  rw [← hw1]
  clear hw1
  refine wp_region_noPanic ?_
  refine wp_region_held_drew (S := fun w' => True) (by kernel_rfl) trivial (fun hHeld => ?_)
  refine take_op (i := 0) (v := ?va0) rfl (by kernel_rfl) (by kernel_rfl) (by kernel_rfl) (fun _ _ _ h => h) rfl hHeld ?ya0 ?ra0
  case ya0 => (intro wz hz; go_simp; first | done | with_reducible rfl)
  try simp only [Act.put, List.setIfInBounds_toArray, List.set_cons_zero, List.set_cons_succ]
  refine take_op (i := 1) (v := ?va1) rfl (by kernel_rfl) (by kernel_rfl) (by kernel_rfl) (fun _ _ _ h => h) rfl hHeld ?ya1 ?ra1
  case ya1 => (intro wz hz; go_simp; first | done | with_reducible rfl)
  try simp only [Act.put, List.setIfInBounds_toArray, List.set_cons_zero, List.set_cons_succ]
  refine take_op (i := 2) (v := ?va2) rfl (by kernel_rfl) (by kernel_rfl) (by kernel_rfl) (fun _ _ _ h => h) rfl hHeld ?ya2 ?ra2
  case ya2 => (intro wz hz; go_simp; first | done | with_reducible rfl)
  try simp only [Act.put, List.setIfInBounds_toArray, List.set_cons_zero, List.set_cons_succ]
  refine take_op (i := 5) (v := ?va5) rfl (by kernel_rfl) (by kernel_rfl) (by kernel_rfl) (fun _ _ _ h => h) rfl hHeld ?ya5 ?ra5
  case ya5 => (intro wz hz; go_simp; first | done | with_reducible rfl)
  try simp only [Act.put, List.setIfInBounds_toArray, List.set_cons_zero, List.set_cons_succ]
  refine take_one (i := 3) rfl (by kernel_rfl) rfl (fun K hK => ?_)
  refine wp_of_run (exec_bslice1' 126 1 0 (.tmp 9) (.int .u64 count) rfl rfl (build_u64 count w1.drew)) ?_
  have b2 : Below w1.heap.size w1 (w1.drew.alloc (.cells #[.int .u64 count] 94)) := ((Below.refl w1.heap.size w1).drew).alloc (Nat.le_refl _) _
  have XN := num_any [] (.slice none 0 0) _ 1 (fun _ => count) _ (Or.inl ⟨rfl, rfl⟩) (row_u64 w1.drew count) (fun i hi => ⟨h0, by omega⟩) (by simp)
  rw [show ([] : List Int) ++ flatTo (numsB fun _ => count) 1 = numB count by simp [flatTo, numsB]] at XN
  generalize w1.drew.alloc (.cells #[.int .u64 count] 94) = w2 at b2 XN ⊢
  refine hK.out _ _ trivial (fun hHeld => ?_)
  clear hK K
  try simp only [Act.put, List.setIfInBounds_toArray, List.set_cons_zero, List.set_cons_succ]
  refine take_one (i := 4) rfl (by kernel_rfl) rfl (fun K hK => ?_)
  go_simp
  refine Calls.mono XN ?_
  rintro e w3 ⟨nv, rfl, n3, b3⟩
  have b13 : Below w1.heap.size w1 w3 := b2.trans (b3.mono b2.size)
  have hn3 := n3.is
  obtain ⟨na, nc, rfl, _⟩ := hn3.slice
  refine hK.out _ _ trivial (fun hHeld => ?_)
  clear hK K XN b2 b3 n3
  try simp only [Act.put, List.setIfInBounds_toArray, List.set_cons_zero, List.set_cons_succ]
  refine take_one (i := 6) rfl (by kernel_rfl) rfl (fun K hK => ?_)
  refine wp_of_run (exec_bslice2' 130 2 0 1 (.tmp 11) (.tmp 12) (.slice na (numB count).length nc) (.slice (some ⟨w.heap.size, 0, none⟩) 32 32) rfl rfl rfl (build_parts2 _ _ _ _ _ _ w3)) ?_
  obtain ⟨w4, hw4⟩ : ∃ w4, w4 = w3.alloc (.cells #[.slice na (numB count).length nc, .slice (some ⟨w.heap.size, 0, none⟩) 32 32] 23) := ⟨_, rfl⟩
  have b34 : Below w3.heap.size w3 w4 := by rw [hw4]; exact (Below.refl _ _).alloc (Nat.le_refl _) _
  have z4 : w4.heap.size = w3.heap.size + 1 := by rw [hw4]; simp
  have hp4 : isParts w4 (.slice (some ⟨w3.heap.size, 0, none⟩) 2 2) 2 (kroot count s) := by
    have hpp := parts_two w3 _ _ (numB count, s) (Or.inl hn3) (Or.inl (row_bytes (FACT.out w3 b13).2.2.1 hs))
    rw [hw4]; exact hpp
  have b14 : Below w1.heap.size w1 w4 := b13.trans (b34.mono b13.size)
  obtain ⟨b04, hk4, _, rz4, ht4⟩ := FACT.out w4 b14
  have X := of_k F kv N c 5 2 _ (kroot count s) w4 hk4 hp4.any (kroot_light count s hs) ht4 hF0 hN hc
  have X' : Calls Tryd.prog 69 #[kv, .int .i64 5, .slice (some ⟨w3.heap.size, 0, none⟩) 2 2] w4 fun e w' => e = .returned (.agg (rowV 32 (arrV (krootS count s)))) ∧ bkAt kv w' (Gr F w4 w') (addN N (krootNt count s)) (c + 1) ∧ Fr F w4 w' := X
  have s13 := b13.size
  rw [← hw4]
  refine hK.out _ _ trivial (fun hHeld => ?_)
  clear hK K hw4 X hn3 hp4 hk4 ht4 b13 b34 b14
  try simp only [Act.put, List.setIfInBounds_toArray, List.set_cons_zero, List.set_cons_succ]
  refine take_one (i := 7) rfl (by kernel_rfl) rfl (fun K hK => ?_)
  go_simp
  refine Calls.mono X' ?_
  rintro e w5 ⟨rfl, k5, f5⟩
  have rz5 : w5.rowIs (w.heap.size + 1) 32 32 (fun _ => .int .u8 0) := World.rowIs.of_block rz4 (f5.block _ (by have := Z1.out; omega) (fun hf => by have := HLT.out _ hf; omega))
  refine hK.out _ _ trivial (fun hHeld => ?_)
  clear hK K X' rz4
  try simp only [Act.put, List.setIfInBounds_toArray, List.set_cons_zero, List.set_cons_succ]
  obtain ⟨r6, z6, bu6⟩ := stow32T_row w5 (w.heap.size + 1) (krootS count s) rz5
  have hst := stow32T_run w5 (w.heap.size + 1) (krootS count s) rz5
  generalize w5.setCells (w.heap.size + 1) 0 (rowV 32 (arrV (krootS count s))).toList = w6 at r6 z6 bu6 hst
  have DONE : Hid (bkAt kv w6 (Gr F w w6) (addN N (krootNt count s)) (c + 1) ∧ Fr F w w6) := (show _ ∧ _ from book_done HLT.out (by omega) (by have := Z1.out; omega) b04 k5 f5 bu6 z6)
  refine take_one (i := 8) rfl (by kernel_rfl) rfl (fun K hK => ?_)
  unfold Oper.wp execOp
  simp only [Instr.storeAt, Instr.sureAddr, Sem.run_bind, Sem.run_pure, Result.andThen_ok]
  simp [Act.eval, hst, Oper.upon]
  refine hK.out _ _ trivial (fun hHeld => ?_)
  clear hK K hst bu6 z6 k5 f5 b04 rz5
  try simp only [Act.put, List.setIfInBounds_toArray, List.set_cons_zero, List.set_cons_succ]
  refine wpAnyH_done (by kernel_rfl) ?_ _
  refine NoPanic.normal ?_
  have R6 : Hid (w6.rowIs (w.heap.size + 1) 32 32 (arrV (krootS count s))) := (show w6.rowIs (w.heap.size + 1) 32 32 (arrV (krootS count s)) from r6)
  clear r6
  go_wp2
  exact bodyPost_ret (results_cell_seg rfl _ _ (w.heap.size + 1) 32 32 (arrV (krootS count s)) _ rfl Tryd.underlying32 rfl hi32' R6.out) rfl ⟨rfl, DONE.out⟩
end Go.Proofs.YtkgegihkhdgdoaaDoor

/- The document's leaf of a pair, and whole. -/
namespace Go.Proofs.YtkgegihkhdgdoaaDoor
set_option linter.unusedSimpArgs false
set_option linter.unusedVariables false
open Go.RowKit Go.Deep

end Go.Proofs.YtkgegihkhdgdoaaDoor

namespace Go.Proofs.YtkgegihkhdgdoaaDoor
open Go.RowKit Go.Deep

/-- v is a slice of n sums. -/
def isSumsK (w : World) (v : Value) (n : Nat) (g : Nat → List Int) : Prop :=
  (∀ i, i < n → (g i).length = 32 ∧ ∀ j, 0 ≤ (g i).getD j 0 ∧ (g i).getD j 0 ≤ 255) ∧ ∃ a cap, v = .slice a n cap ∧ n ≤ maxLen ∧ ∀ k, k < n → ∃ qb qo, a = some ⟨qb, qo, none⟩ ∧ qb < w.heap.size ∧ ∀ j, j < 32 → w.cell? ⟨qb, qo + k * 32 + j, none⟩ = some (arrV (g k) j)
theorem isSumsK.open {w : World} {v : Value} {n : Nat} {g : Nat → List Int} (h : isSumsK w v n g) :
    ∃ a cap, v = .slice a n cap ∧ n ≤ maxLen ∧ ∀ k, k < n → ∃ qb qo, a = some ⟨qb, qo, none⟩ ∧ qb < w.heap.size ∧ ∀ j, j < 32 → w.cell? ⟨qb, qo + k * 32 + j, none⟩ = some (arrV (g k) j) := h.2
theorem isBytes_row' {w : World} {g : Nat} {q : List Int} (hr : w.rowIs g 32 32 (arrV q)) (hq : q.length = 32) (hb : ∀ i, 0 ≤ q.getD i 0 ∧ q.getD i 0 ≤ 255) : isBytes w (.slice (some ⟨g, 0, none⟩) 32 32) q :=
  Or.inr ⟨g, 0, 32, by rw [hq], by omega, by unfold maxLen; omega, World.block_lt_of_cell? _ _ (hr.cell (i := 0) (by omega)), fun i hi => by rw [Nat.zero_add]; exact hr.cell (by omega), hb⟩
theorem flatTo_32 (g : Nat → List Int) (n : Nat) (h : ∀ i, i < n → (g i).length = 32) : ∀ k, k ≤ n → (flatTo g k).length = 32 * k
  | 0, _ => rfl
  | k + 1, hk => by rw [flatTo, List.length_append, flatTo_32 g n h k (by omega), h k (by omega)]; omega
set_option maxHeartbeats 1000000 in
set_option maxRecDepth 100000 in
theorem sums_any (l : List Int) (v u : Value) (n : Nat) (g : Nat → List Int) (w : World) (hv : isBytes w v l) (hu : isSumsK w u n g) (hs : l.length + 32 * n ≤ 1000000000000) :
    Calls Tryd.prog 82 #[v, u] w fun e w' => ∃ v', e = .returned v' ∧ newBytes w' w.heap.size v' (l ++ flatTo g n) ∧ Below w.heap.size w w' := by
  obtain ⟨a, cap, rfl, hnm, hcell⟩ := hu.open
  have h32 := hu.1
  have hlen := flatTo_32 g n (fun i hi => (h32 i hi).1)
  clear hu
  have q0 : (n : Int) ≤ 1000000000000 := by omega
  go_enter Tryd.func82, Tryd.ntmps82
  have K := withRoom_any l v (32 * n) w hv (by omega)
  rw [show ((32 * n : Nat) : Int) = 32 * (n : Int) by omega] at K
  go_wp2_with fail
  refine K.mono ?_
  rintro e w1 ⟨v1, rfl, hn1, hb1⟩
  have HN : Hid _ := hn1
  have HB : Hid _ := hb1
  clear hn1 hb1 K hv
  go_wp2
  go_loopw [5, 15] (fun z i wr => ∃ j : Nat, j ≤ n ∧ i = .int .i64 j ∧ newBytes wr w.heap.size z (l ++ flatTo g j) ∧ Below w.heap.size w wr) (fun _ i _ => n - (intOf i).toNat)
  case atStart => exact ⟨0, by omega, rfl, by rw [flatTo, List.append_nil]; exact HN.out, HB.out⟩
  case round =>
    clear HN HB
    obtain ⟨j, hj, rfl, hn, hb⟩ := hrel
    by_cases hlt2 : j < n
    · obtain ⟨qb, qo, rfl, hq, hc⟩ := hcell j hlt2
      obtain ⟨g1, g2⟩ := h32 j hlt2
      have b0 : (0 : Int) ≤ (j : Int) := by omega
      have b1 : (j : Int) < (n : Int) := by omega
      have hlj := hlen j (by omega)
      have cl : ∀ i, i < 32 → wr.cell? ⟨qb, qo + j * 32 + i, none⟩ = some (arrV (g j) i) := fun i hi => by rw [hb.cell (p := ⟨qb, qo + j * 32 + i, none⟩) hq]; exact hc i hi
      have hz := rowIs_zero wr #[.int .u8 0, .int .u8 0, .int .u8 0, .int .u8 0, .int .u8 0, .int .u8 0, .int .u8 0, .int .u8 0, .int .u8 0, .int .u8 0, .int .u8 0, .int .u8 0, .int .u8 0, .int .u8 0, .int .u8 0, .int .u8 0, .int .u8 0, .int .u8 0, .int .u8 0, .int .u8 0, .int .u8 0, .int .u8 0, .int .u8 0, .int .u8 0, .int .u8 0, .int .u8 0, .int .u8 0, .int .u8 0, .int .u8 0, .int .u8 0, .int .u8 0, .int .u8 0] 32 32 (.int .u8 0) rfl
      have hba : Below wr.heap.size wr (wr.alloc (.cells #[.int .u8 0, .int .u8 0, .int .u8 0, .int .u8 0, .int .u8 0, .int .u8 0, .int .u8 0, .int .u8 0, .int .u8 0, .int .u8 0, .int .u8 0, .int .u8 0, .int .u8 0, .int .u8 0, .int .u8 0, .int .u8 0, .int .u8 0, .int .u8 0, .int .u8 0, .int .u8 0, .int .u8 0, .int .u8 0, .int .u8 0, .int .u8 0, .int .u8 0, .int .u8 0, .int .u8 0, .int .u8 0, .int .u8 0, .int .u8 0, .int .u8 0, .int .u8 0] 32)) := (Below.refl _ _).alloc (Nat.le_refl _) _
      have hsa : (wr.alloc (.cells #[.int .u8 0, .int .u8 0, .int .u8 0, .int .u8 0, .int .u8 0, .int .u8 0, .int .u8 0, .int .u8 0, .int .u8 0, .int .u8 0, .int .u8 0, .int .u8 0, .int .u8 0, .int .u8 0, .int .u8 0, .int .u8 0, .int .u8 0, .int .u8 0, .int .u8 0, .int .u8 0, .int .u8 0, .int .u8 0, .int .u8 0, .int .u8 0, .int .u8 0, .int .u8 0, .int .u8 0, .int .u8 0, .int .u8 0, .int .u8 0, .int .u8 0, .int .u8 0] 32)).heap.size = wr.heap.size + 1 := by simp
      have key : ∀ w3 : World, w3.rowIs wr.heap.size 32 32 (fun i => if 0 ≤ i ∧ i < 0 + 32 then arrV (g j) (i - 0) else .int .u8 0) → w3.heap.size = (wr.alloc (.cells #[.int .u8 0, .int .u8 0, .int .u8 0, .int .u8 0, .int .u8 0, .int .u8 0, .int .u8 0, .int .u8 0, .int .u8 0, .int .u8 0, .int .u8 0, .int .u8 0, .int .u8 0, .int .u8 0, .int .u8 0, .int .u8 0, .int .u8 0, .int .u8 0, .int .u8 0, .int .u8 0, .int .u8 0, .int .u8 0, .int .u8 0, .int .u8 0, .int .u8 0, .int .u8 0, .int .u8 0, .int .u8 0, .int .u8 0, .int .u8 0, .int .u8 0, .int .u8 0] 32)).heap.size → But (wr.alloc (.cells #[.int .u8 0, .int .u8 0, .int .u8 0, .int .u8 0, .int .u8 0, .int .u8 0, .int .u8 0, .int .u8 0, .int .u8 0, .int .u8 0, .int .u8 0, .int .u8 0, .int .u8 0, .int .u8 0, .int .u8 0, .int .u8 0, .int .u8 0, .int .u8 0, .int .u8 0, .int .u8 0, .int .u8 0, .int .u8 0, .int .u8 0, .int .u8 0, .int .u8 0, .int .u8 0, .int .u8 0, .int .u8 0, .int .u8 0, .int .u8 0, .int .u8 0, .int .u8 0] 32)).heap.size wr.heap.size (wr.alloc (.cells #[.int .u8 0, .int .u8 0, .int .u8 0, .int .u8 0, .int .u8 0, .int .u8 0, .int .u8 0, .int .u8 0, .int .u8 0, .int .u8 0, .int .u8 0, .int .u8 0, .int .u8 0, .int .u8 0, .int .u8 0, .int .u8 0, .int .u8 0, .int .u8 0, .int .u8 0, .int .u8 0, .int .u8 0, .int .u8 0, .int .u8 0, .int .u8 0, .int .u8 0, .int .u8 0, .int .u8 0, .int .u8 0, .int .u8 0, .int .u8 0, .int .u8 0, .int .u8 0] 32)) w3 →
          ∃ v4 w4, (Builtin.append_ #[23, 23] 23 #[u5, .slice (some ⟨wr.heap.size, 0, none⟩) 32 32]).run Tryd.prog w3 = .ok v4 w4 ∧ newBytes w4 w.heap.size v4 (l ++ flatTo g (j + 1)) ∧ Below w.heap.size w w4 := fun w3 r3 hz3 hb3 => by
        have hr3 : w3.rowIs wr.heap.size 32 32 (arrV (g j)) := r3.congr (fun i hi => by rw [if_pos (by omega)]; rfl)
        have hB3 : Below w.heap.size w w3 := (hb.trans (hba.mono hb.size)).trans ((hb3.mono (by have := hb.size; omega)).below hb.size)
        have hn3 : newBytes w3 w.heap.size u5 (l ++ flatTo g j) := ⟨hn.1.far (fun k hk => by
          have := hn.block k hk
          exact (hb3.block k (by omega) (by omega)).trans (hba.block k (by omega))), hn.2⟩
        obtain ⟨v4, w4, hr4, hn4, hg4, _⟩ := bytes_append_run w3 w.heap.size u5 _ _ (g j) hn3 (isBytes_row' hr3 g1 g2) (by rw [List.length_append]; omega) (by have := hb.size; omega)
        refine ⟨v4, w4, hr4, by rw [flatTo, ← List.append_assoc]; exact hn4, hB3.trans (below_grown hg4 (fun k hk => (hn3.block k hk).1) (by have := hb.size; omega))⟩
      have CL : Hid _ := cl
      have KEY : Hid _ := key
      clear hn cl hcell hc h32 hlen key hb hba
      go_wp2_with (first | (refine wpList_load_seg rfl 32 _ rfl qb (qo + j * 32) 32 (arrV (g j)) rfl _ Tryd.underlying32 rfl hi32' CL.out ?_) | (refine wpList_store_row rfl 32 _ _ rfl rfl wr.heap.size 0 32 (arrV (g j)) rfl rfl hi32' (fun _ _ => rfl) _ _ _ hz (by omega) ?_; intro w3 r3 hz3 hb3; obtain ⟨v4, w4, hr4, hn4, hb4⟩ := KEY.out w3 r3 hz3 hb3) | (at_builtin; refine wpList_append_run rfl (.tmp 19) (.tmp 20) _ rfl rfl rfl hr4 ?_))
      have HN4 : Hid _ := hn4
      have HB4 : Hid _ := hb4
      clear hn4 hb4 hb3 r3 hr4 KEY CL hz
      go_light
      exact ⟨⟨j + 1, by omega, by go_num, HN4.out, HB4.out⟩, by simp [intOf]; omega⟩
    · obtain rfl : j = n := by omega
      have HN : Hid _ := hn
      clear hn hcell
      go_wp2
      go_ret
      exact ⟨_, rfl, HN.out, hb⟩
end Go.Proofs.YtkgegihkhdgdoaaDoor

/- keyed.May. -/
namespace Go.Proofs.YtkgegihkhdgdoaaDoor
set_option linter.unusedSimpArgs false
set_option linter.unusedVariables false
open Go.RowKit Go.Deep

/-- their keys rise. -/
def mayP (x : Nat → Pr) (n : Nat) : Prop := ∀ i, i + 1 < n → cmpI (x i).1 (x (i + 1)).1 < 0
def mayB (x : Nat → Pr) (n : Nat) : Bool := (List.range (n - 1)).all fun i => decide (cmpI (x i).1 (x (i + 1)).1 < 0)
theorem mayB_is (x : Nat → Pr) (n : Nat) : mayB x n = true ↔ mayP x n := by
  unfold mayB mayP
  rw [List.all_eq_true]
  constructor
  · intro h i hi
    have := h i (List.mem_range.2 (by omega))
    exact of_decide_eq_true this
  · intro h i hi
    exact decide_eq_true (h i (by have := List.mem_range.1 hi; omega))
/-- a row of pairs, opened at a place, in any later world. -/
theorem pairsAt.at {w : World} {v : Value} {n : Nat} {x : Nat → Pr} (h : pairsAt w v n x) (h0 : 0 < n) : ∃ g o cap, v = .slice (some ⟨g, o, none⟩) n cap ∧ g < w.heap.size ∧ n ≤ cap ∧ cap ≤ maxLen ∧ ∀ i, i < n → ∃ ka kcap va vcap, ∀ wz, Below w.heap.size w wz →
    wz.cell? ⟨g, o + i * 2, none⟩ = some (.slice ka (x i).1.length kcap) ∧ wz.cell? ⟨g, o + i * 2 + 1, none⟩ = some (.slice va (x i).2.length vcap) ∧ anyBytes wz (.slice ka (x i).1.length kcap) (x i).1 ∧ anyBytes wz (.slice va (x i).2.length vcap) (x i).2 := by
  obtain ⟨a, cap, rfl, h2, h3, h4⟩ := h
  obtain ⟨g, o, _, _, e0, hg, _⟩ := h4 0 h0
  refine ⟨g, o, cap, by rw [e0], hg, h2, h3, fun i hi => ?_⟩
  obtain ⟨g', o', kc, vc, e, hg', c0, c1, k1, k2⟩ := h4 i hi
  obtain ⟨rfl, rfl⟩ : g = g' ∧ o = o' := by
    have := e0.symm.trans e
    simpa using this
  obtain ⟨ka, kcap, rfl, _⟩ := k1.slice
  obtain ⟨va, vcap, rfl, _⟩ := k2.slice
  exact ⟨ka, kcap, va, vcap, fun wz hz => ⟨(hz.cell (p := ⟨g, o + i * 2, none⟩) hg).trans c0, (hz.cell (p := ⟨g, o + i * 2 + 1, none⟩) hg).trans c1, k1.below hz (Nat.le_refl _), k2.below hz (Nat.le_refl _)⟩⟩
set_option maxHeartbeats 2000000 in
set_option maxRecDepth 100000 in
theorem may_any (n : Nat) (v : Value) (x : Nat → Pr) (w : World) (hp : pairsAt w v n x) :
    Calls Tryd.prog 13 #[v] w fun e w' => e = .returned (.bool (mayB x n)) ∧ Below w.heap.size w w' := by
  have hnm : (n : Int) ≤ 9223372036854775807 := by
    obtain ⟨_, cap, _, h2, h3, _⟩ := hp; unfold maxLen at h3; omega
  have HP : Hid (pairsAt w v n x) := (show pairsAt w v n x from hp)
  have hsl : ∃ a cap, v = .slice a n cap := by
    obtain ⟨a, cap, e, _⟩ := hp; exact ⟨a, cap, e⟩
  obtain ⟨va, vc, rfl⟩ := hsl
  clear hp
  have hn0 : (0 : Int) ≤ (n : Int) := by omega
  go_enter Tryd.func13, Tryd.ntmps13
  go_wp2_with fail
  go_loopw [3] (fun i wr => ∃ j : Nat, (j + 1 ≤ n ∨ j = 0) ∧ i = .int .i64 ((j : Int) + 1) ∧ (∀ i, i + 1 < j + 1 → cmpI (x i).1 (x (i + 1)).1 < 0) ∧ Below w.heap.size w wr) (fun i _ => n - (intOf i).toNat)
  case atStart => exact ⟨0, Or.inr rfl, rfl, fun i hi => by omega, Below.refl _ _⟩
  case round =>
    obtain ⟨j, hj, rfl, hall, hb⟩ := hrel
    have p0 : (0 : Int) ≤ (j : Int) := by omega
    by_cases hlt : j + 1 < n
    · have p1 : (j : Int) + 1 < (n : Int) := by omega
      obtain ⟨g, o, cap, e, hg, _, _, hc⟩ := HP.out.at (by omega)
      injection e with ea _ ec
      subst ea
      subst ec
      obtain ⟨ka, kcap, va1, vcap1, H1⟩ := hc j (by omega)
      obtain ⟨kb, kbcap, va2, vcap2, H2⟩ := hc (j + 1) hlt
      have hjn : j < n := by omega
      have hj0 : (0 : Int) ≤ (j : Int) + 1 := by omega
      have hw1 : IntKind.wrap .i64 (j : Int) = (j : Int) := IntWalk.i64_in _ ⟨by omega, by omega⟩
      have hw2 : IntKind.wrap .i64 ((j : Int) + 1) = (j : Int) + 1 := IntWalk.i64_in _ ⟨by omega, by omega⟩
      have HALL : Hid (∀ i, i + 1 < j + 1 → cmpI (x i).1 (x (i + 1)).1 < 0) := (show _ from hall)
      have CELL : Hid (∀ wz, Below w.heap.size w wz → wz.cell? ⟨g, o + j * 2, none⟩ = some (.slice ka (x j).1.length kcap) ∧ wz.cell? ⟨g, o + (j + 1) * 2, none⟩ = some (.slice kb (x (j + 1)).1.length kbcap) ∧ anyBytes wz (.slice ka (x j).1.length kcap) (x j).1 ∧ anyBytes wz (.slice kb (x (j + 1)).1.length kbcap) (x (j + 1)).1) := (show _ from fun wz hz => ⟨(H1 wz hz).1, (H2 wz hz).1, (H1 wz hz).2.2.1, (H2 wz hz).2.2.1⟩)
      clear H1 H2 hc hall hg
      go_upto_region 4 with fail
      refine wp_region_noPanic ?_
      refine wp_region_held_drew (S := fun w' => Below w.heap.size w w') (by kernel_rfl) hb.drew (fun hHeld => ?_)
      refine take_op (i := 0) (v := ?va0) rfl (by kernel_rfl) (by kernel_rfl) (by kernel_rfl) (fun _ _ _ h => h) rfl hHeld ?ya0 ?ra0
      case ya0 => (intro wz hz; go_simp; first | done | with_reducible rfl)
      try simp only [Act.put, List.setIfInBounds_toArray, List.set_cons_zero, List.set_cons_succ]
      refine take_op (i := 1) (v := ?va1) rfl (by kernel_rfl) (by kernel_rfl) (by kernel_rfl) (fun _ _ _ h => h) rfl hHeld ?ya1 ?ra1
      case ya1 => (intro wz hz; go_simp; first | done | with_reducible rfl)
      try simp only [Act.put, List.setIfInBounds_toArray, List.set_cons_zero, List.set_cons_succ]
      refine take_op (i := 2) (v := ?va2) rfl (by kernel_rfl) (by kernel_rfl) (by kernel_rfl) (fun _ _ _ h => h) rfl hHeld ?ya2 ?ra2
      case ya2 => (intro wz hz; go_simp; first | done | with_reducible rfl)
      try simp only [Act.put, List.setIfInBounds_toArray, List.set_cons_zero, List.set_cons_succ]
      refine take_op (i := 3) (v := ?va3) rfl (by kernel_rfl) (by kernel_rfl) (by kernel_rfl) (fun _ _ _ h => h) rfl hHeld ?ya3 ?ra3
      case ya3 => (intro wz hz; go_simp; first | done | with_reducible rfl)
      try simp only [Act.put, List.setIfInBounds_toArray, List.set_cons_zero, List.set_cons_succ]
      refine take_op (i := 4) (v := ?va4) rfl (by kernel_rfl) (by kernel_rfl) (by kernel_rfl) (fun _ _ _ h => h) rfl hHeld ?ya4 ?ra4
      case ya4 => (intro wz hz; go_simp; first | done | with_reducible rfl)
      try simp only [Act.put, List.setIfInBounds_toArray, List.set_cons_zero, List.set_cons_succ]
      refine take_op (i := 5) (v := ?va5) rfl (by kernel_rfl) (by kernel_rfl) (by kernel_rfl) (fun _ _ _ h => h) rfl hHeld ?ya5 ?ra5
      case ya5 => (intro wz hz; have hcz := (CELL.out wz hz).1; go_simp; first | done | with_reducible rfl)
      try simp only [Act.put, List.setIfInBounds_toArray, List.set_cons_zero, List.set_cons_succ]
      refine take_op (i := 6) (v := ?va6) rfl (by kernel_rfl) (by kernel_rfl) (by kernel_rfl) (fun _ _ _ h => h) rfl hHeld ?ya6 ?ra6
      case ya6 => (intro wz hz; go_simp; first | done | with_reducible rfl)
      try simp only [Act.put, List.setIfInBounds_toArray, List.set_cons_zero, List.set_cons_succ]
      refine take_op (i := 7) (v := ?va7) rfl (by kernel_rfl) (by kernel_rfl) (by kernel_rfl) (fun _ _ _ h => h) rfl hHeld ?ya7 ?ra7
      case ya7 => (intro wz hz; go_simp; first | done | with_reducible rfl)
      try simp only [Act.put, List.setIfInBounds_toArray, List.set_cons_zero, List.set_cons_succ]
      refine take_op (i := 8) (v := ?va8) rfl (by kernel_rfl) (by kernel_rfl) (by kernel_rfl) (fun _ _ _ h => h) rfl hHeld ?ya8 ?ra8
      case ya8 => (intro wz hz; go_simp; first | done | with_reducible rfl)
      try simp only [Act.put, List.setIfInBounds_toArray, List.set_cons_zero, List.set_cons_succ]
      refine take_op (i := 9) (v := ?va9) rfl (by kernel_rfl) (by kernel_rfl) (by kernel_rfl) (fun _ _ _ h => h) rfl hHeld ?ya9 ?ra9
      case ya9 => (intro wz hz; go_simp; first | done | with_reducible rfl)
      try simp only [Act.put, List.setIfInBounds_toArray, List.set_cons_zero, List.set_cons_succ]
      refine take_op (i := 10) (v := ?va10) rfl (by kernel_rfl) (by kernel_rfl) (by kernel_rfl) (fun _ _ _ h => h) rfl hHeld ?ya10 ?ra10
      case ya10 => (intro wz hz; have hcz := (CELL.out wz hz).2.1; go_simp; first | done | with_reducible rfl)
      try simp only [Act.put, List.setIfInBounds_toArray, List.set_cons_zero, List.set_cons_succ]
      have XC := compare_any wr.drew _ _ (x j).1 (x (j + 1)).1 (CELL.out wr.drew hb.drew).2.2.1 (CELL.out wr.drew hb.drew).2.2.2
      refine take_one (i := 11) rfl (by kernel_rfl) rfl (fun K hK => ?_)
      go_simp
      refine Calls.mono XC ?_
      rintro e w2 ⟨rfl, rfl⟩
      refine hK.out _ _ hb.drew (fun hHeld => ?_)
      clear hK K XC
      try simp only [Act.put, List.setIfInBounds_toArray, List.set_cons_zero, List.set_cons_succ]
      by_cases hge : cmpI (x j).1 (x (j + 1)).1 ≥ 0
      · have E : Hid (mayB x n = false) := (show mayB x n = false from by
          cases e : mayB x n with
          | false => rfl
          | true => have := (mayB_is x n).1 e j hlt; omega)
        refine take_op (i := 12) (v := ?vb12) rfl (by kernel_rfl) (by kernel_rfl) (by kernel_rfl) (fun _ _ _ h => h) rfl hHeld ?yb12 ?rb12
        case yb12 => (intro wz hz; go_simp; first | done | with_reducible rfl)
        try simp only [Act.put, List.setIfInBounds_toArray, List.set_cons_zero, List.set_cons_succ]
        refine wpAnyH_done (by kernel_rfl) ?_ _
        refine NoPanic.normal ?_
        have HB : Hid (Below w.heap.size w wr.drew) := (show Below w.heap.size w wr.drew from hb.drew)
        clear hb hHeld
        go_wp2
        go_ret
        exact ⟨by rw [E.out]; rfl, HB.out⟩
      · have HL : Hid (cmpI (x j).1 (x (j + 1)).1 < 0) := (show cmpI (x j).1 (x (j + 1)).1 < 0 from by omega)
        refine take_op (i := 12) (v := ?vc12) rfl (by kernel_rfl) (by kernel_rfl) (by kernel_rfl) (fun _ _ _ h => h) rfl hHeld ?yc12 ?rc12
        case yc12 => (intro wz hz; go_simp; first | done | with_reducible rfl)
        try simp only [Act.put, List.setIfInBounds_toArray, List.set_cons_zero, List.set_cons_succ]
        refine wpAnyH_done (by kernel_rfl) ?_ _
        refine NoPanic.normal ?_
        have HB : Hid (Below w.heap.size w wr.drew) := (show Below w.heap.size w wr.drew from hb.drew)
        clear hb hHeld
        go_wp2
        go_light
        refine ⟨⟨j + 1, Or.inl (by omega), by go_num, fun i hi => ?_, HB.out⟩, by simp [intOf]; omega⟩
        by_cases e : i = j
        · rw [e]; exact HL.out
        · exact HALL.out i (by omega)
    · have p1 : ¬ (j : Int) + 1 < (n : Int) := by omega
      have E : Hid (mayB x n = true) := (show mayB x n = true from (mayB_is x n).2 fun i hi => hall i (by omega))
      have HB : Hid (Below w.heap.size w wr) := (show Below w.heap.size w wr from hb)
      clear hall hb
      go_wp2
      go_ret
      exact ⟨by rw [E.out]; rfl, HB.out⟩
end Go.Proofs.YtkgegihkhdgdoaaDoor

/- What is shown: spots, in memory. -/
namespace Go.Proofs.YtkgegihkhdgdoaaDoor
set_option linter.unusedSimpArgs false
set_option linter.unusedVariables false
open Go.RowKit Go.Deep

/-- a spot: its place, its pair, its path. -/
structure Sp where
  at_ : Int
  pr : Pr
  path : List (List Int)
def inI64 (n : Int) : Prop := -9223372036854775808 ≤ n ∧ n ≤ 9223372036854775807
/-- v is a row of m spots. -/
def spotsAt (w : World) (v : Value) (m : Nat) (y : Nat → Sp) : Prop :=
  ∃ a cap, v = .slice a m cap ∧ m ≤ cap ∧ cap ≤ maxLen ∧ ∀ i, i < m → ∃ g o kc vc pc, a = some ⟨g, o, none⟩ ∧ g < w.heap.size ∧ w.cell? ⟨g, o + i * 4, none⟩ = some (.int .i64 (y i).at_) ∧ w.cell? ⟨g, o + i * 4 + 1, none⟩ = some kc ∧ w.cell? ⟨g, o + i * 4 + 2, none⟩ = some vc ∧ w.cell? ⟨g, o + i * 4 + 3, none⟩ = some pc ∧
    anyBytes w kc (y i).pr.1 ∧ anyBytes w vc (y i).pr.2 ∧ sumsAt w pc (y i).path ∧ inI64 (y i).at_
theorem spotsAt.below {w w' : World} {B : Nat} {v : Value} {m : Nat} {y : Nat → Sp} (h : spotsAt w v m y) (hb : Below B w w') (hB : w.heap.size ≤ B) : spotsAt w' v m y := by
  obtain ⟨a, cap, h1, h2, h3, h4⟩ := h
  refine ⟨a, cap, h1, h2, h3, fun i hi => ?_⟩
  obtain ⟨g, o, kc, vc, pc, e, hg, c0, c1, c2, c3, k1, k2, k3, k4⟩ := h4 i hi
  have hs := hb.size
  have hgB : g < B := by omega
  exact ⟨g, o, kc, vc, pc, e, by omega, (hb.cell (p := ⟨g, o + i * 4, none⟩) hgB).trans c0, (hb.cell (p := ⟨g, o + i * 4 + 1, none⟩) hgB).trans c1, (hb.cell (p := ⟨g, o + i * 4 + 2, none⟩) hgB).trans c2, (hb.cell (p := ⟨g, o + i * 4 + 3, none⟩) hgB).trans c3, k1.below hb hB, k2.below hb hB, k3.below hb hB, k4⟩
/-- .., opened at a place, in any later world. -/
theorem spotsAt.at {w : World} {v : Value} {m : Nat} {y : Nat → Sp} (h : spotsAt w v m y) (h0 : 0 < m) : ∃ g o cap, v = .slice (some ⟨g, o, none⟩) m cap ∧ g < w.heap.size ∧ ∀ i, i < m → ∃ ka kcap va vcap pa pcap, inI64 (y i).at_ ∧ ∀ wz, Below w.heap.size w wz →
    wz.cell? ⟨g, o + i * 4, none⟩ = some (.int .i64 (y i).at_) ∧ wz.cell? ⟨g, o + i * 4 + 1, none⟩ = some (.slice ka (y i).pr.1.length kcap) ∧ wz.cell? ⟨g, o + i * 4 + 2, none⟩ = some (.slice va (y i).pr.2.length vcap) ∧ wz.cell? ⟨g, o + i * 4 + 3, none⟩ = some (.slice pa (y i).path.length pcap) ∧
    anyBytes wz (.slice ka (y i).pr.1.length kcap) (y i).pr.1 ∧ anyBytes wz (.slice va (y i).pr.2.length vcap) (y i).pr.2 ∧ sumsAt wz (.slice pa (y i).path.length pcap) (y i).path := by
  obtain ⟨a, cap, rfl, h2, h3, h4⟩ := h
  obtain ⟨g, o, _, _, _, e0, hg, _⟩ := h4 0 h0
  refine ⟨g, o, cap, by rw [e0], hg, fun i hi => ?_⟩
  obtain ⟨g', o', kc, vc, pc, e, hg', c0, c1, c2, c3, k1, k2, k3, k4⟩ := h4 i hi
  obtain ⟨rfl, rfl⟩ : g = g' ∧ o = o' := by
    have := e0.symm.trans e
    simpa using this
  obtain ⟨ka, kcap, rfl, _⟩ := k1.slice
  obtain ⟨va, vcap, rfl, _⟩ := k2.slice
  obtain ⟨pa, pcap, hpe⟩ : ∃ a c, pc = .slice a (y i).path.length c := by obtain ⟨_, a, c, e, _⟩ := k3; exact ⟨a, c, e⟩
  subst hpe
  exact ⟨ka, kcap, va, vcap, pa, pcap, k4, fun wz hz => ⟨(hz.cell (p := ⟨g, o + i * 4, none⟩) hg).trans c0, (hz.cell (p := ⟨g, o + i * 4 + 1, none⟩) hg).trans c1, (hz.cell (p := ⟨g, o + i * 4 + 2, none⟩) hg).trans c2, (hz.cell (p := ⟨g, o + i * 4 + 3, none⟩) hg).trans c3, k1.below hz (Nat.le_refl _), k2.below hz (Nat.le_refl _), k3.below hz (Nat.le_refl _)⟩⟩
/-- what is shown says something of a key. -/
def saysB (cnt : Int) (m : Nat) (y : Nat → Sp) (key : List Int) : Bool :=
  if m = 0 then decide (cnt = 0)
  else if m = 1 then decide (cmpI (y 0).pr.1 key = 0 ∨ (0 < cmpI (y 0).pr.1 key ∧ (y 0).at_ = 0) ∨ (cmpI (y 0).pr.1 key < 0 ∧ (y 0).at_ = cnt - 1))
  else if m = 2 then decide (cmpI (y 0).pr.1 key < 0 ∧ 0 < cmpI (y 1).pr.1 key ∧ 0 ≤ (y 0).at_ ∧ (y 1).at_ = (y 0).at_ + 1)
  else false
end Go.Proofs.YtkgegihkhdgdoaaDoor

/- keyed.says. -/
namespace Go.Proofs.YtkgegihkhdgdoaaDoor
set_option linter.unusedSimpArgs false
set_option linter.unusedVariables false
open Go.RowKit Go.Deep

set_option maxHeartbeats 4000000 in
set_option maxRecDepth 100000 in
theorem says_one (cnt : Int) (hcn : 0 ≤ cnt ∧ cnt ≤ 9223372036854775807) (v tv : Value) (y : Nat → Sp) (key : List Int) (w : World) (hp : spotsAt w v 1 y) (hk : anyBytes w tv key) :
    Calls Tryd.prog 47 #[.agg #[.int .i64 cnt, v], tv] w fun e w' => e = .returned (.bool (saysB cnt 1 y key)) ∧ Below w.heap.size w w' := by
  obtain ⟨g, o, cap, rfl, hg, hc⟩ := hp.at (by omega)
  obtain ⟨ka, kcap, va, vcap, pa, pcap, hin, H⟩ := hc 0 (by omega)
  obtain ⟨w1, hw1⟩ : ∃ w1, w1 = w.alloc (.cells #[.int .i64 cnt, .slice (some ⟨g, o, none⟩) 1 cap] 29) := ⟨_, rfl⟩
  have b1 : Below w.heap.size w w1 := by rw [hw1]; exact (Below.refl _ _).alloc (Nat.le_refl _) _
  have z1 : w1.heap.size = w.heap.size + 1 := by rw [hw1]; simp
  have hb0 : w1.heap[w.heap.size]? = some (.cells #[.int .i64 cnt, .slice (some ⟨g, o, none⟩) 1 cap] 29) := by rw [hw1, blk_alloc_new]
  obtain ⟨w2, hw2⟩ : ∃ w2, w2 = w1.alloc (.cells #[.int .i64 (y 0).at_, .slice ka (y 0).pr.1.length kcap, .slice va (y 0).pr.2.length vcap, .slice pa (y 0).path.length pcap] 41) := ⟨_, rfl⟩
  have b2 : Below w1.heap.size w1 w2 := by rw [hw2]; exact (Below.refl _ _).alloc (Nat.le_refl _) _
  have hb2 : w2.heap[w1.heap.size]? = some (.cells #[.int .i64 (y 0).at_, .slice ka (y 0).pr.1.length kcap, .slice va (y 0).pr.2.length vcap, .slice pa (y 0).path.length pcap] 41) := by rw [hw2, blk_alloc_new]
  have b02 : Below w.heap.size w w2 := b1.trans (b2.mono (by omega))
  have c0 : w1.cell? ⟨w.heap.size, 0, none⟩ = some (.int .i64 cnt) := by rw [cell_of_row _ _ _ _ _ _ hb0]; rfl
  have c1 : w1.cell? ⟨w.heap.size, 1, none⟩ = some (.slice (some ⟨g, o, none⟩) 1 cap) := by rw [cell_of_row _ _ _ _ _ _ hb0]; rfl
  have d0 : w2.cell? ⟨w.heap.size, 0, none⟩ = some (.int .i64 cnt) := (b2.cell (p := ⟨w.heap.size, 0, none⟩) (by show w.heap.size < _; omega)).trans c0
  have e0 : w2.cell? ⟨w1.heap.size, 0, none⟩ = some (.int .i64 (y 0).at_) := by rw [cell_of_row _ _ _ _ _ _ hb2]; rfl
  have e1 : w2.cell? ⟨w1.heap.size, 1, none⟩ = some (.slice ka (y 0).pr.1.length kcap) := by rw [cell_of_row _ _ _ _ _ _ hb2]; rfl
  obtain ⟨s0, s1, s2, s3, _, _, _⟩ := H w1 b1
  simp only [Nat.zero_mul, Nat.add_zero] at s0 s1 s2 s3
  have X := compare_any w2 _ tv (y 0).pr.1 key (H w2 b02).2.2.2.2.1 (hk.below b02 (Nat.le_refl _))
  obtain ⟨ta, tcap, rfl, _⟩ := hk.slice
  have B02 : Hid (Below w.heap.size w w2) := (show Below w.heap.size w w2 from b02)
  have hwc : IntKind.wrap .i64 (cnt - 1) = cnt - 1 := IntWalk.i64_in _ ⟨by omega, by omega⟩
  have ES : Hid (saysB cnt 1 y key = decide (cmpI (y 0).pr.1 key = 0 ∨ (0 < cmpI (y 0).pr.1 key ∧ (y 0).at_ = 0) ∨ (cmpI (y 0).pr.1 key < 0 ∧ (y 0).at_ = cnt - 1))) := (show saysB cnt 1 y key = decide (cmpI (y 0).pr.1 key = 0 ∨ (0 < cmpI (y 0).pr.1 key ∧ (y 0).at_ = 0) ∨ (cmpI (y 0).pr.1 key < 0 ∧ (y 0).at_ = cnt - 1)) from by unfold saysB; rw [if_neg (by omega), if_pos rfl])
  clear hp hc H hk b1 b2 b02 hb0 hb2 hg z1
  go_enter Tryd.func47, Tryd.ntmps47
  go_upto_region 1 with fail
  rw [← hw1]
  clear hw1
  go_upto_region 6 with fail
  rw [← hw2]
  clear hw2 s0 s1 s2 s3 c0 c1
  go_wp2_with fail
  refine X.mono ?_
  rintro e w' ⟨rfl, hw⟩
  obtain rfl := hw.symm
  clear X hw e1
  generalize cmpI (y 0).pr.1 key = cm at ES ⊢
  by_cases h0 : cm = 0
  · have EV : Hid (saysB cnt 1 y key = true) := (show saysB cnt 1 y key = true from by rw [ES.out]; exact decide_eq_true (Or.inl h0))
    clear ES
    go_wp2
    go_ret
    exact ⟨by rw [EV.out]; rfl, B02.out⟩
  have hb0 : (cm == 0) = false := by simp [h0]
  by_cases h1 : 0 < cm
  · have h1' : cm > 0 := h1
    have h2 : ¬ cm < 0 := by omega
    by_cases h3 : (y 0).at_ = 0
    · have EV : Hid (saysB cnt 1 y key = true) := (show saysB cnt 1 y key = true from by rw [ES.out]; exact decide_eq_true (Or.inr (Or.inl ⟨h1, h3⟩)))
      clear ES
      go_wp2
      go_ret
      exact ⟨by rw [EV.out]; rfl, B02.out⟩
    · have hb3 : ((y 0).at_ == 0) = false := by simp [h3]
      have EV : Hid (saysB cnt 1 y key = false) := (show saysB cnt 1 y key = false from by rw [ES.out]; exact decide_eq_false (by omega))
      clear ES
      go_wp2
      go_ret
      exact ⟨by rw [EV.out]; rfl, B02.out⟩
  · have h1' : ¬ cm > 0 := h1
    have h2 : cm < 0 := by omega
    by_cases h3 : (y 0).at_ = cnt - 1
    · have EV : Hid (saysB cnt 1 y key = true) := (show saysB cnt 1 y key = true from by rw [ES.out]; exact decide_eq_true (Or.inr (Or.inr ⟨h2, h3⟩)))
      clear ES
      go_wp2
      go_ret
      exact ⟨by rw [EV.out]; rfl, B02.out⟩
    · have hb3 : ((y 0).at_ == cnt - 1) = false := by simp [h3]
      have EV : Hid (saysB cnt 1 y key = false) := (show saysB cnt 1 y key = false from by rw [ES.out]; exact decide_eq_false (by omega))
      clear ES
      go_wp2
      go_ret
      exact ⟨by rw [EV.out]; rfl, B02.out⟩
end Go.Proofs.YtkgegihkhdgdoaaDoor
