import Derived.Test.YthpnenblmkdmcaaDoorRows
import Derived.ChangeSlices
import Derived.Deep.Slices
import Derived.Deep.Strs
import Derived.Test.YthpnenblmkdmcaaDoorCards
import Derived.Deep.DeepHandedRow
import Derived.Lib.LaidTab
import Derived.Test.YthpnenblmkdmcaaDoorOwn1
import Derived.Test.YthpnenblmkdmcaaDoorOwn3
import Derived.Test.YthpnenblmkdmcaaDoorOwn4
import Derived.Test.YthpnenblmkdmcaaDoorOwn12
set_option linter.unusedVariables false
set_option linter.unusedSimpArgs false
/- GrowTells: its walk. -/
namespace Go.Proofs.YthpnenblmkdmcaaDoor
set_option linter.unusedSimpArgs false
set_option linter.unusedVariables false
open Go.RowKit Go.Deep

theorem bk_of {k : Nat} {w : World} {F : Nat → Prop} {N : List Nt} {c : Int} (h : bkAt (.pointer (some ⟨k, 0, none⟩)) w F N c) : ∃ F, bookAt w F k N c := by
  rcases h with ⟨e, _⟩ | ⟨k', e, hk⟩
  · cases e
  · have : k' = k := by
      injection e with e; injection e with e; injection e with e; exact e.symm
    exact ⟨F, this ▸ hk⟩
set_option maxHeartbeats 8000000 in
set_option maxRecDepth 100000 in
theorem growTells_any (m n : Int) (hm : -9223372036854775808 ≤ m ∧ m ≤ 9223372036854775807) (hn : -9223372036854775808 ≤ n ∧ n ≤ 9223372036854775807) (f : Nat → Int) (hf : ∀ i, 0 ≤ f i ∧ f i ≤ 255) (g : Nat → Int) (hg : ∀ i, 0 ≤ g i ∧ g i ≤ 255) (path : List (List Int)) (pv : Value) (w : World) (ht : tabIs w) (hp : sumsAt w pv path) :
    Calls Tryd.prog 4 #[.int .i64 m, .int .i64 n, .agg (rowV 32 fun i => .int .u8 (f i)), .agg (rowV 32 fun i => .int .u8 (g i)), pv] w fun e w' => e = .returned (.bool true) ∧ Below w.heap.size w w' := by
  rw [listF_row, listF_row]
  have ho : isSum (listF f) := listF_sum hf
  have hfr : isSum (listF g) := listF_sum hg
  generalize listF f = old at ho
  generalize listF g = fresh at hfr
  clear hf hg f g
  obtain ⟨w1, hw1⟩ : ∃ w1, w1 = (w.alloc (.cells (rowV 32 (arrV old)) 29)).alloc (.cells (rowV 32 (arrV fresh)) 29) := ⟨_, rfl⟩
  obtain ⟨b1, z1, r7, r8⟩ := ext_boxes old fresh w w1 hw1
  have hsl : ∃ a cap, pv = .slice a path.length cap ∧ (path.length : Int) ≤ 9223372036854775807 := by
    obtain ⟨_, a, cap, e, h3, h4, _⟩ := hp
    unfold maxLen at h4
    exact ⟨a, cap, e, by omega⟩
  obtain ⟨pa, pc, rfl, q1⟩ := hsl
  have p0 : (0 : Int) ≤ (path.length : Int) := by omega
  have t0 := ht.1
  by_cases hbig : path.length > 100
  · have XA := gawake_any w1 (ht.below b1 t0)
    have B1 : Hid (Below w.heap.size w w1) := (show Below w.heap.size w w1 from b1)
    have c0 : (path.length : Int) > 100 := by omega
    clear ht hp b1 z1 r7 r8 ho hfr
    go_enter Tryd.func4, Tryd.ntmps4
    go_upto_region 1 with fail
    rw [← hw1]
    clear hw1
    go_wp2_with fail
    refine XA.mono ?_
    rintro e x1 ⟨rfl, g1⟩
    have G1 : Hid (Below w.heap.size w x1) := (show Below w.heap.size w x1 from B1.out.trans (g1.mono B1.out.size))
    clear XA g1
    go_wp2
    go_ret
    exact ⟨rfl, G1.out⟩
  have c0 : ¬ (path.length : Int) > 100 := by omega
  obtain ⟨w2, hw2⟩ : ∃ w2, w2 = w1.alloc (.cells #[.pointer none] 33) := ⟨_, rfl⟩
  have b2 : Below w1.heap.size w1 w2 := by rw [hw2]; exact (Below.refl _ _).alloc (Nat.le_refl _) _
  have z2 : w2.heap.size = w1.heap.size + 1 := by rw [hw2]; simp
  have k2 : bookAt w2 (fun j => j = w1.heap.size) w1.heap.size [] 0 := bookAt.new w1 w2 w1.heap.size (by rw [hw2]; exact rowIs_one w1 (.pointer none) 33)
  have hb02 : Below w.heap.size w w2 := b1.trans (b2.mono (by omega))
  obtain ⟨oa, oc, w3, hr3, n3, b3⟩ := copy_sums w2 path (.slice pa path.length pc) (hp.below hb02 (Nat.le_refl _)) (by omega)
  have b13 : Below w1.heap.size w1 w3 := b2.trans (b3.mono (by omega))
  have HP : Hid (∀ wz, Below w1.heap.size w1 wz → sumsAt wz (.slice pa path.length pc) path) := (show _ from fun wz hz => hp.below (b1.trans (hz.mono (by omega))) (Nat.le_refl _))
  have HT : Hid (∀ wz, Below w1.heap.size w1 wz → tabIs wz ∧ Below w.heap.size w wz) := (show _ from fun wz hz => ⟨ht.below (b1.trans (hz.mono (by omega))) t0, b1.trans (hz.mono (by omega))⟩)
  have HR : Hid (∀ wz, Below w1.heap.size w1 wz → wz.rowIs w.heap.size 29 32 (arrV old) ∧ wz.rowIs (w.heap.size + 1) 29 32 (arrV fresh)) := (show _ from fun wz hz => ⟨hz.row r7 (by omega), hz.row r8 (by omega)⟩)
  have HB3 : Hid (Below w1.heap.size w1 w3 ∧ w1.heap.size < w3.heap.size) := (show _ from ⟨b13, by have := b3.size; omega⟩)
  have HQ : Hid (path.length ≤ 100) := (show path.length ≤ 100 from by omega)
  have XE0 := extends_k (fun j => j = w1.heap.size) (.pointer (some ⟨w1.heap.size, 0, none⟩)) [] 0 m n old fresh path (.slice oa path.length oc) w3 hm hn (Or.inr ⟨_, rfl, k2.below b3 (Nat.le_refl _)⟩) ho hfr n3.is (by omega) (fun h0 j hj e => by have := n3.block j hj; omega) (HT.out w3 b13).1 (fun e => by omega) (by simp) (by omega)
  have XR0 : Hid (∀ W, Below w1.heap.size w1 W → Calls Tryd.prog 16 #[.int .i64 m, .int .i64 n, .agg (rowV 32 (arrV old)), .agg (rowV 32 (arrV fresh)), .slice pa path.length pc] W fun e w' => e = .returned (.bool (extR m n old fresh path)) ∧ Below W.heap.size W w') := (show _ from fun W hW => rext_any m n hm hn old fresh path _ W ho hfr (HP.out W hW))
  have XN0 : Hid (∀ W, Below w1.heap.size w1 W → sumsAt W (.slice oa path.length oc) path → Calls Tryd.prog 15 #[.pointer none, .int .i64 m, .int .i64 n, .agg (rowV 32 (arrV old)), .agg (rowV 32 (arrV fresh)), .slice oa path.length oc] W fun e w' => e = .returned (okI (extR m n old fresh path)) ∧ Below W.heap.size W w') := (show _ from fun W hW hs => ext_nil m n old fresh path _ W hm hn ho hfr hs (by have := HQ.out; omega) (HT.out W hW).1)
  have K4 : Hid (∀ w4, Fr (fun j => j = w1.heap.size) w3 w4 → Below w1.heap.size w1 w4 ∧ sumsAt w4 (.slice oa path.length oc) path) := (show _ from fun w4 f4 => ⟨b13.trans (f4.below (fun j hj => by omega) (by have := HB3.out; omega)), (n3.far fun j hj => f4.block j (by have := n3.block j hj; omega) (fun e => by have := n3.block j hj; omega)).is⟩)
  clear b1 z1 r7 r8 ho hfr ht hp t0 b2 z2 k2 hb02 n3 b3 b13 hbig
  by_cases c1 : m < 0
  · have hno : extNo m n path.length = true := by unfold extNo; simp [c1]
    have hE : extR m n old fresh path = false := by unfold extR; rw [if_pos hno]
    have XE : Calls Tryd.prog 15 #[.pointer (some ⟨w1.heap.size, 0, none⟩), .int .i64 m, .int .i64 n, .agg (rowV 32 (arrV old)), .agg (rowV 32 (arrV fresh)), .slice oa path.length oc] w3 fun e w' => e = .returned (.int .i64 10) ∧ ((∃ F, bookAt w' F w1.heap.size (extN [] m n old path) (0 + extC m n path)) ∧ Fr (fun j => j = w1.heap.size) w3 w') := XE0.mono fun e w' ⟨Fi, e1, hk, hFi, f⟩ => ⟨by rw [e1, hE]; rfl, bk_of hk, f⟩
    have XR : Hid (∀ W, Below w1.heap.size w1 W → Calls Tryd.prog 16 #[.int .i64 m, .int .i64 n, .agg (rowV 32 (arrV old)), .agg (rowV 32 (arrV fresh)), .slice pa path.length pc] W fun e w' => e = .returned (.bool false) ∧ Below W.heap.size W w') := (show _ from fun W hW => by have := XR0.out W hW; rw [hE] at this; exact this)
    have XN : Hid (∀ W, Below w1.heap.size w1 W → sumsAt W (.slice oa path.length oc) path → Calls Tryd.prog 15 #[.pointer none, .int .i64 m, .int .i64 n, .agg (rowV 32 (arrV old)), .agg (rowV 32 (arrV fresh)), .slice oa path.length oc] W fun e w' => e = .returned (.int .i64 10) ∧ Below W.heap.size W w') := (show _ from fun W hW hs => by have := XN0.out W hW hs; rw [hE] at this; exact this)
    clear XE0 XR0 XN0 hE
    have CZ : extC m n path = 0 := by unfold extC; rw [if_pos hno]
    rw [CZ] at XE
    clear CZ
    clear hno
    go_enter Tryd.func4, Tryd.ntmps4
    go_upto_region 1 with fail
    rw [← hw1]
    clear hw1
    go_upto_region 4 with fail
    rw [← hw2]
    clear hw2
    go_upto_region 5 with (at_builtin; refine wpList_append_run rfl _ _ _ rfl rfl rfl hr3 ?_)
    clear hr3
    obtain ⟨x7, x8⟩ := (HR.out w3 HB3.out.1)
    have l7 : ∀ j, j < 32 → w3.cell? ⟨w.heap.size, 0 + j, none⟩ = some (arrV old j) := fun j hj => by rw [Nat.zero_add]; exact x7.cell hj
    have l8 : ∀ j, j < 32 → w3.cell? ⟨w.heap.size + 1, 0 + j, none⟩ = some (arrV fresh j) := fun j hj => by rw [Nat.zero_add]; exact x8.cell hj
    clear x7 x8
    go_wp2_with (first | (refine wpList_load_w 29 (.tmp 7) rfl rfl (w.heap.size) 0 32 (arrV old) rfl _ Tryd.underlying29 rfl hi32' l7 ?_) | (refine wpList_load_w 29 (.tmp 8) rfl rfl (w.heap.size + 1) 0 32 (arrV fresh) rfl _ Tryd.underlying29 rfl hi32' l8 ?_))
    refine XE.mono ?_
    rintro e w4 ⟨rfl, f4⟩
    have h4 := K4.out w4 f4.2
    have O4 : Hid (∀ wz, Below w4.heap.size w4 wz → Below w1.heap.size w1 wz ∧ sumsAt wz (.slice oa path.length oc) path ∧ ∃ F, bookAt wz F w1.heap.size (extN [] m n old path) (0 + 0)) := (show _ from fun wz hz => ⟨h4.1.trans (hz.mono h4.1.size), h4.2.below hz (Nat.le_refl _), f4.1.choose, f4.1.choose_spec.below hz (Nat.le_refl _)⟩)
    have hb : Below w4.heap.size w4 w4 := Below.refl _ _
    have Y := XR.out w4 (O4.out w4 hb).1
    clear XE f4 h4 l7 l8 hb XR
    obtain ⟨x7, x8⟩ := (HR.out w4 (O4.out w4 (Below.refl _ _)).1)
    have l7 : ∀ j, j < 32 → w4.cell? ⟨w.heap.size, 0 + j, none⟩ = some (arrV old j) := fun j hj => by rw [Nat.zero_add]; exact x7.cell hj
    have l8 : ∀ j, j < 32 → w4.cell? ⟨w.heap.size + 1, 0 + j, none⟩ = some (arrV fresh j) := fun j hj => by rw [Nat.zero_add]; exact x8.cell hj
    clear x7 x8
    go_wp2_with (first | (refine wpList_load_w 29 (.tmp 7) rfl rfl (w.heap.size) 0 32 (arrV old) rfl _ Tryd.underlying29 rfl hi32' l7 ?_) | (refine wpList_load_w 29 (.tmp 8) rfl rfl (w.heap.size + 1) 0 32 (arrV fresh) rfl _ Tryd.underlying29 rfl hi32' l8 ?_))
    refine Y.mono ?_
    rintro e w5 ⟨rfl, b5⟩
    have B5 : Hid (Below w4.heap.size w4 w5) := (show Below w4.heap.size w4 w5 from b5)
    have Y := XN.out w5 (O4.out w5 b5).1 (O4.out w5 b5).2.1
    clear b5 l7 l8 XN
    obtain ⟨x7, x8⟩ := (HR.out w5 (O4.out w5 B5.out).1)
    have l7 : ∀ j, j < 32 → w5.cell? ⟨w.heap.size, 0 + j, none⟩ = some (arrV old j) := fun j hj => by rw [Nat.zero_add]; exact x7.cell hj
    have l8 : ∀ j, j < 32 → w5.cell? ⟨w.heap.size + 1, 0 + j, none⟩ = some (arrV fresh j) := fun j hj => by rw [Nat.zero_add]; exact x8.cell hj
    clear x7 x8
    go_wp2_with (first | (refine wpList_load_w 29 (.tmp 7) rfl rfl (w.heap.size) 0 32 (arrV old) rfl _ Tryd.underlying29 rfl hi32' l7 ?_) | (refine wpList_load_w 29 (.tmp 8) rfl rfl (w.heap.size + 1) 0 32 (arrV fresh) rfl _ Tryd.underlying29 rfl hi32' l8 ?_))
    refine Y.mono ?_
    rintro e w6 ⟨rfl, b6⟩
    have b46 : Below w4.heap.size w4 w6 := B5.out.trans (b6.mono B5.out.size)
    have B6 : Hid (Below w4.heap.size w4 w6) := (show Below w4.heap.size w4 w6 from b46)
    clear b6 l7 l8 B5 Y
    clear b46
    obtain ⟨FF, hFF⟩ := (O4.out w6 B6.out).2.2
    have Y := calls_any FF _ _ _ w6 hFF
    rw [show (0 : Int) + 0 = 0 from rfl] at Y
    clear hFF
    go_wp2_with fail
    refine Y.mono ?_
    rintro e w' ⟨rfl, hw⟩
    obtain rfl := hw.symm
    clear Y hw
    have Y := rsame_any path path _ _ w6 (O4.out w6 B6.out).2.1 (HP.out w6 (O4.out w6 B6.out).1) (by have := HQ.out; omega)
    rw [decide_eq_true rfl] at Y
    go_wp2_with fail
    refine Y.mono ?_
    rintro e w7 ⟨rfl, b7⟩
    have b47 : Below w4.heap.size w4 w7 := B6.out.trans (b7.mono B6.out.size)
    have B7 : Hid (Below w.heap.size w w7) := (show Below w.heap.size w w7 from (HT.out w7 (O4.out w7 b47).1).2)
    have XA := gawake_any w7 (HT.out w7 (O4.out w7 b47).1).1
    clear b7 b47 B6 Y O4
    go_wp2_with fail
    refine XA.mono ?_
    rintro e x1 ⟨rfl, g1⟩
    have G1 : Hid (Below w.heap.size w x1) := (show Below w.heap.size w x1 from B7.out.trans (g1.mono B7.out.size))
    clear XA g1
    go_wp2
    go_ret
    exact ⟨rfl, G1.out⟩
  by_cases c2 : m > n
  · have hno : extNo m n path.length = true := by unfold extNo; simp [c2]
    have hE : extR m n old fresh path = false := by unfold extR; rw [if_pos hno]
    have XE : Calls Tryd.prog 15 #[.pointer (some ⟨w1.heap.size, 0, none⟩), .int .i64 m, .int .i64 n, .agg (rowV 32 (arrV old)), .agg (rowV 32 (arrV fresh)), .slice oa path.length oc] w3 fun e w' => e = .returned (.int .i64 10) ∧ ((∃ F, bookAt w' F w1.heap.size (extN [] m n old path) (0 + extC m n path)) ∧ Fr (fun j => j = w1.heap.size) w3 w') := XE0.mono fun e w' ⟨Fi, e1, hk, hFi, f⟩ => ⟨by rw [e1, hE]; rfl, bk_of hk, f⟩
    have XR : Hid (∀ W, Below w1.heap.size w1 W → Calls Tryd.prog 16 #[.int .i64 m, .int .i64 n, .agg (rowV 32 (arrV old)), .agg (rowV 32 (arrV fresh)), .slice pa path.length pc] W fun e w' => e = .returned (.bool false) ∧ Below W.heap.size W w') := (show _ from fun W hW => by have := XR0.out W hW; rw [hE] at this; exact this)
    have XN : Hid (∀ W, Below w1.heap.size w1 W → sumsAt W (.slice oa path.length oc) path → Calls Tryd.prog 15 #[.pointer none, .int .i64 m, .int .i64 n, .agg (rowV 32 (arrV old)), .agg (rowV 32 (arrV fresh)), .slice oa path.length oc] W fun e w' => e = .returned (.int .i64 10) ∧ Below W.heap.size W w') := (show _ from fun W hW hs => by have := XN0.out W hW hs; rw [hE] at this; exact this)
    clear XE0 XR0 XN0 hE
    have CZ : extC m n path = 0 := by unfold extC; rw [if_pos hno]
    rw [CZ] at XE
    clear CZ
    clear hno
    go_enter Tryd.func4, Tryd.ntmps4
    go_upto_region 1 with fail
    rw [← hw1]
    clear hw1
    go_upto_region 4 with fail
    rw [← hw2]
    clear hw2
    go_upto_region 5 with (at_builtin; refine wpList_append_run rfl _ _ _ rfl rfl rfl hr3 ?_)
    clear hr3
    obtain ⟨x7, x8⟩ := (HR.out w3 HB3.out.1)
    have l7 : ∀ j, j < 32 → w3.cell? ⟨w.heap.size, 0 + j, none⟩ = some (arrV old j) := fun j hj => by rw [Nat.zero_add]; exact x7.cell hj
    have l8 : ∀ j, j < 32 → w3.cell? ⟨w.heap.size + 1, 0 + j, none⟩ = some (arrV fresh j) := fun j hj => by rw [Nat.zero_add]; exact x8.cell hj
    clear x7 x8
    go_wp2_with (first | (refine wpList_load_w 29 (.tmp 7) rfl rfl (w.heap.size) 0 32 (arrV old) rfl _ Tryd.underlying29 rfl hi32' l7 ?_) | (refine wpList_load_w 29 (.tmp 8) rfl rfl (w.heap.size + 1) 0 32 (arrV fresh) rfl _ Tryd.underlying29 rfl hi32' l8 ?_))
    refine XE.mono ?_
    rintro e w4 ⟨rfl, f4⟩
    have h4 := K4.out w4 f4.2
    have O4 : Hid (∀ wz, Below w4.heap.size w4 wz → Below w1.heap.size w1 wz ∧ sumsAt wz (.slice oa path.length oc) path ∧ ∃ F, bookAt wz F w1.heap.size (extN [] m n old path) (0 + 0)) := (show _ from fun wz hz => ⟨h4.1.trans (hz.mono h4.1.size), h4.2.below hz (Nat.le_refl _), f4.1.choose, f4.1.choose_spec.below hz (Nat.le_refl _)⟩)
    have hb : Below w4.heap.size w4 w4 := Below.refl _ _
    have Y := XR.out w4 (O4.out w4 hb).1
    clear XE f4 h4 l7 l8 hb XR
    obtain ⟨x7, x8⟩ := (HR.out w4 (O4.out w4 (Below.refl _ _)).1)
    have l7 : ∀ j, j < 32 → w4.cell? ⟨w.heap.size, 0 + j, none⟩ = some (arrV old j) := fun j hj => by rw [Nat.zero_add]; exact x7.cell hj
    have l8 : ∀ j, j < 32 → w4.cell? ⟨w.heap.size + 1, 0 + j, none⟩ = some (arrV fresh j) := fun j hj => by rw [Nat.zero_add]; exact x8.cell hj
    clear x7 x8
    go_wp2_with (first | (refine wpList_load_w 29 (.tmp 7) rfl rfl (w.heap.size) 0 32 (arrV old) rfl _ Tryd.underlying29 rfl hi32' l7 ?_) | (refine wpList_load_w 29 (.tmp 8) rfl rfl (w.heap.size + 1) 0 32 (arrV fresh) rfl _ Tryd.underlying29 rfl hi32' l8 ?_))
    refine Y.mono ?_
    rintro e w5 ⟨rfl, b5⟩
    have B5 : Hid (Below w4.heap.size w4 w5) := (show Below w4.heap.size w4 w5 from b5)
    have Y := XN.out w5 (O4.out w5 b5).1 (O4.out w5 b5).2.1
    clear b5 l7 l8 XN
    obtain ⟨x7, x8⟩ := (HR.out w5 (O4.out w5 B5.out).1)
    have l7 : ∀ j, j < 32 → w5.cell? ⟨w.heap.size, 0 + j, none⟩ = some (arrV old j) := fun j hj => by rw [Nat.zero_add]; exact x7.cell hj
    have l8 : ∀ j, j < 32 → w5.cell? ⟨w.heap.size + 1, 0 + j, none⟩ = some (arrV fresh j) := fun j hj => by rw [Nat.zero_add]; exact x8.cell hj
    clear x7 x8
    go_wp2_with (first | (refine wpList_load_w 29 (.tmp 7) rfl rfl (w.heap.size) 0 32 (arrV old) rfl _ Tryd.underlying29 rfl hi32' l7 ?_) | (refine wpList_load_w 29 (.tmp 8) rfl rfl (w.heap.size + 1) 0 32 (arrV fresh) rfl _ Tryd.underlying29 rfl hi32' l8 ?_))
    refine Y.mono ?_
    rintro e w6 ⟨rfl, b6⟩
    have b46 : Below w4.heap.size w4 w6 := B5.out.trans (b6.mono B5.out.size)
    have B6 : Hid (Below w4.heap.size w4 w6) := (show Below w4.heap.size w4 w6 from b46)
    clear b6 l7 l8 B5 Y
    clear b46
    obtain ⟨FF, hFF⟩ := (O4.out w6 B6.out).2.2
    have Y := calls_any FF _ _ _ w6 hFF
    rw [show (0 : Int) + 0 = 0 from rfl] at Y
    clear hFF
    go_wp2_with fail
    refine Y.mono ?_
    rintro e w' ⟨rfl, hw⟩
    obtain rfl := hw.symm
    clear Y hw
    have Y := rsame_any path path _ _ w6 (O4.out w6 B6.out).2.1 (HP.out w6 (O4.out w6 B6.out).1) (by have := HQ.out; omega)
    rw [decide_eq_true rfl] at Y
    go_wp2_with fail
    refine Y.mono ?_
    rintro e w7 ⟨rfl, b7⟩
    have b47 : Below w4.heap.size w4 w7 := B6.out.trans (b7.mono B6.out.size)
    have B7 : Hid (Below w.heap.size w w7) := (show Below w.heap.size w w7 from (HT.out w7 (O4.out w7 b47).1).2)
    have XA := gawake_any w7 (HT.out w7 (O4.out w7 b47).1).1
    clear b7 b47 B6 Y O4
    go_wp2_with fail
    refine XA.mono ?_
    rintro e x1 ⟨rfl, g1⟩
    have G1 : Hid (Below w.heap.size w x1) := (show Below w.heap.size w x1 from B7.out.trans (g1.mono B7.out.size))
    clear XA g1
    go_wp2
    go_ret
    exact ⟨rfl, G1.out⟩
  by_cases hno : extNo m n path.length = true
  · have hE : extR m n old fresh path = false := by unfold extR; rw [if_pos hno]
    have XE : Calls Tryd.prog 15 #[.pointer (some ⟨w1.heap.size, 0, none⟩), .int .i64 m, .int .i64 n, .agg (rowV 32 (arrV old)), .agg (rowV 32 (arrV fresh)), .slice oa path.length oc] w3 fun e w' => e = .returned (.int .i64 10) ∧ ((∃ F, bookAt w' F w1.heap.size (extN [] m n old path) (0 + extC m n path)) ∧ Fr (fun j => j = w1.heap.size) w3 w') := XE0.mono fun e w' ⟨Fi, e1, hk, hFi, f⟩ => ⟨by rw [e1, hE]; rfl, bk_of hk, f⟩
    have XR : Hid (∀ W, Below w1.heap.size w1 W → Calls Tryd.prog 16 #[.int .i64 m, .int .i64 n, .agg (rowV 32 (arrV old)), .agg (rowV 32 (arrV fresh)), .slice pa path.length pc] W fun e w' => e = .returned (.bool false) ∧ Below W.heap.size W w') := (show _ from fun W hW => by have := XR0.out W hW; rw [hE] at this; exact this)
    have XN : Hid (∀ W, Below w1.heap.size w1 W → sumsAt W (.slice oa path.length oc) path → Calls Tryd.prog 15 #[.pointer none, .int .i64 m, .int .i64 n, .agg (rowV 32 (arrV old)), .agg (rowV 32 (arrV fresh)), .slice oa path.length oc] W fun e w' => e = .returned (.int .i64 10) ∧ Below W.heap.size W w') := (show _ from fun W hW hs => by have := XN0.out W hW hs; rw [hE] at this; exact this)
    clear XE0 XR0 XN0 hE
    have CZ : extC m n path = 0 := by unfold extC; rw [if_pos hno]
    rw [CZ] at XE
    clear CZ
    have c3 : ¬ (path.length : Int) = gSteps m n := by
      intro e
      unfold extNo at hno
      simp [e, c1] at hno
      omega
    have XS := fun W => rSteps_any m n hn.2 W
    generalize gSteps m n = ss at XS c3
    have XSH : Hid (∀ W, Calls Tryd.prog 14 #[.int .i64 m, .int .i64 n] W fun e w' => e = .returned (.int .i64 ss) ∧ w' = W) := (show _ from XS)
    clear XS
    clear hno
    go_enter Tryd.func4, Tryd.ntmps4
    go_upto_region 1 with fail
    rw [← hw1]
    clear hw1
    go_upto_region 4 with fail
    rw [← hw2]
    clear hw2
    go_upto_region 5 with (at_builtin; refine wpList_append_run rfl _ _ _ rfl rfl rfl hr3 ?_)
    clear hr3
    obtain ⟨x7, x8⟩ := (HR.out w3 HB3.out.1)
    have l7 : ∀ j, j < 32 → w3.cell? ⟨w.heap.size, 0 + j, none⟩ = some (arrV old j) := fun j hj => by rw [Nat.zero_add]; exact x7.cell hj
    have l8 : ∀ j, j < 32 → w3.cell? ⟨w.heap.size + 1, 0 + j, none⟩ = some (arrV fresh j) := fun j hj => by rw [Nat.zero_add]; exact x8.cell hj
    clear x7 x8
    go_wp2_with (first | (refine wpList_load_w 29 (.tmp 7) rfl rfl (w.heap.size) 0 32 (arrV old) rfl _ Tryd.underlying29 rfl hi32' l7 ?_) | (refine wpList_load_w 29 (.tmp 8) rfl rfl (w.heap.size + 1) 0 32 (arrV fresh) rfl _ Tryd.underlying29 rfl hi32' l8 ?_))
    refine XE.mono ?_
    rintro e w4 ⟨rfl, f4⟩
    have h4 := K4.out w4 f4.2
    have O4 : Hid (∀ wz, Below w4.heap.size w4 wz → Below w1.heap.size w1 wz ∧ sumsAt wz (.slice oa path.length oc) path ∧ ∃ F, bookAt wz F w1.heap.size (extN [] m n old path) (0 + 0)) := (show _ from fun wz hz => ⟨h4.1.trans (hz.mono h4.1.size), h4.2.below hz (Nat.le_refl _), f4.1.choose, f4.1.choose_spec.below hz (Nat.le_refl _)⟩)
    have hb : Below w4.heap.size w4 w4 := Below.refl _ _
    have Y := XR.out w4 (O4.out w4 hb).1
    clear XE f4 h4 l7 l8 hb XR
    obtain ⟨x7, x8⟩ := (HR.out w4 (O4.out w4 (Below.refl _ _)).1)
    have l7 : ∀ j, j < 32 → w4.cell? ⟨w.heap.size, 0 + j, none⟩ = some (arrV old j) := fun j hj => by rw [Nat.zero_add]; exact x7.cell hj
    have l8 : ∀ j, j < 32 → w4.cell? ⟨w.heap.size + 1, 0 + j, none⟩ = some (arrV fresh j) := fun j hj => by rw [Nat.zero_add]; exact x8.cell hj
    clear x7 x8
    go_wp2_with (first | (refine wpList_load_w 29 (.tmp 7) rfl rfl (w.heap.size) 0 32 (arrV old) rfl _ Tryd.underlying29 rfl hi32' l7 ?_) | (refine wpList_load_w 29 (.tmp 8) rfl rfl (w.heap.size + 1) 0 32 (arrV fresh) rfl _ Tryd.underlying29 rfl hi32' l8 ?_))
    refine Y.mono ?_
    rintro e w5 ⟨rfl, b5⟩
    have B5 : Hid (Below w4.heap.size w4 w5) := (show Below w4.heap.size w4 w5 from b5)
    have Y := XN.out w5 (O4.out w5 b5).1 (O4.out w5 b5).2.1
    clear b5 l7 l8 XN
    obtain ⟨x7, x8⟩ := (HR.out w5 (O4.out w5 B5.out).1)
    have l7 : ∀ j, j < 32 → w5.cell? ⟨w.heap.size, 0 + j, none⟩ = some (arrV old j) := fun j hj => by rw [Nat.zero_add]; exact x7.cell hj
    have l8 : ∀ j, j < 32 → w5.cell? ⟨w.heap.size + 1, 0 + j, none⟩ = some (arrV fresh j) := fun j hj => by rw [Nat.zero_add]; exact x8.cell hj
    clear x7 x8
    go_wp2_with (first | (refine wpList_load_w 29 (.tmp 7) rfl rfl (w.heap.size) 0 32 (arrV old) rfl _ Tryd.underlying29 rfl hi32' l7 ?_) | (refine wpList_load_w 29 (.tmp 8) rfl rfl (w.heap.size + 1) 0 32 (arrV fresh) rfl _ Tryd.underlying29 rfl hi32' l8 ?_))
    refine Y.mono ?_
    rintro e w6 ⟨rfl, b6⟩
    have b46 : Below w4.heap.size w4 w6 := B5.out.trans (b6.mono B5.out.size)
    have B6 : Hid (Below w4.heap.size w4 w6) := (show Below w4.heap.size w4 w6 from b46)
    clear b6 l7 l8 B5 Y
    have Y := XSH.out w6
    clear XSH b46
    go_wp2_with fail
    refine Y.mono ?_
    rintro e w' ⟨rfl, hw⟩
    obtain rfl := hw.symm
    clear Y hw
    obtain ⟨FF, hFF⟩ := (O4.out w6 B6.out).2.2
    have Y := calls_any FF _ _ _ w6 hFF
    rw [show (0 : Int) + 0 = 0 from rfl] at Y
    clear hFF
    go_wp2_with fail
    refine Y.mono ?_
    rintro e w' ⟨rfl, hw⟩
    obtain rfl := hw.symm
    clear Y hw
    have Y := rsame_any path path _ _ w6 (O4.out w6 B6.out).2.1 (HP.out w6 (O4.out w6 B6.out).1) (by have := HQ.out; omega)
    rw [decide_eq_true rfl] at Y
    go_wp2_with fail
    refine Y.mono ?_
    rintro e w7 ⟨rfl, b7⟩
    have b47 : Below w4.heap.size w4 w7 := B6.out.trans (b7.mono B6.out.size)
    have B7 : Hid (Below w.heap.size w w7) := (show Below w.heap.size w w7 from (HT.out w7 (O4.out w7 b47).1).2)
    have XA := gawake_any w7 (HT.out w7 (O4.out w7 b47).1).1
    clear b7 b47 B6 Y O4
    go_wp2_with fail
    refine XA.mono ?_
    rintro e x1 ⟨rfl, g1⟩
    have G1 : Hid (Below w.heap.size w x1) := (show Below w.heap.size w x1 from B7.out.trans (g1.mono B7.out.size))
    clear XA g1
    go_wp2
    go_ret
    exact ⟨rfl, G1.out⟩
  have c3 : (path.length : Int) = gSteps m n := by
    by_cases e : (path.length : Int) = gSteps m n
    · exact e
    · exact absurd (by unfold extNo; simp [e]) hno
  cases hE : extR m n old fresh path with
  | false =>
    have XE : Calls Tryd.prog 15 #[.pointer (some ⟨w1.heap.size, 0, none⟩), .int .i64 m, .int .i64 n, .agg (rowV 32 (arrV old)), .agg (rowV 32 (arrV fresh)), .slice oa path.length oc] w3 fun e w' => e = .returned (.int .i64 10) ∧ ((∃ F, bookAt w' F w1.heap.size (extN [] m n old path) (0 + extC m n path)) ∧ Fr (fun j => j = w1.heap.size) w3 w') := XE0.mono fun e w' ⟨Fi, e1, hk, hFi, f⟩ => ⟨by rw [e1, hE]; rfl, bk_of hk, f⟩
    have XR : Hid (∀ W, Below w1.heap.size w1 W → Calls Tryd.prog 16 #[.int .i64 m, .int .i64 n, .agg (rowV 32 (arrV old)), .agg (rowV 32 (arrV fresh)), .slice pa path.length pc] W fun e w' => e = .returned (.bool false) ∧ Below W.heap.size W w') := (show _ from fun W hW => by have := XR0.out W hW; rw [hE] at this; exact this)
    have XN : Hid (∀ W, Below w1.heap.size w1 W → sumsAt W (.slice oa path.length oc) path → Calls Tryd.prog 15 #[.pointer none, .int .i64 m, .int .i64 n, .agg (rowV 32 (arrV old)), .agg (rowV 32 (arrV fresh)), .slice oa path.length oc] W fun e w' => e = .returned (.int .i64 10) ∧ Below W.heap.size W w') := (show _ from fun W hW hs => by have := XN0.out W hW hs; rw [hE] at this; exact this)
    clear XE0 XR0 XN0 hE
    generalize (0 : Int) + extC m n path = cc at XE
    have XSH : Hid (∀ W, Calls Tryd.prog 14 #[.int .i64 m, .int .i64 n] W fun e w' => e = .returned (.int .i64 (path.length : Int)) ∧ w' = W) := (show _ from fun W => by rw [c3]; exact rSteps_any m n hn.2 W)
    clear c3
    clear hno
    go_enter Tryd.func4, Tryd.ntmps4
    go_upto_region 1 with fail
    rw [← hw1]
    clear hw1
    go_upto_region 4 with fail
    rw [← hw2]
    clear hw2
    go_upto_region 5 with (at_builtin; refine wpList_append_run rfl _ _ _ rfl rfl rfl hr3 ?_)
    clear hr3
    obtain ⟨x7, x8⟩ := (HR.out w3 HB3.out.1)
    have l7 : ∀ j, j < 32 → w3.cell? ⟨w.heap.size, 0 + j, none⟩ = some (arrV old j) := fun j hj => by rw [Nat.zero_add]; exact x7.cell hj
    have l8 : ∀ j, j < 32 → w3.cell? ⟨w.heap.size + 1, 0 + j, none⟩ = some (arrV fresh j) := fun j hj => by rw [Nat.zero_add]; exact x8.cell hj
    clear x7 x8
    go_wp2_with (first | (refine wpList_load_w 29 (.tmp 7) rfl rfl (w.heap.size) 0 32 (arrV old) rfl _ Tryd.underlying29 rfl hi32' l7 ?_) | (refine wpList_load_w 29 (.tmp 8) rfl rfl (w.heap.size + 1) 0 32 (arrV fresh) rfl _ Tryd.underlying29 rfl hi32' l8 ?_))
    refine XE.mono ?_
    rintro e w4 ⟨rfl, f4⟩
    have h4 := K4.out w4 f4.2
    have O4 : Hid (∀ wz, Below w4.heap.size w4 wz → Below w1.heap.size w1 wz ∧ sumsAt wz (.slice oa path.length oc) path ∧ ∃ F, bookAt wz F w1.heap.size (extN [] m n old path) cc) := (show _ from fun wz hz => ⟨h4.1.trans (hz.mono h4.1.size), h4.2.below hz (Nat.le_refl _), f4.1.choose, f4.1.choose_spec.below hz (Nat.le_refl _)⟩)
    have hb : Below w4.heap.size w4 w4 := Below.refl _ _
    have Y := XR.out w4 (O4.out w4 hb).1
    clear XE f4 h4 l7 l8 hb XR
    obtain ⟨x7, x8⟩ := (HR.out w4 (O4.out w4 (Below.refl _ _)).1)
    have l7 : ∀ j, j < 32 → w4.cell? ⟨w.heap.size, 0 + j, none⟩ = some (arrV old j) := fun j hj => by rw [Nat.zero_add]; exact x7.cell hj
    have l8 : ∀ j, j < 32 → w4.cell? ⟨w.heap.size + 1, 0 + j, none⟩ = some (arrV fresh j) := fun j hj => by rw [Nat.zero_add]; exact x8.cell hj
    clear x7 x8
    go_wp2_with (first | (refine wpList_load_w 29 (.tmp 7) rfl rfl (w.heap.size) 0 32 (arrV old) rfl _ Tryd.underlying29 rfl hi32' l7 ?_) | (refine wpList_load_w 29 (.tmp 8) rfl rfl (w.heap.size + 1) 0 32 (arrV fresh) rfl _ Tryd.underlying29 rfl hi32' l8 ?_))
    refine Y.mono ?_
    rintro e w5 ⟨rfl, b5⟩
    have B5 : Hid (Below w4.heap.size w4 w5) := (show Below w4.heap.size w4 w5 from b5)
    have Y := XN.out w5 (O4.out w5 b5).1 (O4.out w5 b5).2.1
    clear b5 l7 l8 XN
    obtain ⟨x7, x8⟩ := (HR.out w5 (O4.out w5 B5.out).1)
    have l7 : ∀ j, j < 32 → w5.cell? ⟨w.heap.size, 0 + j, none⟩ = some (arrV old j) := fun j hj => by rw [Nat.zero_add]; exact x7.cell hj
    have l8 : ∀ j, j < 32 → w5.cell? ⟨w.heap.size + 1, 0 + j, none⟩ = some (arrV fresh j) := fun j hj => by rw [Nat.zero_add]; exact x8.cell hj
    clear x7 x8
    go_wp2_with (first | (refine wpList_load_w 29 (.tmp 7) rfl rfl (w.heap.size) 0 32 (arrV old) rfl _ Tryd.underlying29 rfl hi32' l7 ?_) | (refine wpList_load_w 29 (.tmp 8) rfl rfl (w.heap.size + 1) 0 32 (arrV fresh) rfl _ Tryd.underlying29 rfl hi32' l8 ?_))
    refine Y.mono ?_
    rintro e w6 ⟨rfl, b6⟩
    have b46 : Below w4.heap.size w4 w6 := B5.out.trans (b6.mono B5.out.size)
    have B6 : Hid (Below w4.heap.size w4 w6) := (show Below w4.heap.size w4 w6 from b46)
    clear b6 l7 l8 B5 Y
    have Y := XSH.out w6
    clear XSH b46
    go_wp2_with fail
    refine Y.mono ?_
    rintro e w' ⟨rfl, hw⟩
    obtain rfl := hw.symm
    clear Y hw
    have Y := rsame_any path path _ _ w6 (O4.out w6 B6.out).2.1 (HP.out w6 (O4.out w6 B6.out).1) (by have := HQ.out; omega)
    rw [decide_eq_true rfl] at Y
    go_wp2_with fail
    refine Y.mono ?_
    rintro e w7 ⟨rfl, b7⟩
    have b47 : Below w4.heap.size w4 w7 := B6.out.trans (b7.mono B6.out.size)
    have B7 : Hid (Below w.heap.size w w7) := (show Below w.heap.size w w7 from (HT.out w7 (O4.out w7 b47).1).2)
    have XA := gawake_any w7 (HT.out w7 (O4.out w7 b47).1).1
    clear b7 b47 B6 Y O4
    go_wp2_with fail
    refine XA.mono ?_
    rintro e x1 ⟨rfl, g1⟩
    have G1 : Hid (Below w.heap.size w x1) := (show Below w.heap.size w x1 from B7.out.trans (g1.mono B7.out.size))
    clear XA g1
    go_wp2
    go_ret
    exact ⟨rfl, G1.out⟩
  | true =>
    have XE : Calls Tryd.prog 15 #[.pointer (some ⟨w1.heap.size, 0, none⟩), .int .i64 m, .int .i64 n, .agg (rowV 32 (arrV old)), .agg (rowV 32 (arrV fresh)), .slice oa path.length oc] w3 fun e w' => e = .returned (.int .i64 0) ∧ ((∃ F, bookAt w' F w1.heap.size (extN [] m n old path) (0 + extC m n path)) ∧ Fr (fun j => j = w1.heap.size) w3 w') := XE0.mono fun e w' ⟨Fi, e1, hk, hFi, f⟩ => ⟨by rw [e1, hE]; rfl, bk_of hk, f⟩
    have XR : Hid (∀ W, Below w1.heap.size w1 W → Calls Tryd.prog 16 #[.int .i64 m, .int .i64 n, .agg (rowV 32 (arrV old)), .agg (rowV 32 (arrV fresh)), .slice pa path.length pc] W fun e w' => e = .returned (.bool true) ∧ Below W.heap.size W w') := (show _ from fun W hW => by have := XR0.out W hW; rw [hE] at this; exact this)
    have XN : Hid (∀ W, Below w1.heap.size w1 W → sumsAt W (.slice oa path.length oc) path → Calls Tryd.prog 15 #[.pointer none, .int .i64 m, .int .i64 n, .agg (rowV 32 (arrV old)), .agg (rowV 32 (arrV fresh)), .slice oa path.length oc] W fun e w' => e = .returned (.int .i64 0) ∧ Below W.heap.size W w') := (show _ from fun W hW hs => by have := XN0.out W hW hs; rw [hE] at this; exact this)
    clear XE0 XR0 XN0 hE
    generalize (0 : Int) + extC m n path = cc at XE
    have XSH : Hid (∀ W, Calls Tryd.prog 14 #[.int .i64 m, .int .i64 n] W fun e w' => e = .returned (.int .i64 (path.length : Int)) ∧ w' = W) := (show _ from fun W => by rw [c3]; exact rSteps_any m n hn.2 W)
    clear c3
    clear hno
    go_enter Tryd.func4, Tryd.ntmps4
    go_upto_region 1 with fail
    rw [← hw1]
    clear hw1
    go_upto_region 4 with fail
    rw [← hw2]
    clear hw2
    go_upto_region 5 with (at_builtin; refine wpList_append_run rfl _ _ _ rfl rfl rfl hr3 ?_)
    clear hr3
    obtain ⟨x7, x8⟩ := (HR.out w3 HB3.out.1)
    have l7 : ∀ j, j < 32 → w3.cell? ⟨w.heap.size, 0 + j, none⟩ = some (arrV old j) := fun j hj => by rw [Nat.zero_add]; exact x7.cell hj
    have l8 : ∀ j, j < 32 → w3.cell? ⟨w.heap.size + 1, 0 + j, none⟩ = some (arrV fresh j) := fun j hj => by rw [Nat.zero_add]; exact x8.cell hj
    clear x7 x8
    go_wp2_with (first | (refine wpList_load_w 29 (.tmp 7) rfl rfl (w.heap.size) 0 32 (arrV old) rfl _ Tryd.underlying29 rfl hi32' l7 ?_) | (refine wpList_load_w 29 (.tmp 8) rfl rfl (w.heap.size + 1) 0 32 (arrV fresh) rfl _ Tryd.underlying29 rfl hi32' l8 ?_))
    refine XE.mono ?_
    rintro e w4 ⟨rfl, f4⟩
    have h4 := K4.out w4 f4.2
    have O4 : Hid (∀ wz, Below w4.heap.size w4 wz → Below w1.heap.size w1 wz ∧ sumsAt wz (.slice oa path.length oc) path ∧ ∃ F, bookAt wz F w1.heap.size (extN [] m n old path) cc) := (show _ from fun wz hz => ⟨h4.1.trans (hz.mono h4.1.size), h4.2.below hz (Nat.le_refl _), f4.1.choose, f4.1.choose_spec.below hz (Nat.le_refl _)⟩)
    have hb : Below w4.heap.size w4 w4 := Below.refl _ _
    have Y := XR.out w4 (O4.out w4 hb).1
    clear XE f4 h4 l7 l8 hb XR
    obtain ⟨x7, x8⟩ := (HR.out w4 (O4.out w4 (Below.refl _ _)).1)
    have l7 : ∀ j, j < 32 → w4.cell? ⟨w.heap.size, 0 + j, none⟩ = some (arrV old j) := fun j hj => by rw [Nat.zero_add]; exact x7.cell hj
    have l8 : ∀ j, j < 32 → w4.cell? ⟨w.heap.size + 1, 0 + j, none⟩ = some (arrV fresh j) := fun j hj => by rw [Nat.zero_add]; exact x8.cell hj
    clear x7 x8
    go_wp2_with (first | (refine wpList_load_w 29 (.tmp 7) rfl rfl (w.heap.size) 0 32 (arrV old) rfl _ Tryd.underlying29 rfl hi32' l7 ?_) | (refine wpList_load_w 29 (.tmp 8) rfl rfl (w.heap.size + 1) 0 32 (arrV fresh) rfl _ Tryd.underlying29 rfl hi32' l8 ?_))
    refine Y.mono ?_
    rintro e w5 ⟨rfl, b5⟩
    have B5 : Hid (Below w4.heap.size w4 w5) := (show Below w4.heap.size w4 w5 from b5)
    have Y := XN.out w5 (O4.out w5 b5).1 (O4.out w5 b5).2.1
    clear b5 l7 l8 XN
    obtain ⟨x7, x8⟩ := (HR.out w5 (O4.out w5 B5.out).1)
    have l7 : ∀ j, j < 32 → w5.cell? ⟨w.heap.size, 0 + j, none⟩ = some (arrV old j) := fun j hj => by rw [Nat.zero_add]; exact x7.cell hj
    have l8 : ∀ j, j < 32 → w5.cell? ⟨w.heap.size + 1, 0 + j, none⟩ = some (arrV fresh j) := fun j hj => by rw [Nat.zero_add]; exact x8.cell hj
    clear x7 x8
    go_wp2_with (first | (refine wpList_load_w 29 (.tmp 7) rfl rfl (w.heap.size) 0 32 (arrV old) rfl _ Tryd.underlying29 rfl hi32' l7 ?_) | (refine wpList_load_w 29 (.tmp 8) rfl rfl (w.heap.size + 1) 0 32 (arrV fresh) rfl _ Tryd.underlying29 rfl hi32' l8 ?_))
    refine Y.mono ?_
    rintro e w6 ⟨rfl, b6⟩
    have b46 : Below w4.heap.size w4 w6 := B5.out.trans (b6.mono B5.out.size)
    have B6 : Hid (Below w4.heap.size w4 w6) := (show Below w4.heap.size w4 w6 from b46)
    clear b6 l7 l8 B5 Y
    have Y := XSH.out w6
    clear XSH b46
    go_wp2_with fail
    refine Y.mono ?_
    rintro e w' ⟨rfl, hw⟩
    obtain rfl := hw.symm
    clear Y hw
    have Y := rsame_any path path _ _ w6 (O4.out w6 B6.out).2.1 (HP.out w6 (O4.out w6 B6.out).1) (by have := HQ.out; omega)
    rw [decide_eq_true rfl] at Y
    go_wp2_with fail
    refine Y.mono ?_
    rintro e w7 ⟨rfl, b7⟩
    have b47 : Below w4.heap.size w4 w7 := B6.out.trans (b7.mono B6.out.size)
    have B7 : Hid (Below w.heap.size w w7) := (show Below w.heap.size w w7 from (HT.out w7 (O4.out w7 b47).1).2)
    have XA := gawake_any w7 (HT.out w7 (O4.out w7 b47).1).1
    clear b7 b47 B6 Y O4
    go_wp2_with fail
    refine XA.mono ?_
    rintro e x1 ⟨rfl, g1⟩
    have G1 : Hid (Below w.heap.size w x1) := (show Below w.heap.size w x1 from B7.out.trans (g1.mono B7.out.size))
    clear XA g1
    go_wp2
    go_ret
    exact ⟨rfl, G1.out⟩
end Go.Proofs.YthpnenblmkdmcaaDoor

/- The frame of a law's row, where no package variable is laid. -/
namespace Go.Proofs.YthpnenblmkdmcaaDoor
open Go.RowKit Go.Deep Go.ChangeShapes Go.WideShapes Go.ChangeAt
theorem own : ownKnob Tryd.prog.godebug = none := by kernel_rfl
theorem laidOut : laidOutB Tryd.prog = true := by kernel_rfl
theorem bounds_u64 {a : Int} (h : (Lit.int .u64 a).wf = true) : 0 ≤ a ∧ a < 18446744073709551616 := by
  have h' : 0 ≤ a ∧ a ≤ 18446744073709551615 := by simpa [Lit.wf, IntKind.min, IntKind.max, IntKind.signed, IntKind.bits] using h
  omega
end Go.Proofs.YthpnenblmkdmcaaDoor

/- Slices that came in, opened. -/
namespace Go.Proofs.YthpnenblmkdmcaaDoor
open Go.RowKit Go.Deep Go.ChangeShapes Go.WideShapes

theorem bounds_i64 {a : Int} (h : (Lit.int .i64 a).wf = true) : -9223372036854775808 ≤ a ∧ a ≤ 9223372036854775807 := by
  simpa [Lit.wf, IntKind.min, IntKind.max, IntKind.signed, IntKind.bits] using h
/-- A SLICE, opened at every index. -/
theorem open_any {H : Type} {enc : TypeId × Value → H} {P : Program} {w : World} {base b0 : Nat} {sp : Nat → Bool} {held : Bool} {r : Reach} {t e : TypeId} {v : Value} {d : DataW H} {ps : List MemPlace} (c : Nat)
    (hu : P.underlying t = some (.slice e)) (hc : P.cellsOf e = c) (hval : Value.okWide P w r b0 t v) (hd : DataW.Trod enc P w base sp held t v d ps) :
    (v = .slice none 0 0) ∨ ∃ pb po len cap : Nat, v = .slice (some ⟨pb, po, none⟩) len cap ∧ len ≤ cap ∧ cap ≤ maxLen ∧ pb < w.heap.size ∧
      ∀ i, i < len → ∃ (cs' : List Value) (n : Nat) (D : DataW H × List MemPlace), cs'.length = c ∧ (∀ j, j < c → w.cell? ⟨pb, po + i * c + j, none⟩ = cs'[j]?) ∧ DataW.trod enc P w base sp held n e cs' = some D := by
  obtain ⟨a, len, cap, rfl⟩ := okWide_slice hu hval
  obtain ⟨fuel, hf⟩ := hd
  rcases open_slice hu hf with ⟨h0, _⟩ | ⟨a', len', cap', m, n, D, Pl, h0, _, h1, h2, h3, _, h4⟩
  · left; simpa [Value.cells] using h0
  · right
    have h0' : a = some a' ∧ len = len' ∧ cap = cap' := by simpa [Value.cells] using h0
    obtain ⟨rfl, rfl, rfl⟩ := h0'
    have hlm : len ≤ m := by rw [h3]; split <;> omega
    simp only [Value.okWide, hu, Cell.okWide, Cell.ok] at hval
    obtain ⟨_, _, _, hsp, row, cells, hsh, _⟩ := hval
    obtain ⟨pb, po, spot⟩ := a'
    obtain rfl : spot = none := hsp
    refine ⟨pb, po, len, cap, rfl, h1, h2, ?_, fun i hi => ?_⟩
    · unfold World.shape? at hsh
      cases hq : w.heap[pb]? with
      | none => rw [hq] at hsh; cases hsh
      | some o => exact (Array.getElem?_eq_some_iff.1 hq).1
    · obtain ⟨cs', g1, g2⟩ := h4 i (by omega)
      rw [hc] at g1
      obtain ⟨_, hlen, hcell⟩ := World.cells?_some g1
      refine ⟨cs', n, _, hlen, fun j hj => ?_, g2⟩
      have e0 := hcell j (by omega)
      rw [add_add, Addr.add_mid] at e0
      rw [Nat.add_assoc]; exact e0
theorem open_bytes_slice {H : Type} {enc : TypeId × Value → H} {P : Program} {w : World} {base b0 : Nat} {sp : Nat → Bool} {held : Bool} {r : Reach} {t e : TypeId} {v : Value} {d : DataW H} {ps : List MemPlace}
    (hu : P.underlying t = some (.slice e)) (he : P.underlying e = some (.int .u8)) (hc : P.cellsOf e = 1) (hval : Value.okWide P w r b0 t v) (hd : DataW.Trod enc P w base sp held t v d ps) : ∃ l, isBytes w v l := by
  rcases open_any 1 hu hc hval hd with rfl | ⟨pb, po, len, cap, rfl, h1, h2, h3, h4⟩
  · exact ⟨[], Or.inl ⟨rfl, rfl⟩⟩
  · have each : ∀ i, i < len → ∃ z : Int, w.cell? ⟨pb, po + i, none⟩ = some (.int .u8 z) ∧ 0 ≤ z ∧ z ≤ 255 := fun i hi => by
      obtain ⟨cs', n, D, g1, g2, g3⟩ := h4 i hi
      obtain ⟨z, rfl, _, hw⟩ := DataW.trod_int he g3
      have := g2 0 (by omega)
      rw [Nat.mul_one, Nat.add_zero] at this
      exact ⟨z, this, bounds_u8 hw⟩
    obtain ⟨f, hf⟩ := choose_lt each
    have hg : ∀ i, i < len → ((List.range len).map f).getD i 0 = f i := fun i hi => by
      rw [List.getD_eq_getElem?_getD, List.getElem?_map, List.getElem?_range hi]; rfl
    refine ⟨(List.range len).map f, Or.inr ⟨pb, po, cap, by simp, by simpa using h1, h2, h3, fun i hi => ?_, fun i => ?_⟩⟩
    · have hi' : i < len := by simpa using hi
      rw [hg i hi']; exact (hf i hi').1
    · by_cases hi : i < len
      · rw [hg i hi]; exact (hf i hi).2
      · rw [List.getD_eq_getElem?_getD, List.getElem?_eq_none (by simp; omega)]; exact ⟨by simp, by simp⟩
end Go.Proofs.YthpnenblmkdmcaaDoor

/- Rows of sums that came in, opened. -/
namespace Go.Proofs.YthpnenblmkdmcaaDoor
set_option maxRecDepth 100000
open Go.RowKit Go.Deep Go.ChangeShapes Go.WideShapes

theorem sum_cells {H : Type} {enc : TypeId × Value → H} {w : World} {base : Nat} {held : Bool} {n : Nat} {cs' : List Value} {D : DataW H × List MemPlace} (g1 : cs'.length = 32)
    (g3 : DataW.trod enc Tryd.prog w base (fun _ => true) held n 29 cs' = some D) : ∃ q : List Int, isSum q ∧ ∀ j, j < 32 → cs'[j]? = some (arrV q j) := by
  have c8 : Tryd.prog.cellsOf 5 = 1 := by kernel_rfl
  obtain ⟨xs, m', rfl, _, hlen, _, hx⟩ := DataW.trod_array Tryd.underlying29 g3
  have hsum : ∀ j, j < 32 → ∃ z : Int, cs'[j]? = some (.int .u8 z) ∧ 0 ≤ z ∧ z ≤ 255 := fun j hj => by
    have h5 := hx j hj
    rw [c8, Nat.mul_one] at h5
    have hxj : j < xs.length := by omega
    rw [List.getElem?_eq_getElem hxj] at h5
    obtain ⟨z, hz, _, hw⟩ := DataW.trod_int Tryd.underlying5 h5
    refine ⟨z, ?_, bounds_u8 hw⟩
    have := congrArg (fun l => l[0]?) hz
    simp only [List.getElem?_take, List.getElem?_drop, List.getElem?_cons_zero] at this
    simpa using this
  obtain ⟨f, hf⟩ := choose_lt hsum
  refine ⟨(List.range 32).map f, ⟨by simp, fun j => ?_⟩, fun j hj => ?_⟩
  · by_cases hj : j < 32
    · have : ((List.range 32).map f).getD j 0 = f j := by
        rw [List.getD_eq_getElem?_getD, List.getElem?_map, List.getElem?_range hj]; rfl
      rw [this]; exact (hf j hj).2
    · rw [List.getD_eq_getElem?_getD, List.getElem?_eq_none (by simp; omega)]; exact ⟨by simp, by simp⟩
  · have : ((List.range 32).map f).getD j 0 = f j := by
      rw [List.getD_eq_getElem?_getD, List.getElem?_map, List.getElem?_range hj]; rfl
    rw [arrV, this]; exact (hf j hj).1
theorem open_sums {H : Type} {enc : TypeId × Value → H} {w : World} {base b0 : Nat} {held : Bool} {r : Reach} {v : Value} {d : DataW H} {ps : List MemPlace}
    (hval : Value.okWide Tryd.prog w r b0 22 v) (hd : DataW.Trod enc Tryd.prog w base (fun _ => true) held 22 v d ps) : ∃ L, sumsAt w v L := by
  rcases open_any 32 Tryd.underlying22 (by kernel_rfl) hval hd with rfl | ⟨pb, po, len, cap, rfl, h1, h2, h3, h4⟩
  · exact ⟨[], sumsAt.nil w⟩
  · have each : ∀ i, i < len → ∃ q : List Int, isSum q ∧ ∀ j, j < 32 → w.cell? ⟨pb, po + i * 32 + j, none⟩ = some (arrV q j) := fun i hi => by
      obtain ⟨cs', n, D, g1, g2, g3⟩ := h4 i hi
      obtain ⟨q, e1, e2⟩ := sum_cells (by omega) g3
      exact ⟨q, e1, fun j hj => by rw [g2 j hj]; exact e2 j hj⟩
    obtain ⟨f, hf⟩ := choose_lt each
    have hl : ((List.range len).map f).length = len := by simp
    refine ⟨(List.range len).map f, fun x hx => ?_, _, cap, by rw [hl], by rw [hl]; exact h1, h2, fun h0 => ⟨pb, po, rfl, h3, fun i hi j hj => ?_⟩⟩
    · obtain ⟨i, hi, rfl⟩ := List.mem_map.1 hx
      exact (hf i (List.mem_range.1 hi)).1
    · have e : ((List.range len).map f)[i] = f i := by simp
      rw [e]; exact (hf i (by omega)).2 j hj
end Go.Proofs.YthpnenblmkdmcaaDoor

/- The table of the rounds' constants, as the row lists it; a world that holds it, for the witness. -/
namespace Go.Proofs.YthpnenblmkdmcaaDoor
set_option maxRecDepth 100000
open Go.RowKit Go.Deep Go.ChangeShapes Go.WideShapes Go.ChangeAt

/-- the table's name. -/
def tabName : String := Rows.growPathsRow.named.getD 0 ""
theorem gTab : Tryd.prog.globalNamed tabName = some 0 := by kernel_rfl
theorem gTabType : (Tryd.prog.globals[0]?).map (·.type) = some 124 := by kernel_rfl
theorem cellsTab : Tryd.prog.cellsOf 124 = 64 := by kernel_rfl
theorem cellsWord : Tryd.prog.cellsOf 91 = 1 := by kernel_rfl
/-- what the row's list gives. -/
theorem laid_tab {W : World} (h : laidMetH Tryd.prog Rows.growPathsRow.laid W) : tabIs W := by
  have ht : Lib.TabIs Tryd.prog W tabName .u32 kList := Lib.tabIs_of_head (rest := []) gTab gTabType Tryd.underlying124 Tryd.underlying91 cellsWord cellsTab h
  refine ⟨?_, fun i hi => ht.cell gTab i (by simpa [kList] using hi)⟩
  have h0 := ht.cell gTab 0 (by decide)
  exact block_lt_of_cell h0
/-- the table's block, laid. -/
def kObj : Obj → Obj
  | .cells _ t frozen => .cells #[.int .u32 1116352408, .int .u32 1899447441, .int .u32 3049323471, .int .u32 3921009573, .int .u32 961987163, .int .u32 1508970993, .int .u32 2453635748, .int .u32 2870763221, .int .u32 3624381080, .int .u32 310598401, .int .u32 607225278, .int .u32 1426881987, .int .u32 1925078388, .int .u32 2162078206, .int .u32 2614888103, .int .u32 3248222580, .int .u32 3835390401, .int .u32 4022224774, .int .u32 264347078, .int .u32 604807628, .int .u32 770255983, .int .u32 1249150122, .int .u32 1555081692, .int .u32 1996064986, .int .u32 2554220882, .int .u32 2821834349, .int .u32 2952996808, .int .u32 3210313671, .int .u32 3336571891, .int .u32 3584528711, .int .u32 113926993, .int .u32 338241895, .int .u32 666307205, .int .u32 773529912, .int .u32 1294757372, .int .u32 1396182291, .int .u32 1695183700, .int .u32 1986661051, .int .u32 2177026350, .int .u32 2456956037, .int .u32 2730485921, .int .u32 2820302411, .int .u32 3259730800, .int .u32 3345764771, .int .u32 3516065817, .int .u32 3600352804, .int .u32 4094571909, .int .u32 275423344, .int .u32 430227734, .int .u32 506948616, .int .u32 659060556, .int .u32 883997877, .int .u32 958139571, .int .u32 1322822218, .int .u32 1537002063, .int .u32 1747873779, .int .u32 1955562222, .int .u32 2024104815, .int .u32 2227730452, .int .u32 2361852424, .int .u32 2428436474, .int .u32 2756734187, .int .u32 3204031479, .int .u32 3329325298] t frozen
  | o => o
end Go.Proofs.YthpnenblmkdmcaaDoor
