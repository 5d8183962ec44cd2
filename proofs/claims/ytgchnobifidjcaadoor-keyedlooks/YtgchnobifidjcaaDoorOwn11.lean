import Derived.ProofKit
import Derived.OpenShut
import Derived.Test.YtgchnobifidjcaaDoorRows
import Derived.ChangeSlices
import Derived.Deep.Slices
import Derived.Deep.Strs
import Derived.SizedLaws
import Derived.Test.YtgchnobifidjcaaDoorCards
import Derived.Deep.DeepHandedRow
import Derived.Lib.LaidTab
import Derived.Test.YtgchnobifidjcaaDoorOwn1
import Derived.Test.YtgchnobifidjcaaDoorOwn2
import Derived.Test.YtgchnobifidjcaaDoorOwn5
import Derived.Test.YtgchnobifidjcaaDoorOwn9
import Derived.Test.YtgchnobifidjcaaDoorOwn10
set_option linter.unusedVariables false
set_option linter.unusedSimpArgs false
/- KeyedLooks: its walk. -/
namespace Go.Proofs.YtgchnobifidjcaaDoor
set_option linter.unusedSimpArgs false
set_option linter.unusedVariables false
open Go.RowKit Go.Deep

theorem zero8L : ∀ w, (zeroValue 5).run Tryd.prog w = .ok (.int .u8 0) w := fun w => by kernel_rfl
/-- clear, of bytes of the call's own. -/
theorem clear_runL (w : World) (B : Nat) (v : Value) (l : List Int) (h : newBytes w B v l) :
    ∃ w', (Builtin.clear_ #[23] 0 #[v]).run Tryd.prog w = .ok (.tuple #[]) w' ∧ Below B w w' ∧ w'.heap.size = w.heap.size := by
  obtain ⟨⟨_, h | ⟨g, cap, cur, rfl, hB, hg, hc, hm, hs, ht⟩⟩, hb⟩ := h
  · obtain ⟨rfl, _⟩ := h
    exact ⟨w, by simp [Builtin.clear_, run_underlying Tryd.underlying23], Below.refl _ _, rfl⟩
  · rw [List.length_map] at hc ⊢
    by_cases hn : 0 < l.length
    · have hrow : w.rowIs g 5 cap (fun j => cur.getD j undef) := ⟨cur, hg, by omega, fun j hj => by rw [Array.getElem?_eq_getElem (by omega)]; simp [Array.getD, hs, hj]⟩
      exact ⟨_, Go.Lib.run_clear_slice w 23 5 0 (.int .u8 0) Tryd.underlying23 zero8L rfl rfl g 0 l.length cap hn (fun j hj => by rw [Nat.zero_add, hrow.cell (by omega)]; rfl) (fun j _ => hrow.frozen _), below_setCells g hB _ _ (Below.refl _ _), size_setCells _ _ _ _⟩
    · have e : l.length = 0 := by omega
      rw [e]
      exact ⟨w, by simp [Builtin.clear_, run_underlying Tryd.underlying23], Below.refl _ _, rfl⟩
/-- what a look tells: whether it is there, whether it is not refused, the bytes. -/
def lkC (cnt : Int) (m : Nat) (y : Nat → Sp) (key R : List Int) (t ok : Bool) (l : List Int) : Prop :=
  (¬ lookOk cnt m y key R ∧ t = false ∧ ok = false ∧ l = []) ∨ (lookOk cnt m y key R ∧ ok = true ∧ ((∃ k, k < m ∧ (y k).pr.1 = key ∧ (∀ j, j < k → ¬ (y j).pr.1 = key) ∧ t = true ∧ l = (y k).pr.2) ∨ ((∀ j, j < m → ¬ (y j).pr.1 = key) ∧ t = false ∧ l = [])))
theorem lkC_one {cnt : Int} {m : Nat} {y : Nat → Sp} {key R : List Int} {t t' ok ok' : Bool} {l l' : List Int} (h : lkC cnt m y key R t ok l) (h' : lkC cnt m y key R t' ok' l') : t' = t ∧ ok' = ok ∧ l' = l := by
  rcases h with ⟨h0, rfl, rfl, rfl⟩ | ⟨h0, rfl, h⟩
  · rcases h' with ⟨_, rfl, rfl, rfl⟩ | ⟨h1, _⟩
    · exact ⟨rfl, rfl, rfl⟩
    · exact absurd h1 h0
  · rcases h' with ⟨h1, _⟩ | ⟨_, rfl, h'⟩
    · exact absurd h0 h1
    · rcases h with ⟨k, hk, e, hl, rfl, rfl⟩ | ⟨hn, rfl, rfl⟩
      · rcases h' with ⟨k', hk', e', hl', rfl, rfl⟩ | ⟨hn', _⟩
        · have : k' = k := by
            rcases Nat.lt_trichotomy k k' with h | h | h
            · exact absurd e (hl' k h)
            · exact h.symm
            · exact absurd e' (hl k' h)
          rw [this]; exact ⟨rfl, rfl, rfl⟩
        · exact absurd e (hn' k hk)
      · rcases h' with ⟨k', hk', e', _⟩ | ⟨_, rfl, rfl⟩
        · exact absurd e' (hn k' hk')
        · exact ⟨rfl, rfl, rfl⟩
def okI (ok : Bool) : Int := if ok = true then 0 else 10
set_option maxHeartbeats 8000000 in
set_option maxRecDepth 100000 in
theorem klooks_any (R : List Int) (hR : isSum R) (m : Nat) (tv sv : Value) (cnt : Int) (y0 : Nat → Sp) (key : List Int) (w : World) (hcn : inI64 cnt) (hk : anyBytes w tv key) (hs0 : spotsAt w sv m y0) (ht : tabIs w) :
    Calls Tryd.prog 4 #[.agg (rowV 32 (arrV R)), tv, .agg #[.int .i64 cnt, sv]] w fun e w' => e = .returned (.bool true) ∧ Below w.heap.size w w' := by
  have hzse := zero_se
  obtain ⟨y, hye⟩ : ∃ y : Nat → Sp, y = fun i => if i < m then y0 i else ⟨0, ([], []), []⟩ := ⟨_, rfl⟩
  have hs : spotsAt w sv m y := by
    obtain ⟨a, cap, h1, h2, h3, h4⟩ := hs0
    refine ⟨a, cap, h1, h2, h3, fun i hi => ?_⟩
    have e : y i = y0 i := by rw [hye]; exact if_pos hi
    rw [e]; exact h4 i hi
  have hyo : ∀ i, ¬ i < m → (y i).path = [] := fun i hi => by rw [hye]; show (if i < m then y0 i else _).path = []; rw [if_neg hi]
  clear hye hs0
  obtain ⟨sa, sc, hv, hmc, hcm, _⟩ := (id hs : spotsAt w sv m y)
  subst hv
  obtain ⟨w1, hw1⟩ : ∃ w1, w1 = (w.alloc (.cells (rowV 32 (arrV R)) 32)).alloc (.cells #[.int .i64 cnt, .slice sa m sc] 29) := ⟨_, rfl⟩
  have b1 : Below w.heap.size w w1 := by rw [hw1]; exact ((Below.refl _ _).alloc (Nat.le_refl _) _).alloc (by simp) _
  have z1 : w1.heap.size = w.heap.size + 2 := by rw [hw1]; simp
  have rR : w1.rowIs w.heap.size 32 32 (arrV R) := by
    have r := rowIs_box w 32 32 (arrV R)
    rw [hw1]; exact ((Below.refl (w.alloc (.cells (rowV 32 (arrV R)) 32)).heap.size _).alloc (Nat.le_refl _) _).row r (by simp)
  have rS : w1.rowIs (w.heap.size + 1) 29 2 (seG cnt (.slice sa m sc)) := by
    have r := rowIs_box (w.alloc (.cells (rowV 32 (arrV R)) 32)) 29 2 (seG cnt (.slice sa m sc))
    rw [World.size_alloc] at r; rw [hw1]; exact r
  have FACT : Hid (∀ wz, Below w1.heap.size w1 wz → Below w.heap.size w wz ∧ (∀ j, j < 32 → wz.cell? ⟨w.heap.size, 0 + j, none⟩ = some (arrV R j)) ∧ (∀ j, j < 2 → wz.cell? ⟨w.heap.size + 1, 0 + j, none⟩ = some (seG cnt (.slice sa m sc) j)) ∧ spotsAt wz (.slice sa m sc) m y ∧ anyBytes wz tv key ∧ tabIs wz) := (show _ from fun wz hz => by
    have hz' : Below w.heap.size w wz := b1.trans (hz.mono (by omega))
    exact ⟨hz', fun j hj => by rw [Nat.zero_add]; exact (hz.row rR rR.lt).cell hj, fun j hj => by rw [Nat.zero_add]; exact (hz.row rS rS.lt).cell hj, hs.below hz' (Nat.le_refl _), hk.below hz' (Nat.le_refl _), ht.below hz' ht.1⟩)
  have HB : Hid (isSum R ∧ inI64 cnt ∧ (∀ i, ¬ i < m → (y i).path = []) ∧ ¬ (1 : Nat) ≥ w.heap.size) := (show _ ∧ _ ∧ _ ∧ _ from ⟨hR, hcn, hyo, by have := ht.1; omega⟩)
  obtain ⟨ta, tcap, rfl, _⟩ := hk.slice
  have hl1 := (FACT.out w1 (Below.refl _ _)).2.2.1
  have X1 := kwide_any m cnt (.slice sa m sc) y w1 (FACT.out w1 (Below.refl _ _)).2.2.2.1
  rw [← seG_row] at X1
  have hk0 : (0 : Int) ≤ (key.length : Int) := by omega
  clear hs hk ht hR hcn hyo hmc hcm b1 z1 rR rS
  go_enter Tryd.func4, Tryd.ntmps4
  go_upto_region 1 with fail
  rw [← hw1]
  clear hw1
  go_wp2_with (first | (refine wpList_load_w 29 (.tmp 5) rfl rfl (w.heap.size + 1) 0 2 (seG cnt (.slice sa m sc)) rfl _ Tryd.underlying29 rfl hiSe hl1 ?_))
  refine X1.mono ?_
  rintro e w2 ⟨⟨b, rfl, hb⟩, b2⟩
  clear X1 hl1
  have B2 : Hid (Below w1.heap.size w1 w2) := (show _ from b2)
  have XA := kawake_any w2 (FACT.out w2 b2).2.2.2.2.2
  clear b2
  cases b with
  | true =>
    clear hb
    go_wp2_with fail
    refine XA.mono ?_
    rintro e w9 ⟨rfl, b9⟩
    have FI : Hid (Below w.heap.size w w9) := (show _ from by have h := (FACT.out w2 B2.out).1; exact h.trans (b9.mono h.size))
    clear XA b9
    go_wp2
    go_ret
    exact ⟨rfl, FI.out⟩
  | false =>
    obtain ⟨hm, hx⟩ := hb rfl
    have HM : Hid (m ≤ 10 ∧ ∀ i, i < m → (y i).pr.1.length + (y i).pr.2.length ≤ 100000 ∧ (y i).path.length ≤ 100) := (show _ ∧ _ from ⟨hm, hx⟩)
    clear hb hm hx
    by_cases hkl : (key.length : Int) > 1000
    · go_wp2_with fail
      refine XA.mono ?_
      rintro e w9 ⟨rfl, b9⟩
      have FI : Hid (Below w.heap.size w w9) := (show _ from by have h := (FACT.out w2 B2.out).1; exact h.trans (b9.mono h.size))
      clear XA b9
      go_wp2
      go_ret
      exact ⟨rfl, FI.out⟩
    · clear XA
      have XC := rcopy_any cnt m (.slice sa m sc) y w2 (FACT.out w2 B2.out).2.2.2.1 HM.out.1 (fun i hi => by have := HM.out.2 i hi; omega)
      rw [← seG_row] at XC
      have hl2 := (FACT.out w2 B2.out).2.2.1
      go_wp2_with (first | (refine wpList_load_w 29 (.tmp 5) rfl rfl (w.heap.size + 1) 0 2 (seG cnt (.slice sa m sc)) rfl _ Tryd.underlying29 rfl hiSe hl2 ?_))
      refine XC.mono ?_
      rintro e w3 ⟨u, rfl, ho, b3⟩
      clear XC hl2
      obtain ⟨oa, oc, rfl⟩ : ∃ oa oc, u = .slice oa m oc := by obtain ⟨a, c, e, _⟩ := ho; exact ⟨a, c, e⟩
      rw [← seG_row]
      obtain ⟨wq, hwq⟩ : ∃ wq, wq = w3.alloc (.cells (rowV 2 (seG 0 (.slice none 0 0))) 29) := ⟨_, rfl⟩
      have bq : Below w3.heap.size w3 wq := by rw [hwq]; exact (Below.refl _ _).alloc (Nat.le_refl _) _
      have rq : wq.rowIs w3.heap.size 29 2 (seG 0 (.slice none 0 0)) := by rw [hwq]; exact rowIs_box _ _ _ _
      have HQ : Hid (Below w1.heap.size w1 w3 ∧ Below w3.heap.size w3 wq ∧ wq.rowIs w3.heap.size 29 2 (seG 0 (.slice none 0 0)) ∧ spotsAt w3 (.slice oa m oc) m y) := (show _ ∧ _ ∧ _ ∧ _ from ⟨B2.out.trans (b3.mono B2.out.size), bq, rq, ho⟩)
      clear b3 bq rq ho
      go_upto_region 4 with (first | (rw [← hwq]; clear hwq; refine wpList_store_row rfl 29 _ _ rfl rfl w3.heap.size 0 2 (seG cnt (.slice oa m oc)) rfl rfl hiSe (seG_one _ _ _ _) _ _ _ HQ.out.2.2.1 (by omega) ?_; intro w4 r4 z4 b4))
      have r4' : w4.rowIs w3.heap.size 29 2 (seG cnt (.slice oa m oc)) := r4.congr (fun i hi => by rw [if_pos (by omega), Nat.sub_zero])
      have b34 : Below w3.heap.size w3 w4 := HQ.out.2.1.trans (b4.below' (Nat.le_refl _) HQ.out.2.1.size)
      have b14 : Below w1.heap.size w1 w4 := HQ.out.1.trans (b34.mono HQ.out.1.size)
      obtain ⟨b7, hb7⟩ : ∃ b7, b7 = w3.heap.size := ⟨_, rfl⟩
      rw [← hb7] at r4' ⊢
      have ho4 : spotsAt w4 (.slice oa m oc) m y := HQ.out.2.2.2.below b34 (Nat.le_refl _)
      have FB : Hid (∀ wz, Below w4.heap.size w4 wz → Below w1.heap.size w1 wz ∧ (∀ j, j < 2 → wz.cell? ⟨b7, 0 + j, none⟩ = some (seG cnt (.slice oa m oc) j)) ∧ spotsAt wz (.slice oa m oc) m y) := (show _ from fun wz hz => ⟨b14.trans (hz.mono b14.size), fun j hj => by rw [Nat.zero_add]; exact (hz.row r4' r4'.lt).cell hj, ho4.below hz (Nat.le_refl _)⟩)
      have hR4 := (FACT.out w4 b14).2.1
      have hO4 := (FB.out w4 (Below.refl _ _)).2.1
      have XL := look_k frNone (.pointer none) [] 0 R HB.out.1 cnt HB.out.2.1 m (.slice oa m oc) (.slice ta key.length tcap) y key w4 w4 (Below.refl _ _) (fun _ h => h.elim) ho4 (FACT.out w4 b14).2.2.2.2.1 (FACT.out w4 b14).2.2.2.2.2 (bkNone _ _ _) HM.out.1 (fun i => by
        by_cases h : i < m
        · have := HM.out.2 i h; omega
        · rw [HB.out.2.2.1 i h]; simp) (fun i hi => by have := HM.out.2 i hi; omega) (by simp) (by omega)
      rw [← seG_row] at XL
      clear r4 r4' z4 b4 b34 hb7 ho4 b14
      go_wp2_with (first | (refine wpList_load_w 32 (.tmp 3) rfl rfl w.heap.size 0 32 (arrV R) rfl _ Tryd.underlying32 rfl hi32' hR4 ?_) | (refine wpList_load_w 29 (.tmp 7) rfl rfl b7 0 2 (seG cnt (.slice oa m oc)) rfl _ Tryd.underlying29 rfl hiSe hO4 ?_))
      refine XL.mono ?_
      rintro e w5 ⟨hpost, hfr⟩
      clear XL hR4 hO4
      have b45 : Below w4.heap.size w4 w5 := frNone_below hfr
      obtain ⟨v1, t1, ok1, l1, rfl, hn1, hc1⟩ : ∃ v1 t1 ok1 l1, e = .returned (.tuple #[v1, .bool t1, .int .i64 (okI ok1)]) ∧ newBytes w5 w4.heap.size v1 l1 ∧ lkC cnt m y key R t1 ok1 l1 := by
        rcases hpost with ⟨h, rfl⟩ | ⟨h, _, h2⟩
        · exact ⟨_, false, false, [], rfl, newBytes.nil _ _, Or.inl ⟨h, rfl, rfl, rfl⟩⟩
        · rcases h2 with ⟨k, hk, e, hl, v', hn, rfl⟩ | ⟨hn, rfl⟩
          · exact ⟨v', true, true, _, rfl, hn, Or.inr ⟨h, rfl, Or.inl ⟨k, hk, e, hl, rfl, rfl⟩⟩⟩
          · exact ⟨_, false, true, [], rfl, newBytes.nil _ _, Or.inr ⟨h, rfl, Or.inr ⟨hn, rfl, rfl⟩⟩⟩
      have b15 : Below w1.heap.size w1 w5 := (FB.out w5 b45).1
      have HC1 : Hid (lkC cnt m y key R t1 ok1 l1) := hc1
      have H5 : Hid (Below w4.heap.size w4 w5 ∧ newBytes w5 w4.heap.size v1 l1) := (show _ ∧ _ from ⟨b45, hn1⟩)
      obtain ⟨xa, xc, rfl⟩ := hn1.slen
      have hR5 := (FACT.out w5 b15).2.1
      have hS5 := (FACT.out w5 b15).2.2.1
      have XR := rlook_any R HB.out.1 cnt HB.out.2.1 m (.slice sa m sc) (.slice ta key.length tcap) y key w5 (FACT.out w5 b15).2.2.2.1 (FACT.out w5 b15).2.2.2.2.1 (fun i hi => by have := HM.out.2 i hi; omega)
      rw [← seG_row] at XR
      clear hpost hfr b45 hn1 hc1 b15
      go_wp2_with (first | (refine wpList_load_w 32 (.tmp 3) rfl rfl w.heap.size 0 32 (arrV R) rfl _ Tryd.underlying32 rfl hi32' hR5 ?_) | (refine wpList_load_w 29 (.tmp 5) rfl rfl (w.heap.size + 1) 0 2 (seG cnt (.slice sa m sc)) rfl _ Tryd.underlying29 rfl hiSe hS5 ?_))
      refine XR.mono ?_
      rintro e w6 ⟨hpost, b56⟩
      clear XR hR5 hS5
      obtain ⟨v2, t2, ok2, l2, rfl, hn2, hc2⟩ : ∃ v2 t2 ok2 l2, e = .returned (.tuple #[v2, .bool t2, .bool ok2]) ∧ anyBytes w6 v2 l2 ∧ lkC cnt m y key R t2 ok2 l2 := by
        rcases hpost with ⟨h, rfl⟩ | ⟨h, h2⟩
        · exact ⟨_, false, false, [], rfl, Or.inl (Or.inl ⟨rfl, rfl⟩), Or.inl ⟨h, rfl, rfl, rfl⟩⟩
        · rcases h2 with ⟨k, hk, e, hl, v', hn, rfl⟩ | ⟨hn, rfl⟩
          · exact ⟨v', true, true, _, rfl, hn, Or.inr ⟨h, rfl, Or.inl ⟨k, hk, e, hl, rfl, rfl⟩⟩⟩
          · exact ⟨_, false, true, [], rfl, Or.inl (Or.inl ⟨rfl, rfl⟩), Or.inr ⟨h, rfl, Or.inr ⟨hn, rfl, rfl⟩⟩⟩
      obtain ⟨rfl, rfl, rfl⟩ := lkC_one HC1.out hc2
      obtain ⟨ya, yc, rfl, _⟩ := hn2.slice
      have hn6 : newBytes w6 w4.heap.size (.slice xa l2.length xc) l2 := H5.out.2.below b56 (Nat.le_refl _)
      have v1 := convK w6 _ _ (Or.inl hn6.is)
      have v2 := convK w6 _ _ hn2
      obtain ⟨w7, hclr, b67, z67⟩ := clear_runL w6 w4.heap.size _ _ hn6
      have b46 : Below w4.heap.size w4 w6 := H5.out.1.trans (b56.mono H5.out.1.size)
      have b47 : Below w4.heap.size w4 w7 := b46.trans b67
      have HB7 : Hid (Below w4.heap.size w4 w7) := (show _ from b47)
      have hO7 := (FB.out w7 b47).2.1
      have hS7 := (FACT.out w7 (FB.out w7 b47).1).2.2.1
      have XS := rsames_any cnt cnt m m (.slice oa m oc) (.slice sa m sc) y y w7 (FB.out w7 b47).2.2 (FACT.out w7 (FB.out w7 b47).1).2.2.2.1 (fun i hi => by have := (HM.out.2 i hi).2; omega)
      rw [← seG_row, ← seG_row] at XS
      clear hpost b56 hc2 hn6 hn2 b67 z67 b46 b47 HC1
      have hoi : okI ok2 = if ok2 = true then 0 else 10 := rfl
      cases ok2 with
      | true =>
        rw [hoi, if_pos rfl]
        clear hoi
        go_wp2_with (first | (refine wpList_load_w 29 (.tmp 7) rfl rfl b7 0 2 (seG cnt (.slice oa m oc)) rfl _ Tryd.underlying29 rfl hiSe hO7 ?_) | (refine wpList_load_w 29 (.tmp 5) rfl rfl (w.heap.size + 1) 0 2 (seG cnt (.slice sa m sc)) rfl _ Tryd.underlying29 rfl hiSe hS7 ?_))
        refine XS.mono ?_
        rintro e w8 ⟨⟨b, rfl, hb⟩, b78⟩
        obtain rfl : b = true := hb.2 ⟨rfl, rfl, fun _ _ => rfl⟩
        have b48 : Below w4.heap.size w4 w8 := HB7.out.trans (b78.mono HB7.out.size)
        have XA := kawake_any w8 (FACT.out w8 (FB.out w8 b48).1).2.2.2.2.2
        have B8 : Hid (Below w.heap.size w w8) := (show _ from (FACT.out w8 (FB.out w8 b48).1).1)
        clear XS hb b78 b48 hO7 hS7 v1 v2 hclr
        go_wp2_with fail
        refine XA.mono ?_
        rintro e w9 ⟨rfl, b9⟩
        have FI : Hid (Below w.heap.size w w9) := (show _ from B8.out.trans (b9.mono B8.out.size))
        clear XA b9
        go_wp2
        go_ret
        exact ⟨rfl, FI.out⟩
      | false =>
        rw [hoi, if_neg (by decide)]
        clear hoi
        go_wp2_with (first | (refine wpList_load_w 29 (.tmp 7) rfl rfl b7 0 2 (seG cnt (.slice oa m oc)) rfl _ Tryd.underlying29 rfl hiSe hO7 ?_) | (refine wpList_load_w 29 (.tmp 5) rfl rfl (w.heap.size + 1) 0 2 (seG cnt (.slice sa m sc)) rfl _ Tryd.underlying29 rfl hiSe hS7 ?_))
        refine XS.mono ?_
        rintro e w8 ⟨⟨b, rfl, hb⟩, b78⟩
        obtain rfl : b = true := hb.2 ⟨rfl, rfl, fun _ _ => rfl⟩
        have b48 : Below w4.heap.size w4 w8 := HB7.out.trans (b78.mono HB7.out.size)
        have XA := kawake_any w8 (FACT.out w8 (FB.out w8 b48).1).2.2.2.2.2
        have B8 : Hid (Below w.heap.size w w8) := (show _ from (FACT.out w8 (FB.out w8 b48).1).1)
        clear XS hb b78 b48 hO7 hS7 v1 v2 hclr
        go_wp2_with fail
        refine XA.mono ?_
        rintro e w9 ⟨rfl, b9⟩
        have FI : Hid (Below w.heap.size w w9) := (show _ from B8.out.trans (b9.mono B8.out.size))
        clear XA b9
        go_wp2
        go_ret
        exact ⟨rfl, FI.out⟩
end Go.Proofs.YtgchnobifidjcaaDoor

/- The frame of a law's row: what was read reads behind the call as it did, where nothing old has turned. -/
namespace Go.Proofs.YtgchnobifidjcaaDoor
open Go.RowKit Go.Deep Go.ChangeShapes Go.WideShapes Go.ChangeAt

theorem below_trodAll {H : Type} {enc : TypeId × Value → H} {P : Program} (hl : laidOutB P = true) {W W' : World} (hb : Below W.heap.size W W') :
    ∀ {ts : List TypeId} {vs : List Value} {ds : List (DataW H)} {ps : List MemPlace}, (∀ t ∈ ts, P.readableRec t = true ∧ t < P.types.size) → DataW.TrodAll enc P W 0 (fun _ => true) true ts vs ds ps → (∀ x ∈ ps, x.block < W.heap.size) →
      DataW.TrodAll enc P W' 0 (fun b => decide (b < W.heap.size)) true ts vs ds ps
  | [], [], [], _, _, h, _ => h
  | t :: ts, v :: vs, d :: ds, ps, hts, h, hlt => by
    obtain ⟨p, q, h1, h2, e⟩ := h
    subst e
    exact ⟨p, q, Below.trod hl (hts t List.mem_cons_self).1 (hts t List.mem_cons_self).2 h1 hb (fun x hx => hlt x (List.mem_append_left _ hx)), below_trodAll hl hb (fun u hu => hts u (List.mem_cons_of_mem _ hu)) h2 (fun x hx => hlt x (List.mem_append_right _ hx)), rfl⟩

/-- WHAT A LAW's ROW ASKS BEHIND THE CALL, where the answer is true and nothing old has turned. -/
theorem law_post {H : Type} {enc : TypeId × Value → H} {P : Program} {spec : ChangeSpec} {f : Func} {W W' : World} {args : Array Value} {ds gs : List (DataW H)} {before : List MemPlace} {tb : TypeId}
    (hl : laidOutB P = true) (hts : ∀ t ∈ f.params.toList, P.readableRec t = true ∧ t < P.types.size) (hvars : spec.vars = []) (hres : f.resultTypes = #[tb]) (hbool : P.underlying tb = some .bool)
    (hspec : spec.fn H (ds ++ gs) = { results := [.lit (.bool true)], args := ds })
    (hW : DataW.Whole enc P f.params.toList spec.vars false W args.toList ds gs before) (hb : Below W.heap.size W W') : spec.post enc P f false true false false W args (.bool true) W' := by
  have hW' := hW
  have hlt := hW.lt
  obtain ⟨p, q, hA, hV, rfl, hfz, hnd⟩ := hW
  rw [hvars] at hV
  obtain ⟨rfl, rfl⟩ := trodVars_none hV
  refine ⟨ds, [], p ++ [], [], p, [], hW', ?_, ?_, ?_, ?_, fun h => by cases h⟩
  · rw [hspec, hres]
    exact trodAll_cons_mk (shut_bool hbool _) trodAll_mk0
  · rw [hspec]
    exact below_trodAll hl hb hts hA (fun x hx => hlt x (List.mem_append_left _ hx))
  · rw [hspec, hvars]; exact hV
  · exact hb.frame _

/-- AN ARRAY OF BYTES, opened. -/
theorem open_bytes {H : Type} {enc : TypeId × Value → H} {P : Program} {w : World} {base b0 : Nat} {sp : Nat → Bool} {held : Bool} {r : Reach} {t e : TypeId} {n : Nat} {v : Value} {d : DataW H} {ps : List MemPlace}
    (hu : P.underlying t = some (.array n e)) (he : P.underlying e = some (.int .u8)) (hc : P.cellsOf e = 1) (hct : P.cellsOf t = n) (hval : Value.okWide P w r b0 t v) (hd : DataW.Trod enc P w base sp held t v d ps) :
    ∃ f : Nat → Int, v = .agg (rowV n fun i => .int .u8 (f i)) ∧ ∀ i, 0 ≤ f i ∧ f i ≤ 255 := by
  unfold Value.okWide at hval
  rw [hu] at hval
  obtain ⟨cs, rfl, hsz, _⟩ := hval
  obtain ⟨fuel, hf⟩ := hd
  obtain ⟨xs, m, rfl, _, hlen, _, hx⟩ := DataW.trod_array hu hf
  simp only [Value.cells] at hx hlen
  have hget : ∀ i, i < n → ∃ z : Int, cs[i]? = some (.int .u8 z) ∧ 0 ≤ z ∧ z ≤ 255 := fun i hi => by
    have h1 := hx i hi
    rw [hc, Nat.mul_one] at h1
    have hxi : i < xs.length := by omega
    rw [List.getElem?_eq_getElem hxi] at h1
    obtain ⟨z, hz, _, hw⟩ := DataW.trod_int he h1
    refine ⟨z, ?_, bounds_u8 hw⟩
    have hcs : cs.toList[i]? = some (.int .u8 z) := by
      have := congrArg (fun l => l[0]?) hz
      simpa [List.getElem?_take, List.getElem?_drop] using this
    rw [← Array.getElem?_toList]; exact hcs
  refine ⟨fun i => if h : i < n then Classical.choose (hget i h) else 0, ?_, fun i => ?_⟩
  · congr 1
    refine rowV_eq (by omega) fun i hi => ?_
    dsimp only
    rw [dif_pos hi]; exact (Classical.choose_spec (hget i hi)).1
  · dsimp only
    by_cases h : i < n
    · rw [dif_pos h]; exact (Classical.choose_spec (hget i h)).2
    · rw [dif_neg h]; omega
end Go.Proofs.YtgchnobifidjcaaDoor

/- A sum that is handed in. -/
namespace Go.Proofs.YtgchnobifidjcaaDoor
open Go.RowKit Go.Deep
/-- its bytes as a list. -/
def listF (f : Nat → Int) : List Int := (List.range 32).map f
theorem listF_getD (f : Nat → Int) (i : Nat) (h : i < 32) : (listF f).getD i 0 = f i := by
  rw [listF, List.getD_eq_getElem?_getD, List.getElem?_map, List.getElem?_range h]; rfl
theorem listF_sum {f : Nat → Int} (hf : ∀ i, 0 ≤ f i ∧ f i ≤ 255) : isSum (listF f) := ⟨by simp [listF], fun i => by
  by_cases h : i < 32
  · rw [listF_getD f i h]; exact hf i
  · rw [List.getD_eq_getElem?_getD, List.getElem?_eq_none (by simp [listF]; omega)]; exact ⟨by simp, by simp⟩⟩
theorem listF_row (f : Nat → Int) : rowV 32 (fun i => .int .u8 (f i)) = rowV 32 (arrV (listF f)) := rowV_congr fun i hi => by rw [arrV, listF_getD f i hi]
def zeroSum : Value := .agg #[.int .u8 0, .int .u8 0, .int .u8 0, .int .u8 0, .int .u8 0, .int .u8 0, .int .u8 0, .int .u8 0, .int .u8 0, .int .u8 0, .int .u8 0, .int .u8 0, .int .u8 0, .int .u8 0, .int .u8 0, .int .u8 0, .int .u8 0, .int .u8 0, .int .u8 0, .int .u8 0, .int .u8 0, .int .u8 0, .int .u8 0, .int .u8 0, .int .u8 0, .int .u8 0, .int .u8 0, .int .u8 0, .int .u8 0, .int .u8 0, .int .u8 0, .int .u8 0]
def zeroSumD {H : Type} : DataW H := .agg [.lit (.int .u8 0), .lit (.int .u8 0), .lit (.int .u8 0), .lit (.int .u8 0), .lit (.int .u8 0), .lit (.int .u8 0), .lit (.int .u8 0), .lit (.int .u8 0), .lit (.int .u8 0), .lit (.int .u8 0), .lit (.int .u8 0), .lit (.int .u8 0), .lit (.int .u8 0), .lit (.int .u8 0), .lit (.int .u8 0), .lit (.int .u8 0), .lit (.int .u8 0), .lit (.int .u8 0), .lit (.int .u8 0), .lit (.int .u8 0), .lit (.int .u8 0), .lit (.int .u8 0), .lit (.int .u8 0), .lit (.int .u8 0), .lit (.int .u8 0), .lit (.int .u8 0), .lit (.int .u8 0), .lit (.int .u8 0), .lit (.int .u8 0), .lit (.int .u8 0), .lit (.int .u8 0), .lit (.int .u8 0)]
end Go.Proofs.YtgchnobifidjcaaDoor

/- KeyedLooks: a sum that is handed in. -/
namespace Go.Proofs.YtgchnobifidjcaaDoor
open Go.RowKit Go.Deep

theorem klooks_f (f : Nat → Int) (hf : ∀ i, 0 ≤ f i ∧ f i ≤ 255) (m : Nat) (tv sv : Value) (cnt : Int) (y0 : Nat → Sp) (key : List Int) (w : World) (hcn : inI64 cnt) (hk : anyBytes w tv key) (hs0 : spotsAt w sv m y0) (ht : tabIs w) :
    Calls Tryd.prog 4 #[.agg (rowV 32 (fun i => .int .u8 (f i))), tv, .agg #[.int .i64 cnt, sv]] w fun e w' => e = .returned (.bool true) ∧ Below w.heap.size w w' := by
  rw [listF_row f]
  exact klooks_any (listF f) (listF_sum hf) m tv sv cnt y0 key w hcn hk hs0 ht
end Go.Proofs.YtgchnobifidjcaaDoor

/- The frame of a law's row, where no package variable is laid. -/
namespace Go.Proofs.YtgchnobifidjcaaDoor
open Go.RowKit Go.Deep Go.ChangeShapes Go.WideShapes Go.ChangeAt
theorem own : ownKnob Tryd.prog.godebug = none := by kernel_rfl
theorem laidOut : laidOutB Tryd.prog = true := by kernel_rfl
end Go.Proofs.YtgchnobifidjcaaDoor

/- Slices that came in, opened. -/
namespace Go.Proofs.YtgchnobifidjcaaDoor
open Go.RowKit Go.Deep Go.ChangeShapes Go.WideShapes

theorem bounds_i64 {a : Int} (h : (Lit.int .i64 a).wf = true) : -9223372036854775808 ≤ a ∧ a ≤ 9223372036854775807 := by
  simpa [Lit.wf, IntKind.min, IntKind.max, IntKind.signed, IntKind.bits] using h
/-- A SLICE, opened at every index. -/
theorem open_any {H : Type} {enc : TypeId × Value → H} {P : Program} {w : World} {base b0 : Nat} {sp : Nat → Bool} {held : Bool} {r : Reach} {t e : TypeId} {v : Value} {d : DataW H} {ps : List MemPlace} (c : Nat)
    (hu : P.underlying t = some (.slice e)) (hc : P.cellsOf e = c) (hval : Value.okWide P w r b0 t v) (hd : DataW.Trod enc P w base sp held t v d ps) :
    (v = .slice none 0 0) ∨ ∃ pb po len cap : Nat, v = .slice (some ⟨pb, po, none⟩) len cap ∧ len ≤ cap ∧ cap ≤ maxLen ∧ pb < w.heap.size ∧
      ∀ i, i < len → ∃ (cs' : List Value) (n : Nat) (D : DataW H × List MemPlace), cs'.length = c ∧ (∀ j, j < c → w.cell? ⟨pb, po + i * c + j, none⟩ = cs'[j]?) ∧ DataW.trod enc P w base sp held n e cs' = some D := by
  obtain ⟨a, len, cap, rfl⟩ := okWide_slice hu hval
  obtain ⟨fuel, hf⟩ := hd
  rcases open_slice hu hf with ⟨h0, _⟩ | ⟨a', len', cap', m, n, D, Pl, h0, _, h1, h2, h3, _, h4⟩
  · left; simpa [Value.cells] using h0
  · right
    have h0' : a = some a' ∧ len = len' ∧ cap = cap' := by simpa [Value.cells] using h0
    obtain ⟨rfl, rfl, rfl⟩ := h0'
    have hlm : len ≤ m := by rw [h3]; split <;> omega
    simp only [Value.okWide, hu, Cell.okWide, Cell.ok] at hval
    obtain ⟨_, _, _, hsp, row, cells, hsh, _⟩ := hval
    obtain ⟨pb, po, spot⟩ := a'
    obtain rfl : spot = none := hsp
    refine ⟨pb, po, len, cap, rfl, h1, h2, ?_, fun i hi => ?_⟩
    · unfold World.shape? at hsh
      cases hq : w.heap[pb]? with
      | none => rw [hq] at hsh; cases hsh
      | some o => exact (Array.getElem?_eq_some_iff.1 hq).1
    · obtain ⟨cs', g1, g2⟩ := h4 i (by omega)
      rw [hc] at g1
      obtain ⟨_, hlen, hcell⟩ := World.cells?_some g1
      refine ⟨cs', n, _, hlen, fun j hj => ?_, g2⟩
      have e0 := hcell j (by omega)
      rw [add_add, Addr.add_mid] at e0
      rw [Nat.add_assoc]; exact e0
theorem open_bytes_slice {H : Type} {enc : TypeId × Value → H} {P : Program} {w : World} {base b0 : Nat} {sp : Nat → Bool} {held : Bool} {r : Reach} {t e : TypeId} {v : Value} {d : DataW H} {ps : List MemPlace}
    (hu : P.underlying t = some (.slice e)) (he : P.underlying e = some (.int .u8)) (hc : P.cellsOf e = 1) (hval : Value.okWide P w r b0 t v) (hd : DataW.Trod enc P w base sp held t v d ps) : ∃ l, isBytes w v l := by
  rcases open_any 1 hu hc hval hd with rfl | ⟨pb, po, len, cap, rfl, h1, h2, h3, h4⟩
  · exact ⟨[], Or.inl ⟨rfl, rfl⟩⟩
  · have each : ∀ i, i < len → ∃ z : Int, w.cell? ⟨pb, po + i, none⟩ = some (.int .u8 z) ∧ 0 ≤ z ∧ z ≤ 255 := fun i hi => by
      obtain ⟨cs', n, D, g1, g2, g3⟩ := h4 i hi
      obtain ⟨z, rfl, _, hw⟩ := DataW.trod_int he g3
      have := g2 0 (by omega)
      rw [Nat.mul_one, Nat.add_zero] at this
      exact ⟨z, this, bounds_u8 hw⟩
    obtain ⟨f, hf⟩ := choose_lt each
    have hg : ∀ i, i < len → ((List.range len).map f).getD i 0 = f i := fun i hi => by
      rw [List.getD_eq_getElem?_getD, List.getElem?_map, List.getElem?_range hi]; rfl
    refine ⟨(List.range len).map f, Or.inr ⟨pb, po, cap, by simp, by simpa using h1, h2, h3, fun i hi => ?_, fun i => ?_⟩⟩
    · have hi' : i < len := by simpa using hi
      rw [hg i hi']; exact (hf i hi').1
    · by_cases hi : i < len
      · rw [hg i hi]; exact (hf i hi).2
      · rw [List.getD_eq_getElem?_getD, List.getElem?_eq_none (by simp; omega)]; exact ⟨by simp, by simp⟩
end Go.Proofs.YtgchnobifidjcaaDoor

/- Slices of slices of bytes that came in, opened. -/
namespace Go.Proofs.YtgchnobifidjcaaDoor
set_option maxRecDepth 100000
open Go.RowKit Go.Deep Go.ChangeShapes Go.WideShapes

theorem open_inner {H : Type} {enc : TypeId × Value → H} {w : World} {base : Nat} {held : Bool} {n : Nat} {u : Value} {D : DataW H × List MemPlace}
    (hd : DataW.trod enc Tryd.prog w base (fun _ => true) held n 23 [u] = some D) : ∃ l, anyBytes w u l := by
  rcases open_slice1 Tryd.underlying23 (by kernel_rfl) hd with ⟨h0, _⟩ | ⟨a, len, cap, m, n', V, D', Pl, h0, _, h1, h2, h3, _, h4⟩
  · exact ⟨[], Or.inl (Or.inl ⟨by simpa using h0, rfl⟩)⟩
  · obtain rfl : u = .slice (some a) len cap := by simpa using h0
    simp only [if_true] at h3
    subst h3
    by_cases hc : m = 0
    · subst hc
      obtain rfl : len = 0 := by omega
      exact ⟨[], Or.inr ⟨⟨_, rfl⟩, rfl⟩⟩
    · have h00 := (h4 0 (by omega)).1
      have ha0 : a.add 0 = a := by unfold Addr.add; rw [if_pos rfl]
      rw [ha0] at h00
      have hsp : a.spot = none := by
        unfold World.cell? at h00
        split at h00
        · cases hs : a.spot with
          | none => rfl
          | some q => rw [hs] at h00; simp at h00
        · cases h00
      obtain ⟨pb, po, spot⟩ := a
      obtain rfl : spot = none := hsp
      have hlt := World.block_lt_of_cell? _ _ h00
      have each : ∀ i, i < len → ∃ z : Int, w.cell? ⟨pb, po + i, none⟩ = some (.int .u8 z) ∧ 0 ≤ z ∧ z ≤ 255 := fun i hi => by
        obtain ⟨e1, e2⟩ := h4 i (by omega)
        rw [Addr.add_mid] at e1
        obtain ⟨z, hz, _, hw⟩ := DataW.trod_int Tryd.underlying5 e2
        have hz' : V i = .int .u8 z := by simpa using hz
        exact ⟨z, by rw [e1, hz'], bounds_u8 hw⟩
      obtain ⟨f, hf⟩ := choose_lt each
      have hg : ∀ i, i < len → ((List.range len).map f).getD i 0 = f i := fun i hi => by
        rw [List.getD_eq_getElem?_getD, List.getElem?_map, List.getElem?_range hi]; rfl
      refine ⟨(List.range len).map f, Or.inl (Or.inr ⟨pb, po, m, by simp, by simpa using h1, h2, hlt, fun i hi => ?_, fun i => ?_⟩)⟩
      · have hi' : i < len := by simpa using hi
        rw [hg i hi']; exact (hf i hi').1
      · by_cases hi : i < len
        · rw [hg i hi]; exact (hf i hi).2
        · rw [List.getD_eq_getElem?_getD, List.getElem?_eq_none (by simp; omega)]; exact ⟨by simp, by simp⟩
end Go.Proofs.YtgchnobifidjcaaDoor

/- Pairs that came in, opened. -/
namespace Go.Proofs.YtgchnobifidjcaaDoor
set_option maxRecDepth 100000
open Go.RowKit Go.Deep Go.ChangeShapes Go.WideShapes

theorem trod_struct2 {H : Type} {enc : TypeId × Value → H} {P : Program} {w : World} {base : Nat} {spare : Nat → Bool} {held : Bool} {t : TypeId} {f0 f1 : Field} {fuel : Nat} {cs : List Value} {x : DataW H × List MemPlace} (ht : P.underlying t = some (.struct #[f0, f1])) (h : DataW.trod enc P w base spare held fuel t cs = some x) :
    ∃ y0 y1 n, cs.length = P.cellsOf t ∧ DataW.trod enc P w base spare held n f0.type ((cs.drop f0.offset).take (P.cellsOf f0.type)) = some y0 ∧ DataW.trod enc P w base spare held n f1.type ((cs.drop f1.offset).take (P.cellsOf f1.type)) = some y1 := by
  obtain ⟨xs, n, _, rfl, hl, hlen, hf⟩ := DataW.trod_struct ht h
  match xs, hlen with
  | [y0, y1], _ => exact ⟨y0, y1, n, hl, by simpa using hf 0 f0 rfl, by simpa using hf 1 f1 rfl⟩
theorem drop_one {cs : List Value} {o : Nat} (h : o < cs.length) : (cs.drop o).take 1 = [cs[o]] := by
  rw [List.drop_eq_getElem_cons h]; rfl
theorem pair_cells {H : Type} {enc : TypeId × Value → H} {w : World} {base : Nat} {held : Bool} {n : Nat} {cs' : List Value} {D : DataW H × List MemPlace} (g1 : cs'.length = 2)
    (g3 : DataW.trod enc Tryd.prog w base (fun _ => true) held n 38 cs' = some D) : ∃ (kc vc : Value) (k v : List Int), cs'[0]? = some kc ∧ cs'[1]? = some vc ∧ anyBytes w kc k ∧ anyBytes w vc v := by
  have cb : Tryd.prog.cellsOf 23 = 1 := by kernel_rfl
  obtain ⟨y0, y1, m, _, t0, t1⟩ := trod_struct2 Tryd.underlying38 g3
  simp only [cb] at t0 t1
  rw [drop_one (by omega)] at t0 t1
  obtain ⟨l0, h0⟩ := open_inner t0
  obtain ⟨l1, h1⟩ := open_inner t1
  exact ⟨_, _, l0, l1, List.getElem?_eq_getElem (by omega), List.getElem?_eq_getElem (by omega), h0, h1⟩
theorem open_key {H : Type} {enc : TypeId × Value → H} {w : World} {base b0 : Nat} {held : Bool} {r : Reach} {v : Value} {d : DataW H} {ps : List MemPlace}
    (hval : Value.okWide Tryd.prog w r b0 23 v) (hd : DataW.Trod enc Tryd.prog w base (fun _ => true) held 23 v d ps) : ∃ l, anyBytes w v l := by
  obtain ⟨l, h⟩ := open_bytes_slice Tryd.underlying23 Tryd.underlying5 (by kernel_rfl) hval hd
  exact ⟨l, Or.inl h⟩
end Go.Proofs.YtgchnobifidjcaaDoor

/- What is shown, that came in, opened. -/
namespace Go.Proofs.YtgchnobifidjcaaDoor
set_option maxRecDepth 100000
open Go.RowKit Go.Deep Go.ChangeShapes Go.WideShapes

theorem trod_struct3 {H : Type} {enc : TypeId × Value → H} {P : Program} {w : World} {base : Nat} {spare : Nat → Bool} {held : Bool} {t : TypeId} {f0 f1 f2 : Field} {fuel : Nat} {cs : List Value} {x : DataW H × List MemPlace} (ht : P.underlying t = some (.struct #[f0, f1, f2])) (h : DataW.trod enc P w base spare held fuel t cs = some x) :
    ∃ y0 y1 y2 n, cs.length = P.cellsOf t ∧ DataW.trod enc P w base spare held n f0.type ((cs.drop f0.offset).take (P.cellsOf f0.type)) = some y0 ∧ DataW.trod enc P w base spare held n f1.type ((cs.drop f1.offset).take (P.cellsOf f1.type)) = some y1 ∧
      DataW.trod enc P w base spare held n f2.type ((cs.drop f2.offset).take (P.cellsOf f2.type)) = some y2 := by
  obtain ⟨xs, n, _, rfl, hl, hlen, hf⟩ := DataW.trod_struct ht h
  match xs, hlen with
  | [y0, y1, y2], _ => exact ⟨y0, y1, y2, n, hl, by simpa using hf 0 f0 rfl, by simpa using hf 1 f1 rfl, by simpa using hf 2 f2 rfl⟩
/-- a slice within what came in. -/
theorem inner_any {H : Type} {enc : TypeId × Value → H} {P : Program} {w : World} {base : Nat} {held : Bool} {n : Nat} {t e : TypeId} {u : Value} {D : DataW H × List MemPlace} (c : Nat)
    (hu : P.underlying t = some (.slice e)) (hc : P.cellsOf e = c) (hc0 : 0 < c) (hd : DataW.trod enc P w base (fun _ => true) held n t [u] = some D) :
    (∃ a, u = .slice a 0 0) ∨ ∃ pb po len cap : Nat, u = .slice (some ⟨pb, po, none⟩) len cap ∧ len ≤ cap ∧ cap ≤ maxLen ∧ pb < w.heap.size ∧
      ∀ i, i < len → ∃ (cs' : List Value) (n : Nat) (D : DataW H × List MemPlace), cs'.length = c ∧ (∀ j, j < c → w.cell? ⟨pb, po + i * c + j, none⟩ = cs'[j]?) ∧ DataW.trod enc P w base (fun _ => true) held n e cs' = some D := by
  rcases open_slice hu hd with ⟨h0, _⟩ | ⟨a, len, cap, m, n', D', Pl, h0, _, h1, h2, h3, _, h4⟩
  · exact Or.inl ⟨none, by simpa using h0⟩
  · obtain rfl : u = .slice (some a) len cap := by simpa using h0
    simp only [if_true] at h3
    subst h3
    by_cases hc1 : m = 0
    · subst hc1
      obtain rfl : len = 0 := by omega
      exact Or.inl ⟨_, rfl⟩
    · right
      have hat : ∀ i, i < m → ∃ cs', cs'.length = c ∧ (∀ j, j < c → w.cell? ((a.add (i * c)).add j) = cs'[j]?) ∧ DataW.trod enc P w base (fun _ => true) held n' e cs' = some (D' i, Pl i) := fun i hi => by
        obtain ⟨cs', g1, g2⟩ := h4 i hi
        rw [hc] at g1
        obtain ⟨_, hlen, hcell⟩ := World.cells?_some g1
        exact ⟨cs', hlen, fun j hj => hcell j (by omega), g2⟩
      obtain ⟨cs0, l0, c0, _⟩ := hat 0 (by omega)
      have h00 := c0 0 hc0
      rw [Nat.zero_mul] at h00
      have ha0 : ∀ a : Addr, a.add 0 = a := fun a => by unfold Addr.add; rw [if_pos rfl]
      rw [ha0, ha0, List.getElem?_eq_getElem (by omega)] at h00
      have hsp : a.spot = none := by
        unfold World.cell? at h00
        split at h00
        · cases hs : a.spot with
          | none => rfl
          | some q => rw [hs] at h00; simp at h00
        · cases h00
      obtain ⟨pb, po, spot⟩ := a
      obtain rfl : spot = none := hsp
      have hlt := World.block_lt_of_cell? _ _ h00
      refine ⟨pb, po, len, m, rfl, h1, h2, hlt, fun i hi => ?_⟩
      obtain ⟨cs', g1, g2, g3⟩ := hat i (by omega)
      refine ⟨cs', _, _, g1, fun j hj => ?_, g3⟩
      have e0 := g2 j hj
      rw [add_add, Addr.add_mid] at e0
      rw [Nat.add_assoc]; exact e0
theorem sum_cells {H : Type} {enc : TypeId × Value → H} {w : World} {base : Nat} {held : Bool} {n : Nat} {cs' : List Value} {D : DataW H × List MemPlace} (g1 : cs'.length = 32)
    (g3 : DataW.trod enc Tryd.prog w base (fun _ => true) held n 32 cs' = some D) : ∃ q : List Int, isSum q ∧ ∀ j, j < 32 → cs'[j]? = some (arrV q j) := by
  have c8 : Tryd.prog.cellsOf 5 = 1 := by kernel_rfl
  obtain ⟨xs, m', rfl, _, hlen, _, hx⟩ := DataW.trod_array Tryd.underlying32 g3
  have hsum : ∀ j, j < 32 → ∃ z : Int, cs'[j]? = some (.int .u8 z) ∧ 0 ≤ z ∧ z ≤ 255 := fun j hj => by
    have h5 := hx j hj
    rw [c8, Nat.mul_one] at h5
    have hxj : j < xs.length := by omega
    rw [List.getElem?_eq_getElem hxj] at h5
    obtain ⟨z, hz, _, hw⟩ := DataW.trod_int Tryd.underlying5 h5
    refine ⟨z, ?_, bounds_u8 hw⟩
    have := congrArg (fun l => l[0]?) hz
    simp only [List.getElem?_take, List.getElem?_drop, List.getElem?_cons_zero] at this
    simpa using this
  obtain ⟨f, hf⟩ := choose_lt hsum
  refine ⟨(List.range 32).map f, ⟨by simp, fun j => ?_⟩, fun j hj => ?_⟩
  · by_cases hj : j < 32
    · have : ((List.range 32).map f).getD j 0 = f j := by
        rw [List.getD_eq_getElem?_getD, List.getElem?_map, List.getElem?_range hj]; rfl
      rw [this]; exact (hf j hj).2
    · rw [List.getD_eq_getElem?_getD, List.getElem?_eq_none (by simp; omega)]; exact ⟨by simp, by simp⟩
  · have : ((List.range 32).map f).getD j 0 = f j := by
      rw [List.getD_eq_getElem?_getD, List.getElem?_map, List.getElem?_range hj]; rfl
    rw [arrV, this]; exact (hf j hj).1
theorem inner_sums {H : Type} {enc : TypeId × Value → H} {w : World} {base : Nat} {held : Bool} {n : Nat} {u : Value} {D : DataW H × List MemPlace}
    (hd : DataW.trod enc Tryd.prog w base (fun _ => true) held n 39 [u] = some D) : ∃ L, sumsAt w u L := by
  rcases inner_any 32 Tryd.underlying39 (by kernel_rfl) (by decide) hd with ⟨a, rfl⟩ | ⟨pb, po, len, cap, rfl, h1, h2, h3, h4⟩
  · exact ⟨[], fun x hx => by simp at hx, a, 0, rfl, Nat.le_refl _, by decide, fun h => absurd h (by decide)⟩
  · have each : ∀ i, i < len → ∃ q : List Int, isSum q ∧ ∀ j, j < 32 → w.cell? ⟨pb, po + i * 32 + j, none⟩ = some (arrV q j) := fun i hi => by
      obtain ⟨cs', n, D, g1, g2, g3⟩ := h4 i hi
      obtain ⟨q, e1, e2⟩ := sum_cells (by omega) g3
      exact ⟨q, e1, fun j hj => by rw [g2 j hj]; exact e2 j hj⟩
    obtain ⟨f, hf⟩ := choose_lt each
    have hl : ((List.range len).map f).length = len := by simp
    refine ⟨(List.range len).map f, fun x hx => ?_, _, cap, by rw [hl], by rw [hl]; exact h1, h2, fun h0 => ⟨pb, po, rfl, h3, fun i hi j hj => ?_⟩⟩
    · obtain ⟨i, hi, rfl⟩ := List.mem_map.1 hx
      exact (hf i (List.mem_range.1 hi)).1
    · have e : ((List.range len).map f)[i] = f i := by simp
      rw [e]; exact (hf i (by omega)).2 j hj
theorem spot_cells {H : Type} {enc : TypeId × Value → H} {w : World} {base : Nat} {held : Bool} {n : Nat} {cs' : List Value} {D : DataW H × List MemPlace} (g1 : cs'.length = 4)
    (g3 : DataW.trod enc Tryd.prog w base (fun _ => true) held n 41 cs' = some D) : ∃ (y : Sp) (kc vc pc : Value), cs'[0]? = some (.int .i64 y.at_) ∧ cs'[1]? = some kc ∧ cs'[2]? = some vc ∧ cs'[3]? = some pc ∧ anyBytes w kc y.pr.1 ∧ anyBytes w vc y.pr.2 ∧ sumsAt w pc y.path ∧ inI64 y.at_ := by
  have ci : Tryd.prog.cellsOf 3 = 1 := by kernel_rfl
  have cp : Tryd.prog.cellsOf 38 = 2 := by kernel_rfl
  have cs : Tryd.prog.cellsOf 39 = 1 := by kernel_rfl
  obtain ⟨y0, y1, y2, m, _, t0, t1, t2⟩ := trod_struct3 Tryd.underlying41 g3
  simp only [ci, cp, cs] at t0 t1 t2
  rw [drop_one (by omega)] at t0 t2
  obtain ⟨z0, e0, _, b0⟩ := DataW.trod_int (k := .i64) Tryd.underlying3 t0
  obtain ⟨kc, vc, k, v, e1, e2, k1, k2⟩ := pair_cells (by simp; omega) t1
  obtain ⟨L, hL⟩ := inner_sums t2
  rw [List.getElem?_take, List.getElem?_drop] at e1 e2
  have ez : cs'[0] = .int .i64 z0 := by simpa using e0
  exact ⟨⟨z0, (k, v), L⟩, kc, vc, _, by rw [List.getElem?_eq_getElem (by omega), ez], by simpa using e1, by simpa using e2, List.getElem?_eq_getElem (by omega), k1, k2, hL, bounds_i64 b0⟩
theorem inner_spots {H : Type} {enc : TypeId × Value → H} {w : World} {base : Nat} {held : Bool} {n : Nat} {u : Value} {D : DataW H × List MemPlace}
    (hd : DataW.trod enc Tryd.prog w base (fun _ => true) held n 27 [u] = some D) : ∃ m y, spotsAt w u m y := by
  rcases inner_any 4 Tryd.underlying27 (by kernel_rfl) (by decide) hd with ⟨a, rfl⟩ | ⟨pb, po, len, cap, rfl, h1, h2, h3, h4⟩
  · exact ⟨0, fun _ => ⟨0, ([], []), []⟩, a, 0, rfl, Nat.le_refl _, by decide, fun i hi => by omega⟩
  · have each : ∀ i, i < len → ∃ y : Sp, ∃ kc vc pc, w.cell? ⟨pb, po + i * 4, none⟩ = some (.int .i64 y.at_) ∧ w.cell? ⟨pb, po + i * 4 + 1, none⟩ = some kc ∧ w.cell? ⟨pb, po + i * 4 + 2, none⟩ = some vc ∧ w.cell? ⟨pb, po + i * 4 + 3, none⟩ = some pc ∧
        anyBytes w kc y.pr.1 ∧ anyBytes w vc y.pr.2 ∧ sumsAt w pc y.path ∧ inI64 y.at_ := fun i hi => by
      obtain ⟨cs', n, D, g1, g2, g3⟩ := h4 i hi
      obtain ⟨y, kc, vc, pc, e0, e1, e2, e3, k⟩ := spot_cells (by omega) g3
      exact ⟨y, kc, vc, pc, by have := g2 0 (by omega); rw [Nat.add_zero] at this; rw [this]; exact e0, by rw [g2 1 (by omega)]; exact e1, by rw [g2 2 (by omega)]; exact e2, by rw [g2 3 (by omega)]; exact e3, k⟩
    haveI : Inhabited Sp := ⟨⟨0, ([], []), []⟩⟩
    obtain ⟨f, hf⟩ := choose_lt each
    exact ⟨len, f, some ⟨pb, po, none⟩, cap, rfl, h1, h2, fun i hi => by
      obtain ⟨kc, vc, pc, e0, e1, e2, e3, k⟩ := hf i hi
      exact ⟨pb, po, kc, vc, pc, rfl, h3, e0, e1, e2, e3, k⟩⟩
theorem okWide_agg {P : Program} {w : World} {r : Reach} {b0 : Nat} {t : TypeId} {fs : Array Field} {v : Value} (hu : P.underlying t = some (.struct fs)) (hval : Value.okWide P w r b0 t v) : ∃ cs, v = .agg cs := by
  unfold Value.okWide at hval
  rw [hu] at hval
  obtain ⟨cs, rfl, _⟩ := hval
  exact ⟨cs, rfl⟩
theorem open_seen {H : Type} {enc : TypeId × Value → H} {w : World} {base b0 : Nat} {held : Bool} {r : Reach} {v : Value} {d : DataW H} {ps : List MemPlace}
    (hval : Value.okWide Tryd.prog w r b0 29 v) (hd : DataW.Trod enc Tryd.prog w base (fun _ => true) held 29 v d ps) : ∃ cnt sv m y, v = .agg #[.int .i64 cnt, sv] ∧ inI64 cnt ∧ spotsAt w sv m y := by
  have ci : Tryd.prog.cellsOf 3 = 1 := by kernel_rfl
  have cp : Tryd.prog.cellsOf 27 = 1 := by kernel_rfl
  have c2 : Tryd.prog.cellsOf 29 = 2 := by kernel_rfl
  obtain ⟨cs, rfl⟩ := okWide_agg Tryd.underlying29 hval
  obtain ⟨fuel, hf⟩ := hd
  obtain ⟨y0, y1, n, hl, t0, t1⟩ := trod_struct2 Tryd.underlying29 hf
  obtain ⟨cs⟩ := cs
  rw [c2] at hl
  match cs, hl with
  | [u0, u1], _ =>
    simp only [ci, cp] at t0 t1
    obtain ⟨z0, e0, _, b0⟩ := DataW.trod_int (k := .i64) Tryd.underlying3 t0
    obtain ⟨m, y, hm⟩ := inner_spots t1
    have ez : u0 = .int .i64 z0 := by simpa [Value.cells] using e0
    exact ⟨z0, u1, m, y, by rw [ez], bounds_i64 b0, hm⟩
end Go.Proofs.YtgchnobifidjcaaDoor

/- The table of the rounds' constants, as the row lists it; a world that holds it, for the witness. -/
namespace Go.Proofs.YtgchnobifidjcaaDoor
set_option maxRecDepth 100000
open Go.RowKit Go.Deep Go.ChangeShapes Go.WideShapes Go.ChangeAt

/-- the table's name. -/
def tabName : String := Rows.keyedShowsRow.named.getD 0 ""
theorem gTab : Tryd.prog.globalNamed tabName = some 1 := by kernel_rfl
theorem gTabType : (Tryd.prog.globals[1]?).map (·.type) = some 172 := by kernel_rfl
theorem cellsTab : Tryd.prog.cellsOf 172 = 64 := by kernel_rfl
theorem cellsWord : Tryd.prog.cellsOf 152 = 1 := by kernel_rfl
/-- what the row's list gives. -/
theorem laid_tab {W : World} (h : laidMetH Tryd.prog Rows.keyedShowsRow.laid W) : tabIs W := by
  have ht : Lib.TabIs Tryd.prog W tabName .u32 kList := Lib.tabIs_of_head (rest := []) gTab gTabType Tryd.underlying172 Tryd.underlying152 cellsWord cellsTab h
  refine ⟨?_, fun i hi => ht.cell gTab i (by simpa [kList] using hi)⟩
  have h0 := ht.cell gTab 0 (by decide)
  exact block_lt_of_cell h0
/-- the table's block, laid. -/
def kObj : Obj → Obj
  | .cells _ t frozen => .cells #[.int .u32 1116352408, .int .u32 1899447441, .int .u32 3049323471, .int .u32 3921009573, .int .u32 961987163, .int .u32 1508970993, .int .u32 2453635748, .int .u32 2870763221, .int .u32 3624381080, .int .u32 310598401, .int .u32 607225278, .int .u32 1426881987, .int .u32 1925078388, .int .u32 2162078206, .int .u32 2614888103, .int .u32 3248222580, .int .u32 3835390401, .int .u32 4022224774, .int .u32 264347078, .int .u32 604807628, .int .u32 770255983, .int .u32 1249150122, .int .u32 1555081692, .int .u32 1996064986, .int .u32 2554220882, .int .u32 2821834349, .int .u32 2952996808, .int .u32 3210313671, .int .u32 3336571891, .int .u32 3584528711, .int .u32 113926993, .int .u32 338241895, .int .u32 666307205, .int .u32 773529912, .int .u32 1294757372, .int .u32 1396182291, .int .u32 1695183700, .int .u32 1986661051, .int .u32 2177026350, .int .u32 2456956037, .int .u32 2730485921, .int .u32 2820302411, .int .u32 3259730800, .int .u32 3345764771, .int .u32 3516065817, .int .u32 3600352804, .int .u32 4094571909, .int .u32 275423344, .int .u32 430227734, .int .u32 506948616, .int .u32 659060556, .int .u32 883997877, .int .u32 958139571, .int .u32 1322822218, .int .u32 1537002063, .int .u32 1747873779, .int .u32 1955562222, .int .u32 2024104815, .int .u32 2227730452, .int .u32 2361852424, .int .u32 2428436474, .int .u32 2756734187, .int .u32 3204031479, .int .u32 3329325298] t frozen
  | o => o
end Go.Proofs.YtgchnobifidjcaaDoor
