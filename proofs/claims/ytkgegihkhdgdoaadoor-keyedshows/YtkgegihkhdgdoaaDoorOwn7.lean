import Derived.Deep.Light
import Derived.Test.YtkgegihkhdgdoaaDoorOwn4
import Derived.Test.YtkgegihkhdgdoaaDoorOwn5
import Derived.Test.YtkgegihkhdgdoaaDoorOwn6
set_option linter.unusedVariables false
set_option linter.unusedSimpArgs false
/- keyed.Look. -/
namespace Go.Proofs.YtkgegihkhdgdoaaDoor
set_option linter.unusedSimpArgs false
set_option linter.unusedVariables false
open Go.RowKit Go.Deep

def seG (cnt : Int) (v : Value) : Nat → Value
  | 0 => .int .i64 cnt
  | _ => v
theorem seG_row (cnt : Int) (v : Value) : rowV 2 (seG cnt v) = #[.int .i64 cnt, v] := rfl
theorem hiSe : (Tryd.prog.info? 29).map (·.size) = some 2 := by kernel_rfl
def lookOk (cnt : Int) (m : Nat) (y : Nat → Sp) (key root : List Int) : Prop := 0 ≤ cnt ∧ saysB cnt m y key = true ∧ ∃ s, okLd cnt m y s ∧ krootS cnt s = root
def lookPost (F : Nat → Prop) (kv : Value) (N : List Nt) (c cnt : Int) (m : Nat) (y : Nat → Sp) (key root : List Int) (w : World) (e : Ending) (w' : World) : Prop :=
  ((¬ lookOk cnt m y key root ∧ e = .returned (.tuple #[.slice none 0 0, .bool false, .int .i64 10])) ∨
    (lookOk cnt m y key root ∧ (∃ s, okLd cnt m y s ∧ krootS cnt s = root ∧ ∃ Fo : Nat → Prop, bkAt kv w' Fo (addN (if m = 0 then rootN N [] else spN N cnt y m) (krootNt cnt s)) ((if m = 0 then c + 1 else spC c cnt y m) + 1) ∧ ∀ j, Fo j → F j ∨ w.heap.size ≤ j) ∧
      ((∃ k, k < m ∧ (y k).pr.1 = key ∧ (∀ j, j < k → ¬ (y j).pr.1 = key) ∧ ∃ v', newBytes w' w.heap.size v' (y k).pr.2 ∧ e = .returned (.tuple #[v', .bool true, .int .i64 0])) ∨ ((∀ j, j < m → ¬ (y j).pr.1 = key) ∧ e = .returned (.tuple #[.slice none 0 0, .bool false, .int .i64 0]))))) ∧ Fr F w w'
theorem okLd_one {cnt : Int} {m : Nat} {y : Nat → Sp} {s t : List Int} (h : okLd cnt m y s) (k : okLd cnt m y t) : s = t := by
  rcases h with ⟨h0, rfl⟩ | ⟨h0, h⟩
  · rcases k with ⟨_, rfl⟩ | ⟨k0, _⟩
    · rfl
    · omega
  · rcases k with ⟨k0, _⟩ | ⟨_, k⟩
    · omega
    · exact Option.some.inj ((h 0 h0).symm.trans (k 0 h0))
theorem badLd_not {cnt : Int} {m : Nat} {y : Nat → Sp} {s : List Int} (h : badLd cnt m y) (k : okLd cnt m y s) : False := by
  rcases k with ⟨k0, _⟩ | ⟨_, k⟩
  · have := h.1; omega
  · exact h.2 ⟨s, k⟩
theorem okLd_sum {cnt : Int} {m : Nat} {y : Nat → Sp} {s : List Int} (k : okLd cnt m y s) : isSum s := by
  rcases k with ⟨_, rfl⟩ | ⟨h0, k⟩
  · exact rootS_sum (fun x h => by cases h)
  · exact toA_sum (k 0 h0)
set_option maxHeartbeats 8000000 in
set_option maxRecDepth 100000 in
theorem look_k (F : Nat → Prop) (kv : Value) (N : List Nt) (c : Int) (root : List Int) (hroot : isSum root) (cnt : Int) (hcn : inI64 cnt) (m : Nat) (sv tv : Value) (y : Nat → Sp) (key : List Int) (w0 w : World) (hw0 : Below w0.heap.size w0 w) (hFB : ∀ j, F j → w0.heap.size ≤ j) (hp : spotsAt w0 sv m y) (hkey : anyBytes w0 tv key) (ht : tabIs w0) (hk : bkAt kv w F N c) (hm : m ≤ 10) (hy : ∀ i, (y i).path.length ≤ 1000) (hx : ∀ i, i < m → (y i).pr.1.length + (y i).pr.2.length ≤ 1000000) (hN : N.length < 49000) (hc : 0 ≤ c ∧ c < 49000000) :
    Calls Tryd.prog 22 #[kv, .agg (rowV 32 (arrV root)), tv, .agg #[.int .i64 cnt, sv]] w fun e w' => lookPost F kv N c cnt m y key root w e w' := by
  have hz32 := zero_s32
  have hzsp := zero_sp
  have hlt := hk.lt
  have hs0 := hw0.size
  obtain ⟨a, cap, rfl, hmc, hcm, _⟩ := (id hp : spotsAt w0 sv m y)
  obtain ⟨w1, hw1⟩ : ∃ w1, w1 = (w.alloc (.cells (rowV 32 (arrV root)) 32)).alloc (.cells #[.int .i64 cnt, .slice a m cap] 29) := ⟨_, rfl⟩
  have b1 : Below w.heap.size w w1 := by rw [hw1]; exact ((Below.refl _ _).alloc (Nat.le_refl _) _).alloc (by simp) _
  have z1 : w1.heap.size = w.heap.size + 2 := by rw [hw1]; simp
  have rR : w1.rowIs w.heap.size 32 32 (arrV root) := by
    rw [hw1]
    exact ((Below.refl _ _).alloc (Nat.le_refl _) _).row (rowIs_box w 32 32 (arrV root)) (by simp)
  have rS : w1.rowIs (w.heap.size + 1) 29 2 (seG cnt (.slice a m cap)) := by
    have r := rowIs_box (w.alloc (.cells (rowV 32 (arrV root)) 32)) 29 2 (seG cnt (.slice a m cap))
    rw [World.size_alloc, seG_row, ← hw1] at r; exact r
  have c0 : w1.cell? ⟨w.heap.size + 1, 0, none⟩ = some (.int .i64 cnt) := rS.cell (i := 0) (by omega)
  have lS : ∀ wz : World, wz.rowIs (w.heap.size + 1) 29 2 (seG cnt (.slice a m cap)) → ∀ j, j < 2 → wz.cell? ⟨w.heap.size + 1, 0 + j, none⟩ = some (seG cnt (.slice a m cap) j) := fun wz r j hj => by rw [Nat.zero_add]; exact r.cell hj
  have LS : Hid (∀ wz : World, wz.rowIs (w.heap.size + 1) 29 2 (seG cnt (.slice a m cap)) → ∀ j, j < 2 → wz.cell? ⟨w.heap.size + 1, 0 + j, none⟩ = some (seG cnt (.slice a m cap) j)) := (show _ from lS)
  -- what holds wherever we have come to
  have HW : Hid (∀ wr, Fr F w1 wr → Below w0.heap.size w0 wr ∧ tabIs wr ∧ wr.rowIs w.heap.size 32 32 (arrV root) ∧ wr.rowIs (w.heap.size + 1) 29 2 (seG cnt (.slice a m cap)) ∧ Fr F w wr) := (show _ from fun wr hr => by
    have nF : ∀ j, w.heap.size ≤ j → ¬ F j := fun j hj hf => by have := hlt j hf; omega
    have hb : Below w0.heap.size w0 wr := (hw0.trans (b1.mono hs0)).trans (hr.below (fun j hj => hFB j hj) (by omega))
    exact ⟨hb, ht.below hb ht.1, World.rowIs.of_block rR (hr.block _ (by omega) (nF _ (by omega))), World.rowIs.of_block rS (hr.block _ (by omega) (nF _ (by omega))), (Fr.of_below F b1).trans hr fun i _ h => h⟩)
  have HP : Hid (∀ wz, Below w0.heap.size w0 wz → spotsAt wz (.slice a m cap) m y ∧ anyBytes wz tv key) := (show _ from fun wz hz => ⟨hp.below hz (Nat.le_refl _), hkey.below hz (Nat.le_refl _)⟩)
  have HSZ : Hid (w1.heap.size = w.heap.size + 2 ∧ w0.heap.size ≤ w.heap.size ∧ (∀ j, F j → j < w.heap.size) ∧ (∀ j, F j → w0.heap.size ≤ j) ∧ 1 < w0.heap.size) := (show _ from ⟨z1, hs0, hlt, hFB, ht.1⟩)
  have HY : Hid ((∀ i, (y i).path.length ≤ 1000) ∧ (∀ i, i < m → (y i).pr.1.length + (y i).pr.2.length ≤ 1000000) ∧ N.length < 49000 ∧ 0 ≤ c ∧ c < 49000000 ∧ inI64 cnt ∧ isSum root ∧ m ≤ 10) := (show _ from ⟨hy, hx, hN, hc.1, hc.2, hcn, hroot, hm⟩)
  have NO : Hid (∀ V, Fr F w1 V → ¬ lookOk cnt m y key root → lookPost F kv N c cnt m y key root w (.returned (.tuple #[.slice none 0 0, .bool false, .int .i64 10])) V) := (show _ from fun V hV h => ⟨Or.inl ⟨h, rfl⟩, (HW.out V hV).2.2.2.2⟩)
  have X1 := hp.below (hw0.trans (b1.mono hs0)) (Nat.le_refl _)
  have K1 := hkey.below (hw0.trans (b1.mono hs0)) (Nat.le_refl _)
  have RLD : Hid (∀ w2, Below w1.heap.size w1 w2 → Calls Tryd.prog 48 #[kv, .agg (rowV 2 (seG cnt (.slice a m cap)))] w2 fun e w' => ldPost F kv N c cnt m y w2 e w') := (show _ from fun w2 h2 => by
    have hb := b1.trans (h2.mono (by omega))
    exact klead_any F kv N c cnt hcn m _ y w0 w2 (hw0.trans (hb.mono hs0)) hFB hp ht (hk.below hb (Nat.le_refl _)) hm hy hx (by omega) ⟨by omega, by omega⟩)
  have hl1 := lS w1 rS
  have hm' : (m : Int) ≤ 10 := by omega
  have hm0 : (0 : Int) ≤ (m : Int) := by omega
  obtain ⟨ta, tcap, rfl, _⟩ := hkey.slice
  unfold inI64 at hcn
  have hcn2 := hcn.2
  clear hp hkey hk hlt hs0 hFB ht hw0 b1 z1 rR hy hx hN hc lS hcn hroot hmc hcm rS
  go_enter Tryd.func22, Tryd.ntmps22
  go_upto_region 1 with fail
  rw [← hw1]
  clear hw1
  by_cases h0 : cnt < 0
  · clear X1 K1 RLD hl1
    go_wp2_with fail
    exact bodyPost_ret (results_tmp3 rfl _ _ _) rfl (by exact NO.out w1 (Fr.refl _ _) (fun h => by have := h.1; omega))
  · have XS := says_any cnt ⟨by omega, hcn2⟩ m (.slice a m cap) _ y key w1 X1 K1
    clear X1 K1
    go_wp2_with (first | (refine wpList_load_w 29 (.tmp 7) rfl rfl (w.heap.size + 1) 0 2 (seG cnt (.slice a m cap)) rfl _ Tryd.underlying29 rfl hiSe hl1 ?_))
    refine XS.mono ?_
    rintro e w2 ⟨rfl, hb2⟩
    clear XS hl1 c0
    by_cases hsy : saysB cnt m y key = true
    · rw [hsy]
      have HS : Hid (0 ≤ cnt ∧ saysB cnt m y key = true) := (show _ ∧ _ from ⟨by omega, hsy⟩)
      have f12 : Fr F w1 w2 := Fr.of_below F hb2
      have hl2 := LS.out w2 (HW.out w2 f12).2.2.2.1
      have XL := RLD.out w2 hb2
      have H12 : Hid (Fr F w1 w2) := (show Fr F w1 w2 from f12)
      clear RLD hsy f12 hb2
      go_wp2_with (first | (refine wpList_load_w 29 (.tmp 7) rfl rfl (w.heap.size + 1) 0 2 (seG cnt (.slice a m cap)) rfl _ Tryd.underlying29 rfl hiSe hl2 ?_))
      refine XL.mono ?_
      rintro e w3 ⟨hres, f23⟩
      clear XL hl2
      obtain ⟨w4, hw4⟩ : ∃ w4, w4 = w3.alloc (.cells (rowV 32 (fun _ => .int .u8 0)) 32) := ⟨_, rfl⟩
      have r4 : w4.rowIs w3.heap.size 32 32 (fun _ => .int .u8 0) := by rw [hw4]; exact rowIs_box _ _ _ _
      have b4 : Below w3.heap.size w3 w4 := by rw [hw4]; exact (Below.refl _ _).alloc (Nat.le_refl _) _
      have f14 : Fr F w1 w4 := (H12.out.trans f23 fun i _ h => h).trans (Fr.of_below F b4) fun i _ h => h
      have z4 : w4.heap.size = w3.heap.size + 1 := by rw [hw4]; simp
      have s23 := f23.size
      have s12 := H12.out.size
      have nW : ¬ F w3.heap.size := fun h => by have := HSZ.out.2.2.1 _ h; have := HSZ.out.1; omega
      rcases hres with ⟨s, hok, rfl, Fi, hbk, hFi⟩ | ⟨hbad, rfl⟩
      · have hs := okLd_sum hok
        obtain ⟨hyl, hxl, hNl, hc0, hc1, hci, hri, hm10⟩ := HY.out
        obtain ⟨z1, hs0, hFl, hFB, h00⟩ := HSZ.out
        obtain ⟨hcn0, hsy⟩ := HS.out
        have hFil := hbk.lt
        have f24 : Fr F w2 w4 := f23.trans (Fr.of_below F b4) fun i _ h => h
        have B34 : Hid (∀ V, But w4.heap.size w3.heap.size w4 V → Fr F w1 V ∧ bkAt kv V Fi (if m = 0 then rootN N [] else spN N cnt y m) (if m = 0 then c + 1 else spC c cnt y m)) := (show _ from fun V hV => ⟨⟨hV.os.trans f14.os, hV.tape.trans f14.tape, hV.output.trans f14.output, by have := hV.size; have := f14.size; omega, fun j hj hn => (hV.block j (by omega) (by omega)).trans (f14.block j hj hn)⟩, hbk.far (fun j hj hl => (hV.block j (by omega) (by omega)).trans (b4.block j (by omega))) (by have := hV.size; omega)⟩)
        obtain ⟨N1, hN1⟩ : ∃ N1, N1 = (if m = 0 then rootN N [] else spN N cnt y m) := ⟨_, rfl⟩
        obtain ⟨c1, hc1e⟩ : ∃ c1, c1 = (if m = 0 then c + 1 else spC c cnt y m) := ⟨_, rfl⟩
        have hNk : N1.length ≤ 161000 := by
          rw [hN1]
          split
          · have h := (rootNF_length 0 N [] (by simp)).1
            have e : rootN N [] = rootNF 0 N [] := rfl
            rw [e]; simp at h; omega
          · have := spN_len N cnt y hyl m; omega
        have hck : 0 ≤ c1 ∧ c1 ≤ 60000000 := by
          rw [hc1e]
          split
          · omega
          · have := spC_le c cnt y hyl m; omega
        rw [← hN1, ← hc1e] at B34
        have nFi : ∀ j, j < w2.heap.size → w.heap.size ≤ j → ¬ Fi j := fun j h1 h2 h => by
          rcases hFi j h with h | h
          · have := hFl j h; omega
          · omega
        have FACT : Hid (∀ V, But w4.heap.size w3.heap.size w4 V → V.rowIs w3.heap.size 32 32 (arrV s) → ∀ wz, Fr Fi V wz → Fr F w1 wz ∧ wz.rowIs w3.heap.size 32 32 (arrV s) ∧ wz.rowIs w.heap.size 32 32 (arrV root) ∧ wz.cell? ⟨w.heap.size + 1, 0, none⟩ = some (.int .i64 cnt) ∧ wz.cell? ⟨w.heap.size + 1, 1, none⟩ = some (.slice a m cap)) := (show _ from fun V hV hr wz hz => by
          have f1 := (B34.out V hV).1
          have fz : Fr F w1 wz := f1.step hz hFi s12
          have hv := hV.size
          obtain ⟨_, _, q1, q2, _⟩ := HW.out wz fz
          exact ⟨fz, World.rowIs.of_block hr (hz.block _ (by omega) (fun h => by have := hFil _ h; omega)), q1, q2.cell (i := 0) (by omega), q2.cell (i := 1) (by omega)⟩)
        have RO : Hid (∀ W, Fr F w1 W → bkAt kv W Fi N1 c1 → Calls Tryd.prog 39 #[kv, .int .i64 cnt, .agg (rowV 32 (arrV s))] W fun e w' => e = .returned (.agg (rowV 32 (arrV (krootS cnt s)))) ∧ bkAt kv w' (Gr Fi W w') (addN N1 (krootNt cnt s)) (c1 + 1) ∧ Fr Fi W w') := (show _ from fun W hW hb =>
          rootOf_k Fi kv N1 c1 cnt s W hb hcn0 hcn2 hs (HW.out W hW).2.1 (fun h => by rcases hFi _ h with h | h; have := hFB _ h; omega; omega) (by omega) ⟨hck.1, by omega⟩)
        have heqS : ∀ wz : World, (Op.equalIn 10000 32 (.agg (rowV 32 (arrV (krootS cnt s)))) (.agg (rowV 32 (arrV root)))).run Tryd.prog wz = .ok (decide (krootS cnt s = root)) wz := fun wz => run_eq_sums wz 9998 (krootS_sum cnt s) hri
        have FIN : Hid (∀ W w7, Fr F w1 W → Fr Fi W w7 → bkAt kv w7 (Gr Fi W w7) (addN N1 (krootNt cnt s)) (c1 + 1) → ∀ V, Below w7.heap.size w7 V → krootS cnt s = root → (∃ s, okLd cnt m y s ∧ krootS cnt s = root ∧ ∃ Fo : Nat → Prop, bkAt kv V Fo (addN (if m = 0 then rootN N [] else spN N cnt y m) (krootNt cnt s)) ((if m = 0 then c + 1 else spC c cnt y m) + 1) ∧ ∀ j, Fo j → F j ∨ w.heap.size ≤ j)) := (show _ from fun W w7 hW h7 hb7 V hV he => by
          refine ⟨s, hok, he, Gr Fi W w7, ?_, fun j hj => ?_⟩
          · rw [← hN1, ← hc1e]; exact hb7.below hV (Nat.le_refl _)
          · have := hW.size
            rcases hj with h | h
            · rcases hFi j h with h | h
              · exact Or.inl h
              · exact Or.inr (by omega)
            · exact Or.inr (by omega))
        have NEQ : Hid (∀ V, Fr F w1 V → ¬ krootS cnt s = root → lookPost F kv N c cnt m y key root w (.returned (.tuple #[.slice none 0 0, .bool false, .int .i64 10])) V) := (show _ from fun V hV hne => NO.out V hV (fun h => by obtain ⟨_, _, t, ht, hr⟩ := h; rw [← okLd_one hok ht] at hr; exact hne hr))
        have HOK : Hid (okLd cnt m y s ∧ 0 ≤ cnt ∧ saysB cnt m y key = true) := (show _ ∧ _ ∧ _ from ⟨hok, hcn0, hsy⟩)
        have STEP : Hid (∀ V, Fr F w1 V → ∀ w7, Fr Fi V w7 → Fr F w1 w7) := (show _ from fun V hV w7 h7 => hV.step h7 hFi s12)
        generalize krootS cnt s = ks at heqS RO FIN NEQ
        have hm' : (m : Int) ≤ 10 := by omega
        clear hyl hNl hc0 hc1 hci hri hm10 z1 hs0 hFl hFB h00 hcn0 hsy hFil f24 hs hbk hFi nFi hN1 hc1e hNk hck f14 f23 z4 s23 s12 nW b4 hok NO HS H12 LS HSZ HY
        skip
        go_wp2_with (first | (rw [← hw4]; clear hw4; refine wpList_store_row rfl 32 _ _ rfl rfl w3.heap.size 0 32 (arrV s) rfl rfl hi32' (fun _ _ => rfl) _ _ _ r4 (by omega) ?_; intro w6 r7 hz6 hb6))
        have r6 : w6.rowIs w3.heap.size 32 32 (arrV s) := r7.congr fun i hi => by rw [if_pos (by omega), Nat.sub_zero]
        obtain ⟨H6, hbk6⟩ := B34.out w6 hb6
        have FC : Hid (∀ wz, Fr Fi w6 wz → Fr F w1 wz ∧ wz.rowIs w3.heap.size 32 32 (arrV s) ∧ wz.rowIs w.heap.size 32 32 (arrV root) ∧ wz.cell? ⟨w.heap.size + 1, 0, none⟩ = some (.int .i64 cnt) ∧ wz.cell? ⟨w.heap.size + 1, 1, none⟩ = some (.slice a m cap)) := (show _ from fun wz hz => FACT.out w6 hb6 r6 wz hz)
        have HB6 : Hid (bkAt kv w6.drew Fi N1 c1 ∧ Fr F w1 w6.drew) := (show _ ∧ _ from ⟨hbk6.drew, H6.drew⟩)
        clear r7 hz6 hb6 r6 H6 hbk6 FACT B34 r4
        by_cases he : ks = root
        · rw [decide_eq_true he] at heqS
          have HE : Hid (ks = root) := he
          clear he NEQ
          refine wp_region_noPanic ?_
          refine wp_region_held_drew (S := fun w' => Fr Fi w6 w') (by kernel_rfl) (Fr.refl Fi w6).drew (fun hHeld => ?_)
          generalize w6.drew = W at hHeld HB6 ⊢
          refine take_op (i := 0) (v := ?vg0) rfl (by kernel_rfl) (by kernel_rfl) (by kernel_rfl) (fun _ _ _ h => h) rfl hHeld ?yg0 ?rg0
          case yg0 => (intro wz hz; go_simp; first | done | with_reducible rfl)
          try simp only [Act.put, List.setIfInBounds_toArray, List.set_cons_zero, List.set_cons_succ]
          refine take_op (i := 1) (v := ?vg1) rfl (by kernel_rfl) (by kernel_rfl) (by kernel_rfl) (fun _ _ _ h => h) rfl hHeld ?yg1 ?rg1
          case yg1 => (intro wz hz; go_simp; first | done | with_reducible rfl)
          try simp only [Act.put, List.setIfInBounds_toArray, List.set_cons_zero, List.set_cons_succ]
          refine take_op (i := 2) (v := ?vg2) rfl (by kernel_rfl) (by kernel_rfl) (by kernel_rfl) (fun _ _ _ h => h) rfl hHeld ?yg2 ?rg2
          case yg2 => (intro wz hz; go_simp; first | done | with_reducible rfl)
          try simp only [Act.put, List.setIfInBounds_toArray, List.set_cons_zero, List.set_cons_succ]
          refine take_op (i := 3) (v := ?vg3) rfl (by kernel_rfl) (by kernel_rfl) (by kernel_rfl) (fun _ _ _ h => h) rfl hHeld ?yg3 ?rg3
          case yg3 => (intro wz hz; go_simp; first | done | with_reducible rfl)
          try simp only [Act.put, List.setIfInBounds_toArray, List.set_cons_zero, List.set_cons_succ]
          refine take_op (i := 4) (v := ?vg4) rfl (by kernel_rfl) (by kernel_rfl) (by kernel_rfl) (fun _ _ _ h => h) rfl hHeld ?yg4 ?rg4
          case yg4 => (intro wz hz; go_simp; first | done | with_reducible rfl)
          try simp only [Act.put, List.setIfInBounds_toArray, List.set_cons_zero, List.set_cons_succ]
          refine take_op (i := 5) (v := ?vg5) rfl (by kernel_rfl) (by kernel_rfl) (by kernel_rfl) (fun _ _ _ h => h) rfl hHeld ?yg5 ?rg5
          case yg5 => (intro wz hz; have hcz := (FC.out wz hz).2.2.2.1; go_simp; first | done | with_reducible rfl)
          try simp only [Act.put, List.setIfInBounds_toArray, List.set_cons_zero, List.set_cons_succ]
          refine take_load (i := 6) rfl (by kernel_rfl) (by kernel_rfl) (by kernel_rfl) 32 _ rfl w3.heap.size 0 32 (arrV s) rfl _ Tryd.underlying32 rfl (by kernel_rfl) (fun _ _ _ h => h) rfl hHeld (fun wz hz j hj => by rw [Nat.zero_add]; exact (FC.out wz hz).2.1.cell hj) ?_
          try simp only [Act.put, List.setIfInBounds_toArray, List.set_cons_zero, List.set_cons_succ]
          refine take_load (i := 8) rfl (by kernel_rfl) (by kernel_rfl) (by kernel_rfl) 32 _ rfl w.heap.size 0 32 (arrV root) rfl _ Tryd.underlying32 rfl (by kernel_rfl) (fun _ _ _ h => h) rfl hHeld (fun wz hz j hj => by rw [Nat.zero_add]; exact (FC.out wz hz).2.2.1.cell hj) ?_
          try simp only [Act.put, List.setIfInBounds_toArray, List.set_cons_zero, List.set_cons_succ]
          refine take_one (i := 7) rfl (by kernel_rfl) rfl (fun K hK => ?_)
          go_simp
          refine Calls.mono (RO.out W HB6.out.2 HB6.out.1) ?_
          rintro e w7 ⟨rfl, hb7, f7⟩
          have HF7 : Hid (Fr Fi W w7) := (show Fr Fi W w7 from f7)
          have HB7 : Hid (bkAt kv w7 (Gr Fi W w7) (addN N1 (krootNt cnt s)) (c1 + 1)) := (show bkAt kv w7 (Gr Fi W w7) (addN N1 (krootNt cnt s)) (c1 + 1) from hb7)
          refine hK.out _ _ (hHeld.trans f7 fun i _ h => h) (fun hHeld => ?_)
          clear hK K f7 hb7
          try simp only [Act.put, List.setIfInBounds_toArray, List.set_cons_zero, List.set_cons_succ]
          refine take_op (i := 9) (v := ?vg9) rfl (by kernel_rfl) (by kernel_rfl) (by kernel_rfl) (fun _ _ _ h => h) rfl hHeld ?yg9 ?rg9
          case yg9 => (intro wz hz; go_simp; first | done | with_reducible rfl)
          try simp only [Act.put, List.setIfInBounds_toArray, List.set_cons_zero, List.set_cons_succ]
          refine take_op (i := 10) (v := ?vg10) rfl (by kernel_rfl) (by kernel_rfl) (by kernel_rfl) (fun _ _ _ h => h) rfl hHeld ?yg10 ?rg10
          case yg10 => (intro wz hz; go_simp; first | done | with_reducible rfl)
          try simp only [Act.put, List.setIfInBounds_toArray, List.set_cons_zero, List.set_cons_succ]
          refine wpAnyH_done (by kernel_rfl) ?_ _
          refine NoPanic.normal ?_
          have HH : Hid (Fr F w1 w7) := (show Fr F w1 w7 from STEP.out W HB6.out.2 w7 HF7.out)
          have c7 := (FC.out w7 hHeld).2.2.2.2
          clear hHeld
          have LOK : Hid (lookOk cnt m y key root) := (show lookOk cnt m y key root from (fun ⟨t, h1, h2, _⟩ => ⟨HOK.out.2.1, HOK.out.2.2, t, h1, h2⟩) (FIN.out W w7 HB6.out.2 HF7.out HB7.out w7 (Below.refl _ _) HE.out))
          have F7 : Hid (∀ V, Below w7.heap.size w7 V → (∃ s, okLd cnt m y s ∧ krootS cnt s = root ∧ ∃ Fo : Nat → Prop, bkAt kv V Fo (addN (if m = 0 then rootN N [] else spN N cnt y m) (krootNt cnt s)) ((if m = 0 then c + 1 else spC c cnt y m) + 1) ∧ ∀ j, Fo j → F j ∨ w.heap.size ≤ j) ∧ Fr F w V ∧ spotsAt V (.slice a m cap) m y ∧ anyBytes V (.slice ta key.length tcap) key) := (show _ from fun V hV => by
            have hV1 : Fr F w1 V := HH.out.trans (Fr.of_below F hV) fun i _ h => h
            obtain ⟨q1, _, _, _, q5⟩ := HW.out V hV1
            exact ⟨FIN.out W w7 HB6.out.2 HF7.out HB7.out V hV HE.out, q5, HP.out V q1⟩)
          have HX : Hid (∀ i, i < m → (y i).pr.1.length + (y i).pr.2.length ≤ 1000000) := hxl
          clear FIN HW HP HB6 HF7 HB7 HE FC STEP RO HOK hxl heqS
          go_wp2_with fail
          go_loopw [44] (fun i wr => ∃ k : Nat, k ≤ m ∧ i = .int .i64 (k : Int) ∧ (∀ j, j < k → ¬ (y j).pr.1 = key) ∧ Below w7.heap.size w7 wr) (fun i _ => m - (intOf i).toNat)
          case atStart => exact ⟨0, by omega, rfl, fun j hj => by omega, Below.refl _ _⟩
          case round =>
            obtain ⟨k, hkm, rfl, hne, hbr⟩ := hrel
            have p0 : (0 : Int) ≤ (k : Int) := by omega
            have HNE : Hid (∀ j, j < k → ¬ (y j).pr.1 = key) := (show ∀ j, j < k → ¬ (y j).pr.1 = key from hne)
            have HBR : Hid (Below w7.heap.size w7 wr) := (show Below w7.heap.size w7 wr from hbr)
            clear hne
            by_cases hlt : k < m
            · have p1 : (k : Int) < (m : Int) := by omega
              obtain ⟨hsp, hky⟩ := (F7.out wr hbr).2.2
              obtain ⟨a', cap', ea, _, _, h4⟩ := hsp
              injection ea with ea1 ea2 ea3
              subst ea1
              subst ea3
              obtain ⟨g, o, kc, vc, pc, rfl, hg, q0, q1, q2, q3, k1, k2, k3, _⟩ := h4 k hlt
              obtain ⟨ka, kcap, rfl, _⟩ := k1.slice
              obtain ⟨va, vcap, rfl, _⟩ := k2.slice
              obtain ⟨_, pa, pcap, rfl, _⟩ := k3
              obtain ⟨w8, hw8⟩ : ∃ w8, w8 = wr.alloc (.cells (rowV 4 spZ) 41) := ⟨_, rfl⟩
              have r8 : w8.rowIs wr.heap.size 41 4 spZ := by rw [hw8]; exact rowIs_box _ _ _ _
              have b8 : Below wr.heap.size wr w8 := by rw [hw8]; exact (Below.refl _ _).alloc (Nat.le_refl _) _
              have z8 : w8.heap.size = wr.heap.size + 1 := by rw [hw8]; simp
              have ld : ∀ i, i < 4 → wr.cell? ⟨g, o + k * 4 + i, none⟩ = some (spG (y k).at_ (.slice ka (y k).pr.1.length kcap) (.slice va (y k).pr.2.length vcap) (.slice pa (y k).path.length pcap) i) := fun i hi => by
                have : i = 0 ∨ i = 1 ∨ i = 2 ∨ i = 3 := by omega
                rcases this with rfl | rfl | rfl | rfl
                · simpa [spG] using q0
                · simpa [spG] using q1
                · simpa [spG] using q2
                · simpa [spG] using q3
              clear q0 q1 q2 q3 h4 c7
              go_wp2_with (first | (refine wpList_load_w 41 (.tmp 46) rfl rfl g (o + k * 4) 4 (spG (y k).at_ (.slice ka (y k).pr.1.length kcap) (.slice va (y k).pr.2.length vcap) (.slice pa (y k).path.length pcap)) rfl _ Tryd.underlying41 rfl hiSp ld ?_) | (rw [← hw8]; clear hw8; refine wpList_store_row rfl 41 _ _ rfl rfl wr.heap.size 0 4 (spG (y k).at_ (.slice ka (y k).pr.1.length kcap) (.slice va (y k).pr.2.length vcap) (.slice pa (y k).path.length pcap)) rfl rfl hiSp (spG_one _ _ _ _ _ _ _ _ _ _) _ _ _ r8 (by omega) ?_; intro w9 r9 hz9 hb9; have e1 : w9.cell? ⟨wr.heap.size, 1, none⟩ = some (.slice ka (y k).pr.1.length kcap) := r9.cell (i := 1) (by omega); have e2 : w9.cell? ⟨wr.heap.size, 2, none⟩ = some (.slice va (y k).pr.2.length vcap) := r9.cell (i := 2) (by omega)))
              have b89 : Below wr.heap.size wr w9 := b8.trans ((hb9.mono (by omega)).below (by omega))
              have XE := equal_any _ _ (y k).pr.1 key w9 (k1.below b89 (Nat.le_refl _)) (hky.below b89 (Nat.le_refl _))
              have HV9 : Hid (anyBytes w9 (.slice va (y k).pr.2.length vcap) (y k).pr.2) := (show anyBytes w9 (.slice va (y k).pr.2.length vcap) (y k).pr.2 from k2.below b89 (Nat.le_refl _))
              have H79 : Hid (Below w7.heap.size w7 w9) := (show Below w7.heap.size w7 w9 from HBR.out.trans (b89.mono HBR.out.size))
              clear k1 k2 hky r8 b8 z8 ld r9 hz9 hb9 b89 e1
              refine XE.mono ?_
              rintro e w10 ⟨rfl, hw⟩
              obtain rfl := hw.symm
              clear XE hw
              by_cases heq : (y k).pr.1 = key
              · rw [decide_eq_true heq]
                have XC := clone_x _ _ w9 HV9.out (by have := HX.out k hlt; omega)
                have HQ : Hid ((y k).pr.1 = key) := heq
                clear heq
                go_wp2_with fail
                refine XC.mono ?_
                rintro e w11 ⟨v', rfl, hn, hb⟩
                clear XC e2
                go_wp2_with fail
                exact bodyPost_ret (results_tmp3 rfl _ _ _) rfl (by
                  have h11 : Below w7.heap.size w7 w11 := H79.out.trans (hb.mono H79.out.size)
                  have hs9 := H79.out.size
                  have hf := (F7.out w9 H79.out).2.1.size
                  exact ⟨Or.inr ⟨LOK.out, (F7.out w11 h11).1, Or.inl ⟨k, hlt, HQ.out, HNE.out, v', hn.mono hf, rfl⟩⟩, (F7.out w11 h11).2.1⟩)
              · rw [decide_eq_false heq]
                have NX : Hid (∀ j, j < k + 1 → ¬ (y j).pr.1 = key) := (show ∀ j, j < k + 1 → ¬ (y j).pr.1 = key from fun j hj => by
                  by_cases e : j = k
                  · rw [e]; exact heq
                  · exact HNE.out j (by omega))
                clear heq HV9 e2
                go_wp2_with fail
                go_light
                exact ⟨⟨k + 1, by omega, by go_num, NX.out, H79.out⟩, by simp [intOf]; omega⟩
            · obtain rfl : k = m := by omega
              have p1 : ¬ (k : Int) < (k : Int) := by omega
              clear c7
              go_wp2_with fail
              exact bodyPost_ret (results_tmp3 rfl _ _ _) rfl (by exact ⟨Or.inr ⟨LOK.out, (F7.out wr HBR.out).1, Or.inr ⟨HNE.out, rfl⟩⟩, (F7.out wr HBR.out).2.1⟩)
        · rw [decide_eq_false he] at heqS
          have HE : Hid (¬ ks = root) := (show ¬ ks = root from he)
          clear he FIN
          refine wp_region_noPanic ?_
          refine wp_region_held_drew (S := fun w' => Fr Fi w6 w') (by kernel_rfl) (Fr.refl Fi w6).drew (fun hHeld => ?_)
          generalize w6.drew = W at hHeld HB6 ⊢
          refine take_op (i := 0) (v := ?vh0) rfl (by kernel_rfl) (by kernel_rfl) (by kernel_rfl) (fun _ _ _ h => h) rfl hHeld ?yh0 ?rh0
          case yh0 => (intro wz hz; go_simp; first | done | with_reducible rfl)
          try simp only [Act.put, List.setIfInBounds_toArray, List.set_cons_zero, List.set_cons_succ]
          refine take_op (i := 1) (v := ?vh1) rfl (by kernel_rfl) (by kernel_rfl) (by kernel_rfl) (fun _ _ _ h => h) rfl hHeld ?yh1 ?rh1
          case yh1 => (intro wz hz; go_simp; first | done | with_reducible rfl)
          try simp only [Act.put, List.setIfInBounds_toArray, List.set_cons_zero, List.set_cons_succ]
          refine take_op (i := 2) (v := ?vh2) rfl (by kernel_rfl) (by kernel_rfl) (by kernel_rfl) (fun _ _ _ h => h) rfl hHeld ?yh2 ?rh2
          case yh2 => (intro wz hz; go_simp; first | done | with_reducible rfl)
          try simp only [Act.put, List.setIfInBounds_toArray, List.set_cons_zero, List.set_cons_succ]
          refine take_op (i := 3) (v := ?vh3) rfl (by kernel_rfl) (by kernel_rfl) (by kernel_rfl) (fun _ _ _ h => h) rfl hHeld ?yh3 ?rh3
          case yh3 => (intro wz hz; go_simp; first | done | with_reducible rfl)
          try simp only [Act.put, List.setIfInBounds_toArray, List.set_cons_zero, List.set_cons_succ]
          refine take_op (i := 4) (v := ?vh4) rfl (by kernel_rfl) (by kernel_rfl) (by kernel_rfl) (fun _ _ _ h => h) rfl hHeld ?yh4 ?rh4
          case yh4 => (intro wz hz; go_simp; first | done | with_reducible rfl)
          try simp only [Act.put, List.setIfInBounds_toArray, List.set_cons_zero, List.set_cons_succ]
          refine take_op (i := 5) (v := ?vh5) rfl (by kernel_rfl) (by kernel_rfl) (by kernel_rfl) (fun _ _ _ h => h) rfl hHeld ?yh5 ?rh5
          case yh5 => (intro wz hz; have hcz := (FC.out wz hz).2.2.2.1; go_simp; first | done | with_reducible rfl)
          try simp only [Act.put, List.setIfInBounds_toArray, List.set_cons_zero, List.set_cons_succ]
          refine take_load (i := 6) rfl (by kernel_rfl) (by kernel_rfl) (by kernel_rfl) 32 _ rfl w3.heap.size 0 32 (arrV s) rfl _ Tryd.underlying32 rfl (by kernel_rfl) (fun _ _ _ h => h) rfl hHeld (fun wz hz j hj => by rw [Nat.zero_add]; exact (FC.out wz hz).2.1.cell hj) ?_
          try simp only [Act.put, List.setIfInBounds_toArray, List.set_cons_zero, List.set_cons_succ]
          refine take_load (i := 8) rfl (by kernel_rfl) (by kernel_rfl) (by kernel_rfl) 32 _ rfl w.heap.size 0 32 (arrV root) rfl _ Tryd.underlying32 rfl (by kernel_rfl) (fun _ _ _ h => h) rfl hHeld (fun wz hz j hj => by rw [Nat.zero_add]; exact (FC.out wz hz).2.2.1.cell hj) ?_
          try simp only [Act.put, List.setIfInBounds_toArray, List.set_cons_zero, List.set_cons_succ]
          refine take_one (i := 7) rfl (by kernel_rfl) rfl (fun K hK => ?_)
          go_simp
          refine Calls.mono (RO.out W HB6.out.2 HB6.out.1) ?_
          rintro e w7 ⟨rfl, hb7, f7⟩
          have HF7 : Hid (Fr Fi W w7) := (show Fr Fi W w7 from f7)
          have HB7 : Hid (bkAt kv w7 (Gr Fi W w7) (addN N1 (krootNt cnt s)) (c1 + 1)) := (show bkAt kv w7 (Gr Fi W w7) (addN N1 (krootNt cnt s)) (c1 + 1) from hb7)
          refine hK.out _ _ (hHeld.trans f7 fun i _ h => h) (fun hHeld => ?_)
          clear hK K f7 hb7
          try simp only [Act.put, List.setIfInBounds_toArray, List.set_cons_zero, List.set_cons_succ]
          refine take_op (i := 9) (v := ?vh9) rfl (by kernel_rfl) (by kernel_rfl) (by kernel_rfl) (fun _ _ _ h => h) rfl hHeld ?yh9 ?rh9
          case yh9 => (intro wz hz; go_simp; first | done | with_reducible rfl)
          try simp only [Act.put, List.setIfInBounds_toArray, List.set_cons_zero, List.set_cons_succ]
          refine take_op (i := 10) (v := ?vh10) rfl (by kernel_rfl) (by kernel_rfl) (by kernel_rfl) (fun _ _ _ h => h) rfl hHeld ?yh10 ?rh10
          case yh10 => (intro wz hz; go_simp; first | done | with_reducible rfl)
          try simp only [Act.put, List.setIfInBounds_toArray, List.set_cons_zero, List.set_cons_succ]
          refine wpAnyH_done (by kernel_rfl) ?_ _
          refine NoPanic.normal ?_
          have HH : Hid (Fr F w1 w7) := (show Fr F w1 w7 from STEP.out W HB6.out.2 w7 HF7.out)
          have c7 := (FC.out w7 hHeld).2.2.2.2
          clear hHeld
          go_wp2_with fail
          exact bodyPost_ret (results_tmp3 rfl _ _ _) rfl (by exact NEQ.out w7 HH.out HE.out)
      · have NOK : Hid (∀ V, Fr F w1 V → lookPost F kv N c cnt m y key root w (.returned (.tuple #[.slice none 0 0, .bool false, .int .i64 10])) V) := (show _ from fun V hV => NO.out V hV (fun h => by obtain ⟨_, _, t, ht, _⟩ := h; exact badLd_not hbad ht))
        have B34 : Hid (∀ V, But w4.heap.size w3.heap.size w4 V → Fr F w1 V) := (show _ from fun V hV => ⟨hV.os.trans f14.os, hV.tape.trans f14.tape, hV.output.trans f14.output, by have := hV.size; have := f14.size; omega, fun j hj hn => (hV.block j (by omega) (by omega)).trans (f14.block j hj hn)⟩)
        go_wp2_with (first | (rw [← hw4]; clear hw4; refine wpList_store_row rfl 32 _ _ rfl rfl w3.heap.size 0 32 (fun _ => .int .u8 0) rfl rfl hi32' (fun _ _ => rfl) _ _ _ r4 (by omega) ?_; intro w6 r7 hz6 hb6))
        have H6 := B34.out w6 hb6
        clear B34 r7 hz6 hb6 r4 b4 f14 f23 z4 s23 s12 nW HW HP HSZ HY LS NO hbad H12 HS hm' hm0 hcn2
        go_upto_region 4 with fail
        refine wp_region_noPanic ?_
        refine wp_region_held_drew (S := fun w' => Fr F w1 w') (by kernel_rfl) H6.drew (fun hHeld => ?_)
        generalize w6.drew = W at hHeld ⊢
        refine take_op (i := 0) (v := ?vb0) rfl (by kernel_rfl) (by kernel_rfl) (by kernel_rfl) (fun _ _ _ h => h) rfl hHeld ?yb0 ?rb0
        case yb0 => (intro wz hz; go_simp; first | done | with_reducible rfl)
        try simp only [Act.put, List.setIfInBounds_toArray, List.set_cons_zero, List.set_cons_succ]
        refine take_op (i := 1) (v := ?vb1) rfl (by kernel_rfl) (by kernel_rfl) (by kernel_rfl) (fun _ _ _ h => h) rfl hHeld ?yb1 ?rb1
        case yb1 => (intro wz hz; go_simp; first | done | with_reducible rfl)
        try simp only [Act.put, List.setIfInBounds_toArray, List.set_cons_zero, List.set_cons_succ]
        refine take_op (i := 2) (v := ?vb2) rfl (by kernel_rfl) (by kernel_rfl) (by kernel_rfl) (fun _ _ _ h => h) rfl hHeld ?yb2 ?rb2
        case yb2 => (intro wz hz; go_simp; first | done | with_reducible rfl)
        try simp only [Act.put, List.setIfInBounds_toArray, List.set_cons_zero, List.set_cons_succ]
        refine take_not (i := 3) rfl (by kernel_rfl) (by kernel_rfl) (by kernel_rfl) (fun _ _ _ h => h) rfl hHeld ?_
        try simp only [Act.put, List.setIfInBounds_toArray, List.set_cons_zero, List.set_cons_succ]
        refine take_not (i := 4) rfl (by kernel_rfl) (by kernel_rfl) (by kernel_rfl) (fun _ _ _ h => h) rfl hHeld ?_
        try simp only [Act.put, List.setIfInBounds_toArray, List.set_cons_zero, List.set_cons_succ]
        refine take_not (i := 5) rfl (by kernel_rfl) (by kernel_rfl) (by kernel_rfl) (fun _ _ _ h => h) rfl hHeld ?_
        try simp only [Act.put, List.setIfInBounds_toArray, List.set_cons_zero, List.set_cons_succ]
        refine take_not (i := 6) rfl (by kernel_rfl) (by kernel_rfl) (by kernel_rfl) (fun _ _ _ h => h) rfl hHeld ?_
        try simp only [Act.put, List.setIfInBounds_toArray, List.set_cons_zero, List.set_cons_succ]
        refine take_not (i := 7) rfl (by kernel_rfl) (by kernel_rfl) (by kernel_rfl) (fun _ _ _ h => h) rfl hHeld ?_
        try simp only [Act.put, List.setIfInBounds_toArray, List.set_cons_zero, List.set_cons_succ]
        refine take_not (i := 8) rfl (by kernel_rfl) (by kernel_rfl) (by kernel_rfl) (fun _ _ _ h => h) rfl hHeld ?_
        try simp only [Act.put, List.setIfInBounds_toArray, List.set_cons_zero, List.set_cons_succ]
        refine take_not (i := 9) rfl (by kernel_rfl) (by kernel_rfl) (by kernel_rfl) (fun _ _ _ h => h) rfl hHeld ?_
        try simp only [Act.put, List.setIfInBounds_toArray, List.set_cons_zero, List.set_cons_succ]
        refine take_op (i := 10) (v := ?vb10) rfl (by kernel_rfl) (by kernel_rfl) (by kernel_rfl) (fun _ _ _ h => h) rfl hHeld ?yb10 ?rb10
        case yb10 => (intro wz hz; go_simp; first | done | with_reducible rfl)
        try simp only [Act.put, List.setIfInBounds_toArray, List.set_cons_zero, List.set_cons_succ]
        refine wpAnyH_done (by kernel_rfl) ?_ _
        refine NoPanic.normal ?_
        have HH : Hid (Fr F w1 W) := (show Fr F w1 W from hHeld)
        clear hHeld
        go_wp2_with fail
        exact bodyPost_ret (results_tmp3 rfl _ _ _) rfl (by exact NOK.out W HH.out)
    · have hsf : saysB cnt m y key = false := by simpa using hsy
      have HN : Hid (¬ lookOk cnt m y key root) := (show ¬ lookOk cnt m y key root from fun h => hsy h.2.1)
      have H12 : Hid (Fr F w1 w2) := (show Fr F w1 w2 from Fr.of_below F hb2)
      rw [hsf]
      clear hsy hsf RLD hb2
      go_wp2_with fail
      exact bodyPost_ret (results_tmp3 rfl _ _ _) rfl (by exact NO.out w2 H12.out HN.out)
end Go.Proofs.YtkgegihkhdgdoaaDoor

/- rows of spots of one's own; boxes of pairs. -/
namespace Go.Proofs.YtkgegihkhdgdoaaDoor
set_option linter.unusedSimpArgs false
set_option linter.unusedVariables false
open Go.RowKit Go.Deep

def c4 (u : Nat → Value) : List Value := [u 0, u 1, u 2, u 3]
theorem c4_get (u : Nat → Value) (j : Nat) (hj : j < 4) : (c4 u)[j]? = some (u j) := by
  match j, hj with
  | 0, _ => rfl
  | 1, _ => rfl
  | 2, _ => rfl
  | 3, _ => rfl
theorem c4s_get : ∀ (U : List (Nat → Value)) (i j : Nat) (u : Nat → Value), U[i]? = some u → j < 4 → (U.flatMap c4)[i * 4 + j]? = some (u j)
  | [], i, j, u, h, _ => by simp at h
  | y :: N, 0, j, u, h, hj => by
    have e : y = u := by simpa using h
    subst e
    rw [List.flatMap_cons, Nat.zero_mul, Nat.zero_add, List.getElem?_append_left (by rw [show (c4 y).length = 4 from rfl]; exact hj)]
    exact c4_get _ _ hj
  | y :: N, i + 1, j, u, h, hj => by
    rw [List.flatMap_cons, List.getElem?_append_right (by rw [show (c4 y).length = 4 from rfl]; omega), show (c4 y).length = 4 from rfl, show (i + 1) * 4 + j - 4 = i * 4 + j by omega]
    exact c4s_get N i j u (by simpa using h) hj
/-- one spot's cells hold it. -/
def spotIn (w : World) (u : Nat → Value) (s : Sp) : Prop := ∃ kc vc pc, u = spG s.at_ kc vc pc ∧ anyBytes w kc s.pr.1 ∧ anyBytes w vc s.pr.2 ∧ sumsAt w pc s.path ∧ inI64 s.at_
theorem spotIn.below {w w' : World} {B : Nat} {u : Nat → Value} {s : Sp} (h : spotIn w u s) (hb : Below B w w') (hB : w.heap.size ≤ B) : spotIn w' u s := by
  obtain ⟨kc, vc, pc, e, h1, h2, h3, h4⟩ := h
  exact ⟨kc, vc, pc, e, h1.below hb hB, h2.below hb hB, h3.below hb hB, h4⟩
/-- nothing above block b has turned but v's own block. -/
def keeps (w : World) (b : Nat) (v : Value) (w' : World) : Prop := w.heap.size ≤ w'.heap.size ∧ ∀ j, j < w.heap.size → ¬ v.ownBlock = some j → b < j → w'.heap[j]? = w.heap[j]?
/-- .. and goes on to hold it, whatever becomes of v's own block. -/
def spotFar (w : World) (b : Nat) (v : Value) (u : Nat → Value) (s : Sp) : Prop := ∀ w', keeps w b v w' → spotIn w' u s
theorem spotFar.now {w : World} {b : Nat} {v : Value} {u : Nat → Value} {s : Sp} (h : spotFar w b v u s) : spotIn w u s := h w ⟨Nat.le_refl _, fun _ _ _ _ => rfl⟩
theorem spotFar.below {w w' : World} {B b : Nat} {v : Value} {u : Nat → Value} {s : Sp} (h : spotFar w b v u s) (hb : Below B w w') (hB : w.heap.size ≤ B) : spotFar w' b v u s := fun z hz =>
  h z ⟨Nat.le_trans hb.size hz.1, fun j hj hn hb' => (hz.2 j (Nat.lt_of_lt_of_le hj hb.size) hn hb').trans (hb.block j (by omega))⟩
/-- v is a row of k spots, in a block of its own from B on. -/
def ownSpots (w : World) (B b : Nat) (v : Value) (k : Nat) (y : Nat → Sp) : Prop :=
  ∃ U : List (Nat → Value), U.length = k ∧ w.ownsRow B 41 4 v k (U.flatMap c4) ∧ ∀ i, i < k → ∃ u, U[i]? = some u ∧ spotFar w b v u (y i)
theorem ownSpots.nil (w : World) (B b : Nat) (y : Nat → Sp) : ownSpots w B b (.slice none 0 0) 0 y := ⟨[], rfl, ⟨rfl, Or.inl ⟨rfl, rfl⟩⟩, fun i hi => by omega⟩
theorem ownSpots.is {w : World} {B b : Nat} {v : Value} {k : Nat} {y : Nat → Sp} (h : ownSpots w B b v k y) : spotsAt w v k y := by
  obtain ⟨U, hU, ho, hy⟩ := h
  obtain ⟨a, c, rfl, hc, hm, hg⟩ := ownsRow_slice ho
  refine ⟨a, c, rfl, hc, hm, fun i hi => ?_⟩
  obtain ⟨g, rfl, hlt, _, hcell⟩ := hg (by omega)
  obtain ⟨u, hu, hf⟩ := hy i hi
  obtain ⟨kc, vc, pc, rfl, h1, h2, h3, h4⟩ := hf.now
  have hq := fun j hj => hcell _ _ (c4s_get U i j _ hu hj)
  refine ⟨g, 0, kc, vc, pc, rfl, hlt, ?_, ?_, ?_, ?_, h1, h2, h3, h4⟩
  · have := hq 0 (by omega); rw [Nat.zero_add]; exact this
  · have := hq 1 (by omega); rw [Nat.zero_add]; exact this
  · have := hq 2 (by omega); rw [Nat.zero_add]; exact this
  · have := hq 3 (by omega); rw [Nat.zero_add]; exact this
theorem ownSpots.block {w : World} {B b : Nat} {v : Value} {k : Nat} {y : Nat → Sp} (h : ownSpots w B b v k y) (j : Nat) (hj : v.ownBlock = some j) : B ≤ j ∧ j < w.heap.size := by
  obtain ⟨U, _, ho, _⟩ := h
  exact ownsRow_block ho j hj
theorem ownSpots.below {w w' : World} {B C b : Nat} {v : Value} {k : Nat} {y : Nat → Sp} (h : ownSpots w B b v k y) (hb : Below C w w') (hC : w.heap.size ≤ C) : ownSpots w' B b v k y := by
  obtain ⟨U, hU, ho, hy⟩ := h
  refine ⟨U, hU, ownsRow_far ho fun j hj => hb.block j (Nat.lt_of_lt_of_le (ownsRow_block ho j hj).2 hC), fun i hi => ?_⟩
  obtain ⟨u, hu, hs⟩ := hy i hi
  exact ⟨u, hu, hs.below hb hC⟩
/-- .. and where blocks up to b turn. -/
theorem ownSpots.same {w w' : World} {B b : Nat} {v : Value} {k : Nat} {y : Nat → Sp} (h : ownSpots w B b v k y) (hbB : b < B) (hs : w.heap.size ≤ w'.heap.size) (hb : ∀ j, j < w.heap.size → b < j → w'.heap[j]? = w.heap[j]?) : ownSpots w' B b v k y := by
  obtain ⟨U, hU, ho, hy⟩ := h
  refine ⟨U, hU, ownsRow_far ho fun j hj => hb j (ownsRow_block ho j hj).2 (by have := (ownsRow_block ho j hj).1; omega), fun i hi => ?_⟩
  obtain ⟨u, hu, hf⟩ := hy i hi
  exact ⟨u, hu, fun z hz => hf z ⟨Nat.le_trans hs hz.1, fun j hj hn hne => (hz.2 j (by omega) hn hne).trans (hb j hj hne)⟩⟩
theorem newBytes.apart {w w' : World} {B : Nat} {v : Value} {l : List Int} (h : newBytes w B v l) (hb : ∀ k, v.ownBlock = some k → w'.heap[k]? = w.heap[k]?) : newBytes w' B v l := ⟨ownsRow_far h.1 hb, h.2⟩
theorem infoSp : (Tryd.prog.info? 41).map (fun i => (i.zero, i.size, i.bytes)) = some (some (.agg (rowV 4 spZ)), 4, 80) := by kernel_rfl
/-- append of one spot to spots of one's own. -/
theorem spots_append (w : World) (B b8 : Nat) (v : Value) (k : Nat) (y : Nat → Sp) (hv : ownSpots w B b8 v k y) (b : Nat) (u : Nat → Value) (hb : w.rowIs b 41 4 u) (hu : spotFar w b8 v u (y k)) (hn : k < 1000000) (hB : B ≤ w.heap.size) :
    ∃ v' w', (Builtin.append_ #[27, 27] 27 #[v, .slice (some ⟨b, 0, none⟩) 1 1]).run Tryd.prog w = .ok v' w' ∧ ownSpots w' B b8 v' (k + 1) y ∧ w.grownBy w' v.ownBlock ∧ (v'.ownBlock = v.ownBlock ∨ v'.ownBlock = some w.heap.size) := by
  obtain ⟨U, hU, ho, hy⟩ := hv
  have h4 : ∀ j, j < 4 → (u j).oneCell' = true := by
    obtain ⟨kc, vc, pc, rfl, h1, h2, h3, h4⟩ := hu.now
    obtain ⟨ka, kcap, rfl, _⟩ := h1.slice
    obtain ⟨va, vcap, rfl, _⟩ := h2.slice
    obtain ⟨_, pa, pcap, rfl, _⟩ := h3
    exact spG_one _ _ _ _ _ _ _ _ _ _
  obtain ⟨a', c', w', hr, ho', hg, hat⟩ := row_append (P := Tryd.prog) w 27 27 41 _ 4 80 Tryd.underlying27 infoSp (by simp [Value.cells, rowV_size]) (by omega)
    B v k _ ho (.slice (some ⟨b, 0, none⟩) 1 1) 1 (c4 u) rfl
    ⟨_, _, rfl, fun _ => ⟨b, 0, rfl, fun j x hj => by
      have hl : j < 4 := (List.getElem?_eq_some_iff.1 hj).1
      rw [c4_get _ _ hl] at hj
      rw [Nat.zero_add, ← Option.some.inj hj]; exact hb.cell hl⟩⟩
    (fun x hx => by
      obtain ⟨j, hj, rfl⟩ := List.mem_iff_getElem.1 hx
      have hl : j < 4 := hj
      have := c4_get u j hl
      rw [List.getElem?_eq_getElem hj] at this
      rw [Option.some.inj this]; exact h4 j hl) (by unfold maxLen; omega) (by omega) hB
  have hfar : ∀ (u' : Nat → Value) (s : Sp), spotFar w b8 v u' s → spotFar w' b8 (.slice a' (k + 1) c') u' s := fun u' s h z hz => h z ⟨Nat.le_trans hg.size hz.1, fun j hj hn hne => by
    have h1 := hg.block j hj (fun e => hn e.symm)
    refine (hz.2 j (Nat.lt_of_lt_of_le hj hg.size) (fun e => ?_) hne).trans h1
    rcases hat with h | h
    · rw [h] at e; exact hn e
    · rw [h] at e; have := Option.some.inj e; omega⟩
  refine ⟨_, w', hr, ⟨U ++ [u], by simp [hU], ?_, fun i hi => ?_⟩, hg, hat⟩
  · rw [List.flatMap_append, show [u].flatMap c4 = c4 u from List.append_nil _]; exact ho'
  · by_cases e : i < k
    · obtain ⟨u', hu', hf⟩ := hy i e
      exact ⟨u', by rw [List.getElem?_append_left (by omega)]; exact hu', hfar _ _ hf⟩
    · obtain rfl : i = k := by omega
      exact ⟨u, by rw [List.getElem?_append_right (by omega), hU, Nat.sub_self]; rfl, hfar _ _ hu⟩
end Go.Proofs.YtkgegihkhdgdoaaDoor

/- slices.BinarySearchFunc over pairs; keyed.around. -/
namespace Go.Proofs.YtkgegihkhdgdoaaDoor
set_option linter.unusedSimpArgs false
set_option linter.unusedVariables false
open Go.RowKit Go.Deep

theorem may_lt {x : Nat → Pr} {n : Nat} (h : mayP x n) : ∀ d i, i + d + 1 < n → cmpI (x i).1 (x (i + d + 1)).1 < 0
  | 0, i, hd => h i hd
  | d + 1, i, hd => cmpI_trans _ (x (i + d + 1)).1 _ (may_lt h d i (by omega)) (h (i + d + 1) (by omega))
theorem may_lt' {x : Nat → Pr} {n : Nat} (h : mayP x n) {i j : Nat} (hij : i < j) (hj : j < n) : cmpI (x i).1 (x j).1 < 0 := by
  have := may_lt h (j - i - 1) i (by omega)
  rwa [show i + (j - i - 1) + 1 = j by omega] at this
set_option maxHeartbeats 1000000 in
theorem around1_any (kc vc tv : Value) (x : Pr) (key : List Int) (w : World) (h1 : anyBytes w kc x.1) (h2 : anyBytes w vc x.2) (hk : anyBytes w tv key) :
    Calls Tryd.prog 65 #[.agg #[kc, vc], tv] w fun e w' => e = .returned (.int .i64 (cmpI x.1 key)) ∧ Below w.heap.size w w' := by
  obtain ⟨w1, hw1⟩ : ∃ w1, w1 = w.alloc (.cells #[kc, vc] 38) := ⟨_, rfl⟩
  have b1 : Below w.heap.size w w1 := by rw [hw1]; exact (Below.refl _ _).alloc (Nat.le_refl _) _
  have hb0 : w1.heap[w.heap.size]? = some (.cells #[kc, vc] 38) := by rw [hw1, blk_alloc_new]
  have c0 : w1.cell? ⟨w.heap.size, 0, none⟩ = some kc := by rw [cell_of_row _ _ _ _ _ _ hb0]; rfl
  have X := compare_any w1 kc tv x.1 key (h1.below b1 (Nat.le_refl _)) (hk.below b1 (Nat.le_refl _))
  obtain ⟨ka, kcap, rfl, _⟩ := h1.slice
  obtain ⟨va, vcap, rfl, _⟩ := h2.slice
  obtain ⟨ta, tcap, rfl, _⟩ := hk.slice
  have B1 : Hid (Below w.heap.size w w1) := (show Below w.heap.size w w1 from b1)
  clear h1 h2 hk b1 hb0
  go_enter Tryd.func65, Tryd.ntmps65
  go_upto_region 1 with fail
  rw [← hw1]
  clear hw1
  go_wp2_with fail
  refine X.mono ?_
  rintro e w' ⟨rfl, hw⟩
  obtain rfl := hw.symm
  clear X hw
  go_wp2
  go_ret
  exact ⟨rfl, B1.out⟩
/-- where a key stands, or would stand. -/
def posAt (x : Nat → Pr) (n : Nat) (key : List Int) (p : Nat) : Prop := p ≤ n ∧ (∀ t, t < p → cmpI (x t).1 key < 0) ∧ ∀ t, p ≤ t → t < n → 0 ≤ cmpI (x t).1 key
set_option maxHeartbeats 4000000 in
set_option maxRecDepth 100000 in
theorem search_any (n : Nat) (v tv : Value) (x : Nat → Pr) (key : List Int) (w : World) (hp : pairsAt w v n x) (hk : anyBytes w tv key) (hm : mayP x n) (hn : n ≤ 1000) :
    Calls Tryd.prog 64 #[v, tv, .func (.func 65) #[] #[]] w fun e w' => ∃ p, posAt x n key p ∧ e = .returned (.tuple #[.int .i64 (p : Int), .bool (decide (p < n) && decide (cmpI (x p).1 key = 0))]) ∧ Below w.heap.size w w' := by
  have HP : Hid (pairsAt w v n x) := (show pairsAt w v n x from hp)
  have HK : Hid (∀ wz, Below w.heap.size w wz → anyBytes wz tv key) := (show _ from fun wz hz => hk.below hz (Nat.le_refl _))
  have HM : Hid (mayP x n) := (show mayP x n from hm)
  have hsl : ∃ a cap, v = .slice a n cap := by
    obtain ⟨a, cap, e, _⟩ := hp; exact ⟨a, cap, e⟩
  obtain ⟨va, vc, rfl⟩ := hsl
  obtain ⟨ta, tcap, rfl, _⟩ := hk.slice
  have hn' : (n : Int) ≤ 1000 := by omega
  have hn0 : (0 : Int) ≤ (n : Int) := by omega
  clear hp hk hm
  go_enter Tryd.func64, Tryd.ntmps64
  go_wp2_with fail
  go_loopw [9, 10] (fun i j wr => ∃ a b : Nat, a ≤ b ∧ b ≤ n ∧ i = .int .i64 (a : Int) ∧ j = .int .i64 (b : Int) ∧ (∀ t, t < a → cmpI (x t).1 key < 0) ∧ (∀ t, b ≤ t → t < n → 0 ≤ cmpI (x t).1 key) ∧ Below w.heap.size w wr) (fun i j _ => (intOf j).toNat - (intOf i).toNat)
  case atStart => exact ⟨0, n, Nat.zero_le _, Nat.le_refl _, rfl, rfl, fun t ht => by omega, fun t h1 h2 => by omega, Below.refl _ _⟩
  case round =>
    obtain ⟨a, b, hab, hbn, rfl, rfl, hlo, hhi, hb⟩ := hrel
    have a0 : (0 : Int) ≤ (a : Int) := by omega
    have b0 : (0 : Int) ≤ (b : Int) := by omega
    have b1 : (b : Int) ≤ (n : Int) := by omega
    by_cases hlt : a < b
    · have p1 : (a : Int) < (b : Int) := by omega
      obtain ⟨m, hm⟩ : ∃ m, m = (a + b) / 2 := ⟨_, rfl⟩
      have hma : a ≤ m := by omega
      have hmb : m < b := by omega
      have hmn : m < n := by omega
      have hdiv : ((a : Int) + (b : Int)) / 2 = (m : Int) := by omega
      have hs1 : IntKind.wrap .i64 ((a : Int) + (b : Int)) = (a : Int) + (b : Int) := IntWalk.i64_in _ ⟨by omega, by omega⟩
      have hs2 : IntKind.wrap .u64 ((a : Int) + (b : Int)) = (a : Int) + (b : Int) := by
        have e : IntKind.u64.wrap ((a : Int) + (b : Int)) = ((a : Int) + (b : Int)) % 18446744073709551616 := by simp [IntKind.wrap, IntKind.bits, IntKind.signed]
        rw [e]; omega
      have hs3 : IntKind.wrap .i64 (m : Int) = (m : Int) := IntWalk.i64_in _ ⟨by omega, by omega⟩
      have m0 : (0 : Int) ≤ (m : Int) := by omega
      have m1 : (m : Int) < (n : Int) := by omega
      obtain ⟨g, o, cap, e, hg, _, _, hc⟩ := HP.out.at (by omega)
      injection e with ea _ ec
      subst ea
      subst ec
      obtain ⟨ka, kcap, va1, vcap1, H1⟩ := hc m hmn
      obtain ⟨c0, c1, k1, k2⟩ := H1 wr hb
      have X := around1_any _ _ _ (x m) key wr k1 k2 (HK.out wr hb)
      have HB : Hid (Below w.heap.size w wr) := (show Below w.heap.size w wr from hb)
      have HLO : Hid ((∀ t, t < a → cmpI (x t).1 key < 0) ∧ (∀ t, b ≤ t → t < n → 0 ≤ cmpI (x t).1 key)) := (show _ ∧ _ from ⟨hlo, hhi⟩)
      have HQ : Hid (a ≤ m ∧ m < b ∧ b ≤ n) := (show _ from ⟨hma, hmb, hbn⟩)
      clear hlo hhi hb H1 k1 k2 hc hg hm hab
      go_wp2_with fail
      refine X.mono ?_
      rintro e w' ⟨rfl, hb2⟩
      have HB2 : Hid (Below w.heap.size w w') := (show Below w.heap.size w w' from HB.out.trans (hb2.mono HB.out.size))
      clear X hb2 c0 c1
      have hs4 : IntKind.wrap .i64 ((m : Int) + 1) = (m : Int) + 1 := IntWalk.i64_in _ ⟨by omega, by omega⟩
      by_cases hc : cmpI (x m).1 key < 0
      · have HC : Hid (cmpI (x m).1 key < 0) := (show cmpI (x m).1 key < 0 from hc)
        go_wp2
        go_light
        refine ⟨⟨m + 1, b, by have := HQ.out; omega, by have := HQ.out; omega, by go_num, rfl, fun t ht => ?_, HLO.out.2, HB2.out⟩, by simp [intOf]; omega⟩
        by_cases e : t = m
        · rw [e]; exact HC.out
        · exact cmpI_trans _ _ _ (may_lt' HM.out (show t < m by omega) hmn) HC.out
      · have HC : Hid (0 ≤ cmpI (x m).1 key) := (show 0 ≤ cmpI (x m).1 key from by omega)
        go_wp2
        go_light
        refine ⟨⟨a, m, by have := HQ.out; omega, by have := HQ.out; omega, rfl, rfl, HLO.out.1, fun t h1 h2 => ?_, HB2.out⟩, by simp [intOf]; omega⟩
        by_cases e : t = m
        · rw [e]; exact HC.out
        · have h3 := may_lt' HM.out (show m < t by omega) h2
          have h4 := HC.out
          rcases Int.lt_or_le (cmpI (x t).1 key) 0 with h5 | h5
          · have := cmpI_trans _ _ _ h3 h5; omega
          · exact h5
    · obtain rfl : a = b := by omega
      have POS : Hid (posAt x n key a) := (show posAt x n key a from ⟨hbn, hlo, hhi⟩)
      have HB : Hid (Below w.heap.size w wr) := (show Below w.heap.size w wr from hb)
      have p1 : ¬ (a : Int) < (a : Int) := by omega
      by_cases han : a < n
      · have p2 : (a : Int) < (n : Int) := by omega
        obtain ⟨g, o, cap, e, hg, _, _, hc⟩ := HP.out.at (by omega)
        injection e with ea _ ec
        subst ea
        subst ec
        obtain ⟨ka, kcap, va1, vcap1, H1⟩ := hc a han
        obtain ⟨c0, c1, k1, k2⟩ := H1 wr hb
        have X := around1_any _ _ _ (x a) key wr k1 k2 (HK.out wr hb)
        clear hlo hhi hb H1 k1 k2 hc hg hab
        go_wp2_with fail
        refine X.mono ?_
        rintro e w' ⟨rfl, hb2⟩
        have HB2 : Hid (Below w.heap.size w w') := (show Below w.heap.size w w' from HB.out.trans (hb2.mono HB.out.size))
        clear X hb2 c0 c1
        have HE : Hid ((decide (a < n) && decide (cmpI (x a).1 key = 0)) = (cmpI (x a).1 key == 0)) := (show (decide (a < n) && decide (cmpI (x a).1 key = 0)) = (cmpI (x a).1 key == 0) from by rw [decide_eq_true han, Bool.true_and, Bool.eq_iff_iff, decide_eq_true_iff, beq_iff_eq])
        go_wp2
        exact bodyPost_ret (results_tmp2 rfl _ _ _) rfl ⟨a, POS.out, by rw [HE.out]; rfl, HB2.out⟩
      · have p2 : ¬ (a : Int) < (n : Int) := by omega
        have HE : Hid ((decide (a < n) && decide (cmpI (x a).1 key = 0)) = false) := (show (decide (a < n) && decide (cmpI (x a).1 key = 0)) = false from by rw [decide_eq_false han, Bool.false_and])
        clear hlo hhi hb hab
        go_wp2
        exact bodyPost_ret (results_tmp2 rfl _ _ _) rfl ⟨a, POS.out, by rw [HE.out]; rfl, HB.out⟩
end Go.Proofs.YtkgegihkhdgdoaaDoor

/- keyed.around. -/
namespace Go.Proofs.YtkgegihkhdgdoaaDoor
set_option linter.unusedSimpArgs false
set_option linter.unusedVariables false
open Go.RowKit Go.Deep

/-- is the key there, at the place where it would stand? -/
def isAt (x : Nat → Pr) (n : Nat) (key : List Int) (p : Nat) : Bool := decide (p < n) && decide (cmpI (x p).1 key = 0)
/-- the places, from the first to the last, of what is shown. -/
def arF (x : Nat → Pr) (n : Nat) (key : List Int) (p : Nat) : Int := if isAt x n key p = true then (p : Int) else max ((p : Int) - 1) 0
def arL (x : Nat → Pr) (n : Nat) (key : List Int) (p : Nat) : Int := if isAt x n key p = true then (p : Int) else min (p : Int) ((n : Int) - 1)
set_option maxHeartbeats 1000000 in
theorem around_any (n : Nat) (v tv : Value) (x : Nat → Pr) (key : List Int) (w : World) (hp : pairsAt w v n x) (hk : anyBytes w tv key) (hm : mayP x n) (hn : n ≤ 1000) :
    Calls Tryd.prog 35 #[v, tv] w fun e w' => ∃ p, posAt x n key p ∧ e = .returned (.tuple #[.int .i64 (arF x n key p), .int .i64 (arL x n key p)]) ∧ Below w.heap.size w w' := by
  have X := search_any n v tv x key w hp hk hm hn
  have hsl : ∃ a cap, v = .slice a n cap := by
    obtain ⟨a, cap, e, _⟩ := hp; exact ⟨a, cap, e⟩
  obtain ⟨va, vc, rfl⟩ := hsl
  obtain ⟨ta, tcap, rfl, _⟩ := hk.slice
  have hn' : (n : Int) ≤ 1000 := by omega
  have hn0 : (0 : Int) ≤ (n : Int) := by omega
  clear hp hk hm
  go_enter Tryd.func35, Tryd.ntmps35
  go_wp2_with fail
  refine X.mono ?_
  rintro e w1 ⟨p, hpos, rfl, b1⟩
  clear X
  have hpn : p ≤ n := hpos.1
  have POS : Hid (posAt x n key p ∧ Below w.heap.size w w1) := (show posAt x n key p ∧ Below w.heap.size w w1 from ⟨hpos, b1⟩)
  have p0 : (0 : Int) ≤ (p : Int) := by omega
  have p1 : (p : Int) ≤ (n : Int) := by omega
  have hw1 : IntKind.wrap .i64 ((p : Int) - 1) = (p : Int) - 1 := IntWalk.i64_in _ ⟨by omega, by omega⟩
  have hw2 : IntKind.wrap .i64 ((n : Int) - 1) = (n : Int) - 1 := IntWalk.i64_in _ ⟨by omega, by omega⟩
  have hI : (decide (p < n) && decide (cmpI (x p).1 key = 0)) = isAt x n key p := rfl
  rw [hI]
  have EF : Hid (arF x n key p = if isAt x n key p = true then (p : Int) else max ((p : Int) - 1) 0) := (show arF x n key p = if isAt x n key p = true then (p : Int) else max ((p : Int) - 1) 0 from rfl)
  have EL : Hid (arL x n key p = if isAt x n key p = true then (p : Int) else min (p : Int) ((n : Int) - 1)) := (show arL x n key p = if isAt x n key p = true then (p : Int) else min (p : Int) ((n : Int) - 1) from rfl)
  generalize isAt x n key p = r at EF EL ⊢
  clear hI hpos b1
  cases r with
  | true =>
    go_wp2
    exact bodyPost_ret (results_tmp2 rfl _ _ _) rfl ⟨p, POS.out.1, by rw [EF.out, EL.out]; rfl, POS.out.2⟩
  | false =>
    have EF2 : arF x n key p = max ((p : Int) - 1) 0 := EF.out
    have EL2 : arL x n key p = min (p : Int) ((n : Int) - 1) := EL.out
    clear EF EL
    have m1 : (p : Int) - 1 ≤ 0 ∧ arF x n key p = 0 ∨ 0 < (p : Int) - 1 ∧ arF x n key p = (p : Int) - 1 := by omega
    have m2 : (p : Int) ≤ (n : Int) - 1 ∧ arL x n key p = (p : Int) ∨ (n : Int) - 1 < (p : Int) ∧ arL x n key p = (n : Int) - 1 := by omega
    clear EF2 EL2
    rcases m1 with ⟨h1, e1⟩ | ⟨h1, e1⟩ <;> rcases m2 with ⟨h2, e2⟩ | ⟨h2, e2⟩
    all_goals
      have E1 : Hid _ := e1
      have E2 : Hid _ := e2
      clear e1 e2
      go_wp2
      all_goals first
        | (exfalso; omega)
        | exact bodyPost_ret (results_tmp2 rfl _ _ _) rfl ⟨p, POS.out.1, by rw [E1.out, E2.out]; rfl, POS.out.2⟩
        | exact bodyPost_ret (results_tmp2 rfl _ _ _) rfl ⟨p, POS.out.1, by rw [E1.out, E2.out, show (p : Int) - 1 = 0 by omega]; rfl, POS.out.2⟩
end Go.Proofs.YtkgegihkhdgdoaaDoor

/- What a path's way has come to behind some steps. Plain mathematics. -/
namespace Go.Proofs.YtkgegihkhdgdoaaDoor
set_option linter.unusedSimpArgs false
set_option linter.unusedVariables false
open Go.RowKit Go.Deep

def otherL (x : Nat × Bool) (L : List (List Int)) : List (List Int) := if x.2 = true then L.drop x.1 else L.take x.1
def keptL (x : Nat × Bool) (L : List (List Int)) : List (List Int) := if x.2 = true then L.take x.1 else L.drop x.1
def keptF (w : List (Nat × Bool)) (L : List (List Int)) : List (List Int) := w.foldl (fun L x => keptL x L) L
theorem keptF_snoc (w : List (Nat × Bool)) (x : Nat × Bool) (L : List (List Int)) : keptF (w ++ [x]) L = keptL x (keptF w L) := by unfold keptF; rw [List.foldl_append]; rfl
theorem keptF_cons (x : Nat × Bool) (w : List (Nat × Bool)) (L : List (List Int)) : keptF (x :: w) L = keptF w (keptL x L) := rfl
theorem downF_cons (x : Nat × Bool) (w : List (Nat × Bool)) (L : List (List Int)) : downF (x :: w) L = rootS (otherL x L) :: downF w (keptL x L) := rfl
theorem downF_snoc : ∀ (w : List (Nat × Bool)) (x : Nat × Bool) (L : List (List Int)), downF (w ++ [x]) L = downF w L ++ [rootS (otherL x (keptF w L))]
  | [], x, L => rfl
  | y :: r, x, L => by rw [List.cons_append, downF_cons, downF_cons, downF_snoc r x, keptF_cons]; rfl
/-- the notes, and how often was hashed. -/
def downN (N : List Nt) : List (Nat × Bool) → List (List Int) → List Nt
  | [], _ => N
  | x :: r, L => downN (rootN N (otherL x L)) r (keptL x L)
def downC : List (Nat × Bool) → List (List Int) → Int
  | [], _ => 0
  | x :: r, L => callsR (otherL x L).length + downC r (keptL x L)
theorem downN_snoc : ∀ (w : List (Nat × Bool)) (N : List Nt) (x : Nat × Bool) (L : List (List Int)), downN N (w ++ [x]) L = rootN (downN N w L) (otherL x (keptF w L))
  | [], N, x, L => rfl
  | y :: r, N, x, L => by rw [List.cons_append, downN, downN_snoc r, downN, keptF_cons]
theorem downC_snoc : ∀ (w : List (Nat × Bool)) (x : Nat × Bool) (L : List (List Int)), downC (w ++ [x]) L = downC w L + callsR (otherL x (keptF w L)).length
  | [], x, L => by simp [downC, keptF]
  | y :: r, x, L => by rw [List.cons_append, downC, downC_snoc r, downC, keptF_cons]; omega
theorem parted {x : Nat × Bool} {L : List (List Int)} (h : 2 ≤ L.length) (hx : x.1 = halfN L.length) : 1 ≤ (otherL x L).length ∧ 1 ≤ (keptL x L).length ∧ (otherL x L).length + (keptL x L).length = L.length := by
  have := half_take h
  unfold otherL keptL
  rw [hx]
  split <;> omega
theorem way_head {n p : Nat} (h : 2 ≤ n) : ∃ b, wayL n p = (halfN n, b) :: wayL (if b = true then halfN n else n - halfN n) (if b = true then p else p - halfN n) := by
  refine ⟨decide (p < halfN n), ?_⟩
  rw [wayL_step h]
  by_cases hp : p < halfN n
  · simp [hp]
  · simp [hp]
theorem way_two {n p : Nat} (h : 0 < (wayL n p).length) : 2 ≤ n := by
  by_cases h2 : 2 ≤ n
  · exact h2
  · rw [wayL_end (by omega)] at h; simp at h
theorem kept_len {b : Bool} {L : List (List Int)} (h : 2 ≤ L.length) : (keptL (halfN L.length, b) L).length = if b = true then halfN L.length else L.length - halfN L.length := by
  have := half_take h
  unfold keptL
  cases b <;> simp <;> omega
/-- behind k steps. -/
theorem down_at : ∀ (k : Nat) (L : List (List Int)) (p : Nat) (N : List Nt), k ≤ (wayL L.length p).length → 1 ≤ L.length →
    1 ≤ (keptF ((wayL L.length p).take k) L).length ∧ (downN N ((wayL L.length p).take k) L).length + (keptF ((wayL L.length p).take k) L).length ≤ N.length + L.length ∧ 0 ≤ downC ((wayL L.length p).take k) L ∧ downC ((wayL L.length p).take k) L + (keptF ((wayL L.length p).take k) L).length ≤ L.length ∧
      ∀ x, (wayL L.length p)[k]? = some x → 2 ≤ (keptF ((wayL L.length p).take k) L).length ∧ x.1 = halfN (keptF ((wayL L.length p).take k) L).length
  | 0, L, p, N, h, h1 => by
    simp only [List.take_zero, keptF, downN, downC, List.foldl_nil]
    refine ⟨h1, by omega, by omega, by omega, fun x hx => ?_⟩
    have hl : 0 < (wayL L.length p).length := by
      by_cases e : 0 < (wayL L.length p).length
      · exact e
      · rw [List.getElem?_eq_none (by omega)] at hx; cases hx
    have h2 := way_two hl
    obtain ⟨b, hb⟩ := way_head (p := p) h2
    rw [hb] at hx
    have : (halfN L.length, b) = x := by simpa using hx
    exact ⟨h2, by rw [← this]⟩
  | k + 1, L, p, N, h, h1 => by
    have h2 := way_two (show 0 < (wayL L.length p).length by omega)
    obtain ⟨b, hb⟩ := way_head (p := p) h2
    have hk := kept_len (b := b) h2
    have hp := parted (x := (halfN L.length, b)) h2 rfl
    rw [hb, List.length_cons] at h
    rw [← hk] at hb h
    have ih := down_at k (keptL (halfN L.length, b) L) (if b = true then p else p - halfN L.length) (rootN N (otherL (halfN L.length, b) L)) (by omega) hp.2.1
    have hr := (rootNF_length (otherL (halfN L.length, b) L).length N (otherL (halfN L.length, b) L) (Nat.le_refl _)).2 hp.1
    have hr' : (rootN N (otherL (halfN L.length, b) L)).length + 1 ≤ N.length + (otherL (halfN L.length, b) L).length := hr
    have hc : 0 ≤ callsR (otherL (halfN L.length, b) L).length ∧ callsR (otherL (halfN L.length, b) L).length + 1 = (otherL (halfN L.length, b) L).length := by unfold callsR; rw [if_neg (by omega)]; omega
    rw [hb, List.take_succ_cons, keptF_cons, downN, downC]
    refine ⟨ih.1, by omega, by omega, by omega, fun x hx => ih.2.2.2.2 x ?_⟩
    rw [List.getElem?_cons_succ] at hx
    exact hx
/-- the path of a place, or none. -/
def pathI (L : List (List Int)) (at_ : Int) : List (List Int) := (downF (wayI L.length at_) L).reverse
theorem pathI_there {L : List (List Int)} {p : Nat} (h : p < L.length) : pathI L (p : Int) = pathS L p := by
  unfold pathI pathS wayI
  have : thereB (L.length : Int) (p : Int) = true := by simp [thereB]; omega
  rw [if_pos this, Int.toNat_natCast, Int.toNat_natCast]
theorem pathI_none {L : List (List Int)} {at_ : Int} (h : thereB (L.length : Int) at_ = false) : pathI L at_ = [] := by
  unfold pathI wayI
  rw [if_neg (by rw [h]; simp)]; rfl
end Go.Proofs.YtkgegihkhdgdoaaDoor

/- tree.Path. -/
namespace Go.Proofs.YtkgegihkhdgdoaaDoor
set_option linter.unusedSimpArgs false
set_option linter.unusedVariables false
open Go.RowKit Go.Deep Go.Shelf
attribute [local go_sem] Oper.semAt_some

/-- behind k steps down; W0: the world where the range begins. -/
def pathAt (w W0 : World) (F : Nat → Prop) (kv : Value) (N : List Nt) (c : Int) (lv0 : Value) (L : List (List Int)) (way : List (Nat × Bool)) (k : Nat) (W : World) : Prop :=
  ∃ lv pv Fi, W.rowIs w.heap.size 62 1 (fun _ => kv) ∧ W.rowIs (w.heap.size + 1) 39 1 (fun _ => lv) ∧ sumsAt W lv (keptF (way.take k) L) ∧ lv.ownBlock = lv0.ownBlock ∧ W.rowIs (w.heap.size + 2) 39 1 (fun _ => pv) ∧
    newSums W (W0.heap.size + 2) pv (downF (way.take k) L) ∧ bkAt kv W Fi (downN N (way.take k) L) (c + downC (way.take k) L) ∧ (∀ j, Fi j → F j ∨ W0.heap.size + 2 ≤ j) ∧ (∀ j, pv.ownBlock = some j → ¬ Fi j) ∧ Fr (fun j => F j ∨ j = w.heap.size + 1 ∨ j = w.heap.size + 2) W0 W
theorem keptF_le : ∀ (w : List (Nat × Bool)) (L : List (List Int)), (keptF w L).length ≤ L.length
  | [], L => Nat.le_refl _
  | x :: r, L => by
    have h := keptF_le r (keptL x L)
    have h2 : (keptL x L).length ≤ L.length := by unfold keptL; split <;> simp <;> omega
    rw [keptF_cons]; omega
theorem pathAt.keep {w W0 : World} {F : Nat → Prop} {kv : Value} {N : List Nt} {c : Int} {lv0 : Value} {L : List (List Int)} {way : List (Nat × Bool)} {k : Nat} {W W' : World} (h : pathAt w W0 F kv N c lv0 L way k W)
    (hs0 : w.heap.size + 2 < W0.heap.size) (hF : ∀ j, F j → j < w.heap.size) (hv0 : 0 < L.length → ∀ j, lv0.ownBlock = some j → j < w.heap.size) (ho : W'.os = W.os ∧ W'.tape = W.tape ∧ W'.output = W.output) (hs : W.heap.size ≤ W'.heap.size)
    (hb : ∀ j, j < W.heap.size → j ≠ W0.heap.size → j ≠ W0.heap.size + 1 → W'.heap[j]? = W.heap[j]?) : pathAt w W0 F kv N c lv0 L way k W' := by
  obtain ⟨lv, pv, Fi, h1, h2, h3, h4, h5, h6, h7, h8, h9, h10⟩ := h
  have hz := h10.size
  refine ⟨lv, pv, Fi, World.rowIs.of_block h1 (hb _ (by omega) (by omega) (by omega)), World.rowIs.of_block h2 (hb _ (by omega) (by omega) (by omega)), sumsAt.far h3 (fun h0 j hj hl => hb j hl (by have := hv0 (by have := keptF_le (way.take k) L; omega) j (h4 ▸ hj); omega) (by have := hv0 (by have := keptF_le (way.take k) L; omega) j (h4 ▸ hj); omega)) hs, h4,
    World.rowIs.of_block h5 (hb _ (by omega) (by omega) (by omega)), h6.far (fun j hj => by have := h6.block j hj; exact hb j (by omega) (by omega) (by omega)), h7.far (fun j hj hl => hb j hl (fun e => ?_) (fun e => ?_)) hs, h8, h9, ⟨ho.1.trans h10.os, ho.2.1.trans h10.tape, ho.2.2.trans h10.output, by omega, fun j hj hn => (hb j (by omega) (by omega) (by omega)).trans (h10.block j hj hn)⟩⟩
  · rcases h8 j hj with h | h
    · have := hF j h; omega
    · omega
  · rcases h8 j hj with h | h
    · have := hF j h; omega
    · omega
/-- one step: the root of what is left aside, appended to the path. -/
theorem pathAt.step {w W0 : World} {F : Nat → Prop} {kv : Value} {N : List Nt} {c : Int} {lv0 : Value} {L : List (List Int)} {p : Nat} {k : Nat} {W : World} {x : Nat × Bool} {lv pv : Value} {Fi : Nat → Prop}
    (hs0 : w.heap.size + 2 < W0.heap.size) (hF : ∀ j, F j → j < w.heap.size) (hF0 : ¬ F 1) (ht0 : tabIs W0) (hw0 : 1 < w.heap.size) (hv0 : ∀ j, lv0.ownBlock = some j → j < w.heap.size ∧ ¬ F j) (hx : (wayL L.length p)[k]? = some x) (hL : L.length ≤ 1000) (hN : N.length + L.length < 100000) (hc : 0 ≤ c ∧ c < 90000000)
    (h1 : W.rowIs w.heap.size 62 1 (fun _ => kv)) (h2 : W.rowIs (w.heap.size + 1) 39 1 (fun _ => lv)) (h3 : sumsAt W lv (keptF ((wayL L.length p).take k) L)) (h4 : lv.ownBlock = lv0.ownBlock) (h5 : W.rowIs (w.heap.size + 2) 39 1 (fun _ => pv))
    (h6 : newSums W (W0.heap.size + 2) pv (downF ((wayL L.length p).take k) L)) (h7 : bkAt kv W Fi (downN N ((wayL L.length p).take k) L) (c + downC ((wayL L.length p).take k) L)) (h8 : ∀ j, Fi j → F j ∨ W0.heap.size + 2 ≤ j) (h9 : ∀ j, pv.ownBlock = some j → ¬ Fi j) (h10 : Fr (fun j => F j ∨ j = w.heap.size + 1 ∨ j = w.heap.size + 2) W0 W)
    (hD : W0.heap.size + 1 < W.heap.size) (ov kp : Value) (ho : sumsAt W ov (otherL x (keptF ((wayL L.length p).take k) L))) (ho4 : ov.ownBlock = lv.ownBlock) (hkp : sumsAt W kp (keptL x (keptF ((wayL L.length p).take k) L))) (hkp4 : kp.ownBlock = lv.ownBlock) :
    Calls Tryd.prog 40 #[kv, ov] W fun e wR => e = .returned (.agg (rowV 32 (arrV (rootS (otherL x (keptF ((wayL L.length p).take k) L)))))) ∧ wR.rowIs (w.heap.size + 2) 39 1 (fun _ => pv) ∧ wR.rowIs w.heap.size 62 1 (fun _ => kv) ∧
      ∀ wS, wS = wR.alloc (.cells (rowV 32 (arrV (rootS (otherL x (keptF ((wayL L.length p).take k) L))))) 32) → wS.rowIs (w.heap.size + 2) 39 1 (fun _ => pv) ∧ wS.rowIs w.heap.size 62 1 (fun _ => kv) ∧
        ∃ a m cp w8, (Builtin.append_ #[39, 39] 39 #[pv, .slice (some ⟨wR.heap.size, 0, none⟩) 1 1]).run Tryd.prog wS = .ok (.slice a m cp) w8 ∧ w8.rowIs (w.heap.size + 2) 39 1 (fun _ => pv) ∧ w8.rowIs (w.heap.size + 1) 39 1 (fun _ => lv) ∧ w8.rowIs w.heap.size 62 1 (fun _ => kv) ∧
          ∀ w9, w9 = (w8.setCell ⟨w.heap.size + 2, 0, none⟩ (.slice a m cp)).setCell ⟨w.heap.size + 1, 0, none⟩ kp → w9.rowIs w.heap.size 62 1 (fun _ => kv) ∧ w9.heap[W0.heap.size]? = W.heap[W0.heap.size]? ∧ w9.heap[W0.heap.size + 1]? = W.heap[W0.heap.size + 1]? ∧ pathAt w W0 F kv N c lv0 L (wayL L.length p) (k + 1) w9 := by
  have hk : k < (wayL L.length p).length := (List.getElem?_eq_some_iff.1 hx).1
  have hxk : (wayL L.length p)[k] = x := (List.getElem?_eq_some_iff.1 hx).2
  have h2L := way_two (show 0 < (wayL L.length p).length by omega)
  obtain ⟨d1, d2, d3, d4, d5⟩ := down_at k L p N (by omega) (by omega)
  obtain ⟨d6, d7⟩ := d5 x hx
  have hpt := parted d6 d7
  have hz := h10.size
  have nF : ∀ j, w.heap.size ≤ j → j < W0.heap.size + 2 → ¬ Fi j := fun j h5 h6 h => by
    rcases h8 j h with h | h
    · have := hF j h; omega
    · omega
  have hF0' : ¬ Fi 1 := fun h => by
    rcases h8 1 h with h | h
    · exact hF0 h
    · omega
  have tW : tabIs W := tabIs.far ht0 (h10.block 1 ht0.1 (fun h => by rcases h with h | h; exact hF0 h; omega)) hz
  have hoF : ∀ j, ov.ownBlock = some j → ¬ Fi j := fun j hj h => by
    have := hv0 j (by rw [← h4, ← ho4]; exact hj)
    rcases h8 j h with h | h
    · exact this.2 h
    · omega
  have tk := take_snoc (wayL L.length p) k hk
  rw [hxk] at tk
  have eD : downF ((wayL L.length p).take (k + 1)) L = downF ((wayL L.length p).take k) L ++ [rootS (otherL x (keptF ((wayL L.length p).take k) L))] := by rw [tk, downF_snoc]
  have eK : keptF ((wayL L.length p).take (k + 1)) L = keptL x (keptF ((wayL L.length p).take k) L) := by rw [tk, keptF_snoc]
  have eN : downN N ((wayL L.length p).take (k + 1)) L = rootN (downN N ((wayL L.length p).take k) L) (otherL x (keptF ((wayL L.length p).take k) L)) := by rw [tk, downN_snoc]
  have eC : downC ((wayL L.length p).take (k + 1)) L = downC ((wayL L.length p).take k) L + callsR (otherL x (keptF ((wayL L.length p).take k) L)).length := by rw [tk, downC_snoc]
  generalize hO : otherL x (keptF ((wayL L.length p).take k) L) = O at *
  refine (root_k Fi kv _ _ O ov W h7 ho (fun _ => hoF) (by omega) tW hF0' (by omega) ⟨by omega, by omega⟩).mono ?_
  rintro e wR ⟨rfl, hb, hf⟩
  have sR := hf.size
  have keepR : ∀ j, j < W.heap.size → ¬ Fi j → wR.heap[j]? = W.heap[j]? := fun j hj hn => hf.block j hj hn
  have r1 : wR.rowIs w.heap.size 62 1 (fun _ => kv) := World.rowIs.of_block h1 (keepR _ (by omega) (nF _ (by omega) (by omega)))
  have r2 : wR.rowIs (w.heap.size + 1) 39 1 (fun _ => lv) := World.rowIs.of_block h2 (keepR _ (by omega) (nF _ (by omega) (by omega)))
  have r5 : wR.rowIs (w.heap.size + 2) 39 1 (fun _ => pv) := World.rowIs.of_block h5 (keepR _ (by omega) (nF _ (by omega) (by omega)))
  have n6 : newSums wR (W0.heap.size + 2) pv (downF ((wayL L.length p).take k) L) := h6.far (fun j hj => keepR j (h6.block j hj).2 (h9 j hj))
  have hOs : isSum (rootS O) := rootS_sum ho.1
  refine ⟨rfl, r5, r1, fun wS hS => ?_⟩
  have bS : Below wR.heap.size wR wS := by rw [hS]; exact (Below.refl _ _).alloc (Nat.le_refl _) _
  have sS : wS.heap.size = wR.heap.size + 1 := by rw [hS]; simp
  have q1 := bS.row r1 (by omega)
  have q2 := bS.row r2 (by omega)
  have q5 := bS.row r5 (by omega)
  have m6 := n6.below bS (Nat.le_refl _)
  have hl6 : (downF ((wayL L.length p).take k) L).length ≤ 64 + 1000 := by
    rw [downF_len, List.length_take]
    have := wayI_len (L.length : Int) (p : Int) (by omega)
    have hle : (wayL L.length p).length ≤ 64 + 1000 := by
      have := wayL_len 10 L.length p (by omega)
      omega
    omega
  have os := one_sum wR (rootS O) hOs
  rw [← hS] at os
  obtain ⟨a, cp, w8, hr, hn8, hg8, hat⟩ := sums_append wS (W0.heap.size + 2) pv _ m6 _ _ os (by simp; omega) (by omega)
  refine ⟨q5, q1, a, _, cp, w8, hr, ?_⟩
  have pvb : ∀ j, pv.ownBlock = some j → W0.heap.size + 2 ≤ j := fun j hj => (m6.block j hj).1
  have keep8 : ∀ j, j < wS.heap.size → pv.ownBlock ≠ some j → w8.heap[j]? = wS.heap[j]? := fun j hj hn => hg8.block j hj (fun e => hn e.symm)
  have npv : ∀ j, j < W0.heap.size + 2 → pv.ownBlock ≠ some j := fun j hj e => by have := pvb j e; omega
  have s8 : wS.heap.size ≤ w8.heap.size := hg8.size
  have t1 : w8.rowIs w.heap.size 62 1 (fun _ => kv) := World.rowIs.of_block q1 (keep8 _ (by omega) (npv _ (by omega)))
  have t2 : w8.rowIs (w.heap.size + 1) 39 1 (fun _ => lv) := World.rowIs.of_block q2 (keep8 _ (by omega) (npv _ (by omega)))
  have t5 : w8.rowIs (w.heap.size + 2) 39 1 (fun _ => pv) := World.rowIs.of_block q5 (keep8 _ (by omega) (npv _ (by omega)))
  refine ⟨t5, t2, t1, fun w9 h9e => ?_⟩
  generalize hnv : (Value.slice a ((downF ((wayL L.length p).take k) L).length + [rootS O].length) cp) = nv at *
  have s9 : w9.heap.size = w8.heap.size := by rw [h9e, nblk_setCell, nblk_setCell]
  have keep9 : ∀ j, j ≠ w.heap.size + 1 → j ≠ w.heap.size + 2 → w9.heap[j]? = w8.heap[j]? := fun j h1 h2 => by rw [h9e, blk_setCell_other _ _ _ _ h1, blk_setCell_other _ _ _ _ h2]
  have all : ∀ j, j < W.heap.size → ¬ Fi j → pv.ownBlock ≠ some j → j ≠ w.heap.size + 1 → j ≠ w.heap.size + 2 → w9.heap[j]? = W.heap[j]? := fun j a1 a2 a3 a4 a5 => (keep9 j a4 a5).trans ((keep8 j (by omega) a3).trans ((bS.block j (by omega)).trans (keepR j a1 a2)))
  have lvb : ∀ j, kp.ownBlock = some j → j < w.heap.size ∧ ¬ F j := fun j hj => hv0 j (by rw [← h4, ← hkp4]; exact hj)
  refine ⟨World.rowIs.of_block t1 (keep9 _ (by omega) (by omega)), all _ (by omega) (nF _ (by omega) (by omega)) (npv _ (by omega)) (by omega) (by omega), all _ (by omega) (nF _ (by omega) (by omega)) (npv _ (by omega)) (by omega) (by omega), ?_⟩
  have u5 : (w8.setCell ⟨w.heap.size + 2, 0, none⟩ nv).rowIs (w.heap.size + 2) 39 1 (fun _ => nv) := (World.rowIs.set t5 0 nv).congr fun i hi => by rw [if_pos (by omega)]
  have u2 : (w8.setCell ⟨w.heap.size + 2, 0, none⟩ nv).rowIs (w.heap.size + 1) 39 1 (fun _ => lv) := World.rowIs.of_block t2 (blk_setCell_other _ _ _ _ (fun e => by have : w.heap.size + 1 = w.heap.size + 2 := e; omega))
  refine ⟨kp, nv, Gr Fi W wR, World.rowIs.of_block t1 (keep9 _ (by omega) (by omega)), ?_, ?_, by rw [hkp4, h4], ?_, ?_, ?_, ?_, ?_, ?_⟩
  · rw [h9e]; exact (World.rowIs.set u2 0 kp).congr fun i hi => by rw [if_pos (by omega)]
  · rw [eK]
    refine sumsAt.far hkp (fun _ j hj hl => ?_) (by omega)
    have := lvb j hj
    refine all j hl (fun h => ?_) (npv j (by omega)) (by omega) (by omega)
    rcases h8 j h with h | h
    · exact this.2 h
    · omega
  · rw [h9e]; exact World.rowIs.of_block u5 (blk_setCell_other _ _ _ _ (fun e => by have : w.heap.size + 2 = w.heap.size + 1 := e; omega))
  · rw [eD]
    exact hn8.far (fun j hj => by have := (hn8.block j hj).1; exact keep9 j (by omega) (by omega))
  · rw [eN, eC, show c + (downC ((wayL L.length p).take k) L + callsR O.length) = c + downC ((wayL L.length p).take k) L + callsR O.length by omega]
    refine hb.far (fun j hj hl => ?_) (by omega)
    have hj9 : pv.ownBlock ≠ some j := fun e => by
      rcases hj with hj | hj
      · exact h9 j e hj
      · have := (h6.block j e).2; omega
    have hjr : w.heap.size ≤ j → W0.heap.size + 2 ≤ j := fun hle => by
      rcases hj with hj | hj
      · rcases h8 j hj with h | h
        · have := hF j h; omega
        · exact h
      · have := hj.1; omega
    by_cases hle : w.heap.size ≤ j
    · have := hjr hle
      exact (keep9 j (by omega) (by omega)).trans ((keep8 j (by omega) hj9).trans (bS.block j hl))
    · exact (keep9 j (by omega) (by omega)).trans ((keep8 j (by omega) hj9).trans (bS.block j hl))
  · intro j hj
    rcases hj with hj | hj
    · exact h8 j hj
    · exact Or.inr (by have := hj.1; omega)
  · intro j hj h
    have hnew : pv.ownBlock = some j ∨ j = wS.heap.size := by
      rcases hat with h | h
      · exact Or.inl (h ▸ hj)
      · rw [h] at hj; exact Or.inr (Option.some.inj hj).symm
    rcases hnew with e | e
    · rcases h with h | h
      · exact h9 j e h
      · have := (h6.block j e).2; omega
    · rcases h with h | h
      · have := h7.lt j h; omega
      · omega
  · refine ⟨?_, ?_, ?_, by omega, fun j hj hn => ?_⟩
    · rw [h9e]; exact hg8.os.trans (bS.os.trans (hf.os.trans h10.os))
    · rw [h9e]; exact hg8.tape.trans (bS.tape.trans (hf.tape.trans h10.tape))
    · rw [h9e]; exact hg8.output.trans (bS.output.trans (hf.output.trans h10.output))
    · have hnF : ¬ Fi j := fun h => by
        rcases h8 j h with h | h
        · exact hn (Or.inl h)
        · omega
      exact (all j (by omega) hnF (npv j (by omega)) (fun e => hn (Or.inr (Or.inl e))) (fun e => hn (Or.inr (Or.inr e)))).trans (h10.block j hj hn)
end Go.Proofs.YtkgegihkhdgdoaaDoor

/- tree.Path: its walk. -/
namespace Go.Proofs.YtkgegihkhdgdoaaDoor
set_option linter.unusedSimpArgs false
set_option linter.unusedVariables false
open Go.RowKit Go.Deep Go.Shelf
attribute [local go_sem] Oper.semAt_some

set_option maxHeartbeats 1000000 in
set_option maxRecDepth 100000 in
theorem path_k (F : Nat → Prop) (kv : Value) (N : List Nt) (c : Int) (L : List (List Int)) (lv0 : Value) (at_ : Int) (w : World) (ha : -9223372036854775808 ≤ at_ ∧ at_ ≤ 9223372036854775807) (hk : bkAt kv w F N c) (h : sumsAt w lv0 L) (hvF : 0 < L.length → ∀ j, lv0.ownBlock = some j → ¬ F j)
    (hL : L.length ≤ 1000) (ht : tabIs w) (hF0 : ¬ F 1) (hN : N.length + L.length < 100000) (hc : 0 ≤ c ∧ c < 90000000) :
    Calls Tryd.prog 37 #[kv, lv0, .int .i64 at_] w fun e w' => ∃ v Fi, e = .returned v ∧ newSums w' w.heap.size v (pathI L at_) ∧ bkAt kv w' Fi (downN N (wayI L.length at_) L) (c + downC (wayI L.length at_) L) ∧ (∀ j, Fi j → F j ∨ w.heap.size ≤ j) ∧ (∀ j, v.ownBlock = some j → ¬ Fi j) ∧ Fr F w w' := by
  obtain ⟨ka, rfl⟩ : ∃ ka, kv = .pointer ka := by
    rcases hk with ⟨e, _⟩ | ⟨k, e, _⟩ <;> exact ⟨_, e⟩
  have hFlt := hk.lt
  have hvl : 0 < L.length → ∀ j, lv0.ownBlock = some j → j < w.heap.size := fun h0 j hj => by
    obtain ⟨_, a, cap, rfl, _, _, h5⟩ := h
    obtain ⟨g, o, rfl, hg, _⟩ := h5 h0
    have : g = j := by simpa [Value.ownBlock] using hj
    omega
  have hsl : ∃ a cap, lv0 = .slice a L.length cap := by
    obtain ⟨_, a, cap, e, _⟩ := h; exact ⟨a, cap, e⟩
  obtain ⟨way, hway⟩ : ∃ way, way = wayI L.length at_ := ⟨_, rfl⟩
  have hwl : 0 < way.length → ∃ p : Nat, way = wayL L.length p := fun h0 => by
    rw [hway] at h0 ⊢
    unfold wayI at h0 ⊢
    by_cases e : thereB (L.length : Int) at_ = true
    · rw [if_pos e]; exact ⟨at_.toNat, by rw [Int.toNat_natCast]⟩
    · rw [if_neg e] at h0; simp at h0
  obtain ⟨w3, hw3⟩ : ∃ w3, w3 = ((w.alloc (.cells #[.pointer ka] 62)).alloc (.cells #[lv0] 39)).alloc (.cells #[.slice none 0 0] 39) := ⟨_, rfl⟩
  have s3 : w3.heap.size = w.heap.size + 3 := by rw [hw3]; simp
  have b3 : Below w.heap.size w w3 := by rw [hw3]; exact (((Below.refl _ _).alloc (Nat.le_refl _) _).alloc (by simp) _).alloc (by simp; omega) _
  have x1 : w3.rowIs w.heap.size 62 1 (fun _ => .pointer ka) := by
    have r1 : (w.alloc (.cells #[.pointer ka] 62)).rowIs w.heap.size 62 1 (fun _ => .pointer ka) := rowIs_one _ _ _
    rw [hw3]
    exact (((Below.refl (w.alloc (.cells #[.pointer ka] 62)).heap.size _).alloc (Nat.le_refl _) _).alloc (by simp) _).row r1 (by simp)
  have x2 : w3.rowIs (w.heap.size + 1) 39 1 (fun _ => lv0) := by
    have r1 := rowIs_one (w.alloc (.cells #[.pointer ka] 62)) lv0 39
    rw [World.size_alloc] at r1
    rw [hw3]
    exact ((Below.refl ((w.alloc (.cells #[.pointer ka] 62)).alloc (.cells #[lv0] 39)).heap.size _).alloc (Nat.le_refl _) _).row r1 (by simp)
  have x3 : w3.rowIs (w.heap.size + 2) 39 1 (fun _ => .slice none 0 0) := by
    have r1 := rowIs_one ((w.alloc (.cells #[.pointer ka] 62)).alloc (.cells #[lv0] 39)) (.slice none 0 0) 39
    rw [World.size_alloc, World.size_alloc] at r1
    rw [hw3]; exact r1
  have cl3 := x2.cell (i := 0) (by omega)
  obtain ⟨W0, hW0⟩ : ∃ W0, W0 = wayW (L.length : Int) at_ w3 := ⟨_, rfl⟩
  have X3 := way_any (L.length : Int) at_ w3
  rw [← hW0] at X3
  have b0 : Below w3.heap.size w3 W0 := by rw [hW0]; unfold wayW; exact ((Below.refl _ _).alloc (Nat.le_refl _) _).alloc (by simp) _
  have hca : W0.cell? ⟨w3.heap.size, 0, none⟩ = some (.int .i64 (L.length : Int)) := by
    have r1 : (w3.alloc (.cells #[.int .i64 (L.length : Int)] 3)).rowIs w3.heap.size 3 1 (fun _ => .int .i64 (L.length : Int)) := rowIs_one _ _ _
    have bb : Below (w3.alloc (.cells #[.int .i64 (L.length : Int)] 3)).heap.size (w3.alloc (.cells #[.int .i64 (L.length : Int)] 3)) W0 := by rw [hW0]; unfold wayW; exact (Below.refl _ _).alloc (Nat.le_refl _) _
    exact (bb.row r1 (by simp)).cell (i := 0) (by omega)
  have hcb : W0.cell? ⟨w3.heap.size + 1, 0, none⟩ = some (.int .i64 at_) := by
    have r1 : W0.rowIs (w3.alloc (.cells #[.int .i64 (L.length : Int)] 3)).heap.size 3 1 (fun _ => .int .i64 at_) := by rw [hW0]; unfold wayW; exact rowIs_one _ _ _
    have := r1.cell (i := 0) (by omega)
    rwa [World.size_alloc] at this
  have sz0 : W0.heap.size = w3.heap.size + 2 := by rw [hW0]; unfold wayW; simp
  have HS := way1_hands 2 (L.length : Int) at_ (by omega) ha w3.heap.size (w3.heap.size + 1) W0 (by omega) (by omega) hca hcb
  rw [← hway] at HS
  have P0 : pathAt w W0 F (.pointer ka) N c lv0 L way 0 W0 := by
    have b00 := b3.trans (b0.mono (by omega))
    refine ⟨lv0, .slice none 0 0, F, b0.row x1 (by omega), b0.row x2 (by omega), ?_, rfl, b0.row x3 (by omega), newSums.nil _ _, ?_, fun j hj => Or.inl hj, fun j hj => (by cases hj), Fr.refl _ _⟩
    · rw [List.take_zero]; exact h.below b00 (Nat.le_refl _)
    · rw [List.take_zero]
      show bkAt (.pointer ka) W0 F N (c + 0)
      rw [Int.add_zero]; exact hk.below b00 (Nat.le_refl _)
  have t0 : tabIs W0 := ht.below (b3.trans (b0.mono (by omega))) ht.1
  have hw0 := ht.1
  have s0 : W0.heap.size = w.heap.size + 5 := by omega
  have B0 : Hid (Below w.heap.size w W0) := (show Below w.heap.size w W0 from b3.trans (b0.mono (by omega)))
  have HST : Hid _ := HS
  have HP0 : Hid _ := P0
  have T0 : Hid _ := t0
  have HW0 : Hid _ := hw0
  have S0 : Hid _ := s0
  have S3 : Hid _ := s3
  have HV : Hid _ := hvl
  have HVF : Hid _ := hvF
  have HFL : Hid _ := hFlt
  have HF0 : Hid _ := hF0
  have HN : Hid _ := hN
  have HC : Hid _ := hc
  have HWL : Hid _ := hwl
  have HWAY : Hid _ := hway
  obtain ⟨va, vc, rfl⟩ := hsl
  have q0 : (L.length : Int) ≤ 1000 := by omega
  refine callsIn_wide (n := 3) |>.1 ?_
  refine callsIn_of_wp_marks Tryd.func37 rfl trivial ?_ rfl
  refine wpIn_wide.2 ?_
  simp only [Tryd.ntmps37, List.size_toArray, List.length_cons, List.length_nil, Nat.reduceAdd, Nat.reduceSub, Array.replicate_succ, Array.replicate_zero, List.push_toArray, List.append_toArray, List.nil_append, List.cons_append]
  clear HS P0 t0 hw0 s0 hvl hvF hFlt hF0 hN hc hwl hway hca hcb b0 b3 x1 x2 x3 hW0 sz0 s3 hk h ht
  go_upto_region 2 with fail
  rw [← hw3]
  clear hw3
  go_wp2_with fail
  refine X3.mono ?_
  rintro e w' ⟨rfl, hw⟩
  obtain rfl := hw.symm
  clear X3 hw cl3
  go_wp2_with fail
  refine (wpIn_wide (n := 3)).1 ?_
  refine wpIn_range_at (gf := 86) (lb := #[.pointer (some ⟨w3.heap.size, 0, none⟩), .pointer (some ⟨w3.heap.size + 1, 0, none⟩)]) (encs := stepV) (ys := way) rfl (enters_of Tryd.func86 (by kernel_rfl) rfl) HST.out (fun _ => rfl)
    (fun k W => pathAt w W0 F (.pointer ka) N c (.slice va L.length vc) L way k W)
    (fun k W x y h hx => h.keep (by have := S0.out; omega) HFL.out HV.out ⟨rfl, rfl, rfl⟩ (by simp [World.putObj]) (fun j _ h1 h2 => putObj_block W _ _ h2))
    (fun k W h => h.keep (by have := S0.out; omega) HFL.out HV.out ⟨rfl, rfl, rfl⟩ (Nat.le_refl _) (fun j _ _ _ => rfl))
    (fun o o' => pathAt.keep HP0.out (by have := S0.out; omega) HFL.out HV.out ⟨rfl, rfl, rfl⟩ (by simp; omega) (fun j hj _ _ => (((Below.refl W0.heap.size W0).alloc (Nat.le_refl _) o).alloc (by simp) o').block j hj))
    (fun x => { tmps := #[.pointer ka, .slice va L.length vc, .int .i64 at_, .pointer (some ⟨w.heap.size, 0, none⟩), .pointer (some ⟨w.heap.size + 1, 0, none⟩), undef, .slice none 0 0, .pointer (some ⟨w.heap.size + 2, 0, none⟩), .int .i64 (x.1 : Int), .bool x.2, undef, undef, .slice va L.length vc, .int .i64 L.length, .int .i64 at_,
      .func (.func 86) #[] #[.pointer (some ⟨w3.heap.size, 0, none⟩), .pointer (some ⟨w3.heap.size + 1, 0, none⟩)], .int .i64 (x.1 : Int), .bool x.2, undef, undef, undef, undef, undef, undef, undef, undef, undef, undef, undef, undef, undef, undef, undef, undef, undef, undef, undef, undef, undef, undef, undef, undef], defers := [] }) ?assign ?body ?done
  case assign =>
    intro l x W K hK
    simp only [stepV, List.zip_toArray, List.zip_cons_cons, List.zip_nil_left, List.zip_nil_right, List.foldl_toArray, List.foldl_cons, List.foldl_nil, List.setIfInBounds_toArray, List.set_cons_succ, List.set_cons_zero]
    gi_wp2
    exact hK
  case body =>
    rintro l k hk W x0 hP hDd hDl
    obtain ⟨p, hp⟩ := HWL.out (by omega)
    obtain ⟨lv, pv, Fi, h1, h2, h3, h4, h5, h6, h7, h8, h9, h10⟩ := hP
    have hx : (wayL L.length p)[k]? = some way[k] := by rw [← hp]; exact List.getElem?_eq_getElem hk
    obtain ⟨x, hxe⟩ : ∃ x, x = way[k] := ⟨_, rfl⟩
    rw [← hxe] at hx ⊢
    obtain ⟨_, _, _, _, d5⟩ := down_at k L p N (by rw [← hp]; omega) (by
      have := way_two (show 0 < (wayL L.length p).length by rw [← hp]; omega)
      omega)
    obtain ⟨d6, d7⟩ := d5 x hx
    rw [hp] at h3 h6 h7
    have dk := keptF_le ((wayL L.length p).take k) L
    obtain ⟨K, hK⟩ : ∃ K, K = keptF ((wayL L.length p).take k) L := ⟨_, rfl⟩
    have h3k := h3
    rw [← hK] at d6 d7 h3k dk
    have hhf := halfN_is d6
    obtain ⟨ua, ra, sa, oa, xa, ya, rfl⟩ := h3k.to' x.1 (by omega)
    obtain ⟨ub, rb, sb, ob, xb, yb, rfl⟩ := h3k.from' x.1 (by omega)
    have hslv : ∃ a cap, lv = .slice a K.length cap := by
      obtain ⟨_, a, cap, e, _⟩ := h3k; exact ⟨a, cap, e⟩
    obtain ⟨la, lc, rfl⟩ := hslv
    have hD : W0.heap.size + 1 < W.heap.size := (Array.getElem?_eq_some_iff.1 hDl).1
    have c2 := h2.cell (i := 0) (by omega)
    have hL0 : 0 < L.length := by omega
    obtain ⟨wd, hwd⟩ : ∃ wd, wd = W.drew.drew := ⟨_, rfl⟩
    have bwd : Below W.heap.size W wd := by rw [hwd]; exact ((Below.refl W.heap.size W).drew).drew
    have hpv : ∃ pa pn pc, pv = .slice pa pn pc := by
      obtain ⟨pa, pc, e, _⟩ := ownsRow_slice h6.2; exact ⟨pa, _, pc, e⟩
    obtain ⟨pa, pn, pc, rfl⟩ := hpv
    have STEP := fun (ov kp : Value) (ho : sumsAt wd ov (otherL x (keptF ((wayL L.length p).take k) L))) (ho4 : ov.ownBlock = (Value.slice la K.length lc).ownBlock) (hkp : sumsAt wd kp (keptL x (keptF ((wayL L.length p).take k) L))) (hkp4 : kp.ownBlock = (Value.slice la K.length lc).ownBlock) =>
      pathAt.step (W := wd) (by have := S0.out; omega) HFL.out HF0.out T0.out HW0.out (fun j hj => ⟨HV.out hL0 j hj, HVF.out hL0 j hj⟩) hx hL HN.out HC.out (hwd ▸ h1) (hwd ▸ h2) (hwd ▸ h3) h4 (hwd ▸ h5) (hwd ▸ h6) (hwd ▸ (bkAt.drew (bkAt.drew h7))) h8 h9 (hwd ▸ h10.drew.drew) (hwd ▸ hD) ov kp ho ho4 hkp hkp4
    have hsa := sa.below bwd (Nat.le_refl _)
    have hsb := sb.below bwd (Nat.le_refl _)
    have c1 := h1.cell (i := 0) (by omega)
    have c5 := (World.rowIs.of_block (w' := wd) h5 (by rw [hwd]; rfl)).cell (i := 0) (by omega)
    have hDe : wd.heap[W0.heap.size]? = W.drew.heap[W0.heap.size]? ∧ wd.heap[W0.heap.size + 1]? = W.drew.heap[W0.heap.size + 1]? := by rw [hwd]; exact ⟨rfl, rfl⟩
    have HDE : Hid _ := hDe
    have HWD : Hid _ := hwd
    have C1 : Hid _ := c1
    have C5 : Hid _ := c5
    obtain ⟨xn, xl⟩ := x
    simp only at d7 ra rb hsa hsb ⊢
    have HIN : Hid ((0 : Int) ≤ (xn : Int) ∧ (xn : Int) < (K.length : Int)) := (show (0 : Int) ≤ (xn : Int) ∧ (xn : Int) < (K.length : Int) from by omega)
    have HSTEP : Hid _ := STEP
    have HK : Hid _ := hK
    have HP : Hid _ := hp
    have HSA : Hid _ := hsa
    have HSB : Hid _ := hsb
    have HOA : Hid _ := oa
    have HOB : Hid _ := ob
    clear STEP hwd bwd hDe c1 c5 hK hp hsa hsb oa ob h1 h2 h3 h4 h5 h6 h7 h8 h9 h10 h3k hD hDd hDl hx d5 d6 d7 dk hhf sa sb hxe HWL
    gi_wp2_with fail
    refine wpIn_region_round (S := fun w' => w'.cell? ⟨w.heap.size + 1, 0, none⟩ = some (.slice la K.length lc)) (by kernel_rfl) (by kernel_rfl) c2 (fun hHeld => ?_)
    refine take_op (i := 0) (v := ?va0) rfl (by kernel_rfl) (by kernel_rfl) (by kernel_rfl) (fun _ _ _ h => h) rfl hHeld ?ya0 ?ra0
    case ya0 => (intro wz hz; go_simp; first | done | with_reducible rfl)
    try simp only [Act.put, List.setIfInBounds_toArray, List.set_cons_zero, List.set_cons_succ]
    refine take_op (i := 1) (v := ?va1) rfl (by kernel_rfl) (by kernel_rfl) (by kernel_rfl) (fun _ _ _ h => h) rfl hHeld ?ya1 ?ra1
    case ya1 => (intro wz hz; go_simp; first | done | with_reducible rfl)
    try simp only [Act.put, List.setIfInBounds_toArray, List.set_cons_zero, List.set_cons_succ]
    refine take_op (i := 2) (v := ?va2) rfl (by kernel_rfl) (by kernel_rfl) (by kernel_rfl) (fun _ _ _ h => h) rfl hHeld ?ya2 ?ra2
    case ya2 => (intro wz hz; have hcz := ra wz; go_simp; first | done | with_reducible rfl)
    try simp only [Act.put, List.setIfInBounds_toArray, List.set_cons_zero, List.set_cons_succ]
    refine take_op (i := 3) (v := ?va3) rfl (by kernel_rfl) (by kernel_rfl) (by kernel_rfl) (fun _ _ _ h => h) rfl hHeld ?ya3 ?ra3
    case ya3 => (intro wz hz; go_simp; first | done | with_reducible rfl)
    try simp only [Act.put, List.setIfInBounds_toArray, List.set_cons_zero, List.set_cons_succ]
    refine take_op (i := 4) (v := ?va4) rfl (by kernel_rfl) (by kernel_rfl) (by kernel_rfl) (fun _ _ _ h => h) rfl hHeld ?ya4 ?ra4
    case ya4 => (intro wz hz; go_simp; first | done | with_reducible rfl)
    try simp only [Act.put, List.setIfInBounds_toArray, List.set_cons_zero, List.set_cons_succ]
    refine take_op (i := 5) (v := ?va5) rfl (by kernel_rfl) (by kernel_rfl) (by kernel_rfl) (fun _ _ _ h => h) rfl hHeld ?ya5 ?ra5
    case ya5 => (intro wz hz; have hcz := rb wz; go_simp; first | done | with_reducible rfl)
    try simp only [Act.put, List.setIfInBounds_toArray, List.set_cons_zero, List.set_cons_succ]
    refine take_op (i := 6) (v := ?va6) rfl (by kernel_rfl) (by kernel_rfl) (by kernel_rfl) (fun _ _ _ h => h) rfl hHeld ?ya6 ?ra6
    case ya6 => (intro wz hz; go_simp; first | done | with_reducible rfl)
    try simp only [Act.put, List.setIfInBounds_toArray, List.set_cons_zero, List.set_cons_succ]
    refine take_op (i := 7) (v := ?va7) rfl (by kernel_rfl) (by kernel_rfl) (by kernel_rfl) (fun _ _ _ h => h) rfl hHeld ?ya7 ?ra7
    case ya7 => (intro wz hz; go_simp; first | done | with_reducible rfl)
    try simp only [Act.put, List.setIfInBounds_toArray, List.set_cons_zero, List.set_cons_succ]
    refine wpAnyH_done (by kernel_rfl) ?_ _
    refine Calm.normal ?_
    clear c2 hHeld
    cases xl with
    | true =>
      have X7 := HSTEP.out (.slice xb (K.length - xn) yb) (.slice xa xn ya) (by unfold otherL; rw [if_pos rfl, ← HK.out]; exact HSB.out) HOB.out (by unfold keptL; rw [if_pos rfl, ← HK.out]; exact HSA.out) HOA.out
      generalize rootS (otherL (xn, true) (keptF ((wayL L.length p).take k) L)) = q at X7
      rw [← HP.out] at X7
      clear HSTEP HSA HSB HOA HOB HK HP ra rb
      gi_wp2_with fail
      refine wpIn_region_round (S := fun w' => w'.cell? ⟨w.heap.size, 0, none⟩ = some (.pointer ka)) (by kernel_rfl) (by kernel_rfl) C1.out (fun hHeld => ?_)
      rw [← HWD.out] at hHeld ⊢
      refine take_op (i := 1) (v := ?vpm1) rfl (by kernel_rfl) (by kernel_rfl) (by kernel_rfl) (fun _ _ _ h => h) rfl hHeld ?ypm1 ?rpm1
      case ypm1 => (intro wz hz; go_simp; first | done | with_reducible rfl)
      try simp only [Act.put, List.setIfInBounds_toArray, List.set_cons_zero, List.set_cons_succ]
      refine take_op (i := 2) (v := ?vpm2) rfl (by kernel_rfl) (by kernel_rfl) (by kernel_rfl) (fun _ _ _ h => h) rfl hHeld ?ypm2 ?rpm2
      case ypm2 => (intro wz hz; go_simp; first | done | with_reducible rfl)
      try simp only [Act.put, List.setIfInBounds_toArray, List.set_cons_zero, List.set_cons_succ]
      refine take_op (i := 6) (v := ?vpm6) rfl (by kernel_rfl) (by kernel_rfl) (by kernel_rfl) (fun _ _ _ h => h) rfl hHeld ?ypm6 ?rpm6
      case ypm6 => (intro wz hz; go_simp; first | done | with_reducible rfl)
      try simp only [Act.put, List.setIfInBounds_toArray, List.set_cons_zero, List.set_cons_succ]
      refine take_pair (i := 0) (j := 3) rfl rfl (by kernel_rfl) rfl rfl ?p1 ?p2
      case p1 =>
        intro K hK
        refine wp_of_run (v := .slice pa pn pc) (w' := wd) ?p3 ?_
        case p3 => (have hcz := C5.out; go_simp; first | done | with_reducible rfl)
        refine hK.out _ _ hHeld (fun hHeld => ?_)
        clear hK K
        try simp only [Act.put, List.setIfInBounds_toArray, List.set_cons_zero, List.set_cons_succ]
        refine take_one (i := 3) rfl (by kernel_rfl) rfl (fun K hK => ?_)
        go_simp
        refine Calls.mono X7 ?_
        rintro e wR ⟨rfl, r5, r1, hS⟩
        obtain ⟨wS, hwS⟩ : ∃ wS, wS = wR.alloc (.cells (rowV 32 (arrV q)) 32) := ⟨_, rfl⟩
        obtain ⟨s5, s1, aa, am, ac, w8, hr, t5, t2, t1, h9⟩ := hS wS hwS
        clear X7 hS
        refine hK.out _ _ (r1.cell (i := 0) (by omega)) (fun hHeld => ?_)
        clear hK K
        try simp only [Act.put, List.setIfInBounds_toArray, List.set_cons_zero, List.set_cons_succ]
        refine take_one (i := 4) rfl (by kernel_rfl) rfl (fun K hK => ?_)
        refine wp_of_run (w' := wS) (by rw [hwS]; exact exec_bslice1' 39 1 0 (.tmp 28) _ rfl rfl (build_one (arrV q) wR)) ?_
        refine hK.out _ _ (s1.cell (i := 0) (by omega)) (fun hHeld => ?_)
        clear hK K
        try simp only [Act.put, List.setIfInBounds_toArray, List.set_cons_zero, List.set_cons_succ]
        refine take_one (i := 5) rfl (by kernel_rfl) rfl (fun K hK => ?_)
        refine wp_append_run (.tmp 25) (.tmp 29) _ rfl rfl rfl hr ?_
        refine hK.out _ _ (t1.cell (i := 0) (by omega)) (fun hHeld => ?_)
        clear hK K hr
        try simp only [Act.put, List.setIfInBounds_toArray, List.set_cons_zero, List.set_cons_succ]
        have c8 := t5.cell (i := 0) (by omega)
        have f8 := t5.frozen 0
        have y1 : (w8.setCell ⟨w.heap.size + 2, 0, none⟩ (.slice aa am ac)).rowIs w.heap.size 62 1 (fun _ => .pointer ka) := World.rowIs.of_block t1 (blk_setCell_other _ _ _ _ (fun e => by have : w.heap.size = w.heap.size + 2 := e; omega))
        have y2 : (w8.setCell ⟨w.heap.size + 2, 0, none⟩ (.slice aa am ac)).rowIs (w.heap.size + 1) 39 1 (fun _ => .slice la K.length lc) := World.rowIs.of_block t2 (blk_setCell_other _ _ _ _ (fun e => by have : w.heap.size + 1 = w.heap.size + 2 := e; omega))
        obtain ⟨w9, hw9⟩ : ∃ w9, w9 = (w8.setCell ⟨w.heap.size + 2, 0, none⟩ (.slice aa am ac)).setCell ⟨w.heap.size + 1, 0, none⟩ (.slice xa xn ya) := ⟨_, rfl⟩
        obtain ⟨g1, g2, g3, g4⟩ := h9 w9 hw9
        have G2 : Hid _ := g2
        have G3 : Hid _ := g3
        have G4 : Hid _ := g4
        clear g2 g3 g4 h9
        refine take_one (i := 7) rfl (by kernel_rfl) rfl (fun K hK => ?_)
        go_simp
        refine hK.out _ _ (y1.cell (i := 0) (by omega)) (fun hHeld => ?_)
        clear hK K c8 f8
        try simp only [Act.put, List.setIfInBounds_toArray, List.set_cons_zero, List.set_cons_succ]
        have c9 := y2.cell (i := 0) (by omega)
        have f9 := y2.frozen 0
        refine take_one (i := 8) rfl (by kernel_rfl) rfl (fun K hK => ?_)
        go_simp
        rw [← hw9]
        refine hK.out _ _ (g1.cell (i := 0) (by omega)) (fun hHeld => ?_)
        clear hK K c9 f9
        try simp only [Act.put, List.setIfInBounds_toArray, List.set_cons_zero, List.set_cons_succ]
        refine wpAnyH_done (by kernel_rfl) ?_ _
        refine Calm.normal ?_
        clear hw9 y1 y2 g1 t1 t2 t5 hHeld
        gi_wp2
        exact ⟨G2.out.trans HDE.out.1, G3.out.trans HDE.out.2, G4.out⟩
      case p2 =>
        intro K hK
        go_simp
        refine Calls.mono X7 ?_
        rintro e wR ⟨rfl, r5, r1, hS⟩
        obtain ⟨wS, hwS⟩ : ∃ wS, wS = wR.alloc (.cells (rowV 32 (arrV q)) 32) := ⟨_, rfl⟩
        obtain ⟨s5, s1, aa, am, ac, w8, hr, t5, t2, t1, h9⟩ := hS wS hwS
        clear X7 hS
        refine hK.out _ _ (r1.cell (i := 0) (by omega)) (fun hHeld => ?_)
        clear hK K
        try simp only [Act.put, List.setIfInBounds_toArray, List.set_cons_zero, List.set_cons_succ]
        refine take_pair (i := 0) (j := 4) rfl rfl (by kernel_rfl) rfl rfl ?p4 ?p5
        case p4 =>
          intro K hK
          refine wp_of_run (v := .slice pa pn pc) (w' := wR) ?p6 ?_
          case p6 => (have hcz := r5.cell (i := 0) (by omega); go_simp; first | done | with_reducible rfl)
          refine hK.out _ _ hHeld (fun hHeld => ?_)
          clear hK K
          try simp only [Act.put, List.setIfInBounds_toArray, List.set_cons_zero, List.set_cons_succ]
          refine take_one (i := 4) rfl (by kernel_rfl) rfl (fun K hK => ?_)
          refine wp_of_run (w' := wS) (by rw [hwS]; exact exec_bslice1' 39 1 0 (.tmp 28) _ rfl rfl (build_one (arrV q) wR)) ?_
          refine hK.out _ _ (s1.cell (i := 0) (by omega)) (fun hHeld => ?_)
          clear hK K
          try simp only [Act.put, List.setIfInBounds_toArray, List.set_cons_zero, List.set_cons_succ]
          refine take_one (i := 5) rfl (by kernel_rfl) rfl (fun K hK => ?_)
          refine wp_append_run (.tmp 25) (.tmp 29) _ rfl rfl rfl hr ?_
          refine hK.out _ _ (t1.cell (i := 0) (by omega)) (fun hHeld => ?_)
          clear hK K hr
          try simp only [Act.put, List.setIfInBounds_toArray, List.set_cons_zero, List.set_cons_succ]
          have c8 := t5.cell (i := 0) (by omega)
          have f8 := t5.frozen 0
          have y1 : (w8.setCell ⟨w.heap.size + 2, 0, none⟩ (.slice aa am ac)).rowIs w.heap.size 62 1 (fun _ => .pointer ka) := World.rowIs.of_block t1 (blk_setCell_other _ _ _ _ (fun e => by have : w.heap.size = w.heap.size + 2 := e; omega))
          have y2 : (w8.setCell ⟨w.heap.size + 2, 0, none⟩ (.slice aa am ac)).rowIs (w.heap.size + 1) 39 1 (fun _ => .slice la K.length lc) := World.rowIs.of_block t2 (blk_setCell_other _ _ _ _ (fun e => by have : w.heap.size + 1 = w.heap.size + 2 := e; omega))
          obtain ⟨w9, hw9⟩ : ∃ w9, w9 = (w8.setCell ⟨w.heap.size + 2, 0, none⟩ (.slice aa am ac)).setCell ⟨w.heap.size + 1, 0, none⟩ (.slice xa xn ya) := ⟨_, rfl⟩
          obtain ⟨g1, g2, g3, g4⟩ := h9 w9 hw9
          have G2 : Hid _ := g2
          have G3 : Hid _ := g3
          have G4 : Hid _ := g4
          clear g2 g3 g4 h9
          refine take_one (i := 7) rfl (by kernel_rfl) rfl (fun K hK => ?_)
          go_simp
          refine hK.out _ _ (y1.cell (i := 0) (by omega)) (fun hHeld => ?_)
          clear hK K c8 f8
          try simp only [Act.put, List.setIfInBounds_toArray, List.set_cons_zero, List.set_cons_succ]
          have c9 := y2.cell (i := 0) (by omega)
          have f9 := y2.frozen 0
          refine take_one (i := 8) rfl (by kernel_rfl) rfl (fun K hK => ?_)
          go_simp
          rw [← hw9]
          refine hK.out _ _ (g1.cell (i := 0) (by omega)) (fun hHeld => ?_)
          clear hK K c9 f9
          try simp only [Act.put, List.setIfInBounds_toArray, List.set_cons_zero, List.set_cons_succ]
          refine wpAnyH_done (by kernel_rfl) ?_ _
          refine Calm.normal ?_
          clear hw9 y1 y2 g1 t1 t2 t5 hHeld
          gi_wp2
          exact ⟨G2.out.trans HDE.out.1, G3.out.trans HDE.out.2, G4.out⟩
        case p5 =>
          intro K hK
          refine wp_of_run (w' := wS) (by rw [hwS]; exact exec_bslice1' 39 1 0 (.tmp 28) _ rfl rfl (build_one (arrV q) wR)) ?_
          refine hK.out _ _ (s1.cell (i := 0) (by omega)) (fun hHeld => ?_)
          clear hK K
          try simp only [Act.put, List.setIfInBounds_toArray, List.set_cons_zero, List.set_cons_succ]
          refine take_run (i := 0) (v := .slice pa pn pc) (w' := wS) rfl (by kernel_rfl) rfl ?p7 hHeld ?_
          case p7 => (clear hwS; have hcz := s5.cell (i := 0) (by omega); go_simp; first | done | with_reducible rfl)
          try simp only [Act.put, List.setIfInBounds_toArray, List.set_cons_zero, List.set_cons_succ]
          refine take_one (i := 5) rfl (by kernel_rfl) rfl (fun K hK => ?_)
          refine wp_append_run (.tmp 25) (.tmp 29) _ rfl rfl rfl hr ?_
          refine hK.out _ _ (t1.cell (i := 0) (by omega)) (fun hHeld => ?_)
          clear hK K hr
          try simp only [Act.put, List.setIfInBounds_toArray, List.set_cons_zero, List.set_cons_succ]
          have c8 := t5.cell (i := 0) (by omega)
          have f8 := t5.frozen 0
          have y1 : (w8.setCell ⟨w.heap.size + 2, 0, none⟩ (.slice aa am ac)).rowIs w.heap.size 62 1 (fun _ => .pointer ka) := World.rowIs.of_block t1 (blk_setCell_other _ _ _ _ (fun e => by have : w.heap.size = w.heap.size + 2 := e; omega))
          have y2 : (w8.setCell ⟨w.heap.size + 2, 0, none⟩ (.slice aa am ac)).rowIs (w.heap.size + 1) 39 1 (fun _ => .slice la K.length lc) := World.rowIs.of_block t2 (blk_setCell_other _ _ _ _ (fun e => by have : w.heap.size + 1 = w.heap.size + 2 := e; omega))
          obtain ⟨w9, hw9⟩ : ∃ w9, w9 = (w8.setCell ⟨w.heap.size + 2, 0, none⟩ (.slice aa am ac)).setCell ⟨w.heap.size + 1, 0, none⟩ (.slice xa xn ya) := ⟨_, rfl⟩
          obtain ⟨g1, g2, g3, g4⟩ := h9 w9 hw9
          have G2 : Hid _ := g2
          have G3 : Hid _ := g3
          have G4 : Hid _ := g4
          clear g2 g3 g4 h9
          refine take_one (i := 7) rfl (by kernel_rfl) rfl (fun K hK => ?_)
          go_simp
          refine hK.out _ _ (y1.cell (i := 0) (by omega)) (fun hHeld => ?_)
          clear hK K c8 f8
          try simp only [Act.put, List.setIfInBounds_toArray, List.set_cons_zero, List.set_cons_succ]
          have c9 := y2.cell (i := 0) (by omega)
          have f9 := y2.frozen 0
          refine take_one (i := 8) rfl (by kernel_rfl) rfl (fun K hK => ?_)
          go_simp
          rw [← hw9]
          refine hK.out _ _ (g1.cell (i := 0) (by omega)) (fun hHeld => ?_)
          clear hK K c9 f9
          try simp only [Act.put, List.setIfInBounds_toArray, List.set_cons_zero, List.set_cons_succ]
          refine wpAnyH_done (by kernel_rfl) ?_ _
          refine Calm.normal ?_
          clear hw9 y1 y2 g1 t1 t2 t5 hHeld
          gi_wp2
          exact ⟨G2.out.trans HDE.out.1, G3.out.trans HDE.out.2, G4.out⟩
    | false =>
      have X7 := HSTEP.out (.slice xa xn ya) (.slice xb (K.length - xn) yb) (by unfold otherL; rw [if_neg (by simp), ← HK.out]; exact HSA.out) HOA.out (by unfold keptL; rw [if_neg (by simp), ← HK.out]; exact HSB.out) HOB.out
      generalize rootS (otherL (xn, false) (keptF ((wayL L.length p).take k) L)) = q at X7
      rw [← HP.out] at X7
      clear HSTEP HSA HSB HOA HOB HK HP ra rb
      gi_wp2_with fail
      refine wpIn_region_round (S := fun w' => w'.cell? ⟨w.heap.size, 0, none⟩ = some (.pointer ka)) (by kernel_rfl) (by kernel_rfl) C1.out (fun hHeld => ?_)
      rw [← HWD.out] at hHeld ⊢
      refine take_op (i := 1) (v := ?vqm1) rfl (by kernel_rfl) (by kernel_rfl) (by kernel_rfl) (fun _ _ _ h => h) rfl hHeld ?yqm1 ?rqm1
      case yqm1 => (intro wz hz; go_simp; first | done | with_reducible rfl)
      try simp only [Act.put, List.setIfInBounds_toArray, List.set_cons_zero, List.set_cons_succ]
      refine take_op (i := 2) (v := ?vqm2) rfl (by kernel_rfl) (by kernel_rfl) (by kernel_rfl) (fun _ _ _ h => h) rfl hHeld ?yqm2 ?rqm2
      case yqm2 => (intro wz hz; go_simp; first | done | with_reducible rfl)
      try simp only [Act.put, List.setIfInBounds_toArray, List.set_cons_zero, List.set_cons_succ]
      refine take_op (i := 6) (v := ?vqm6) rfl (by kernel_rfl) (by kernel_rfl) (by kernel_rfl) (fun _ _ _ h => h) rfl hHeld ?yqm6 ?rqm6
      case yqm6 => (intro wz hz; go_simp; first | done | with_reducible rfl)
      try simp only [Act.put, List.setIfInBounds_toArray, List.set_cons_zero, List.set_cons_succ]
      refine take_pair (i := 0) (j := 3) rfl rfl (by kernel_rfl) rfl rfl ?q1 ?q2
      case q1 =>
        intro K hK
        refine wp_of_run (v := .slice pa pn pc) (w' := wd) ?q3 ?_
        case q3 => (have hcz := C5.out; go_simp; first | done | with_reducible rfl)
        refine hK.out _ _ hHeld (fun hHeld => ?_)
        clear hK K
        try simp only [Act.put, List.setIfInBounds_toArray, List.set_cons_zero, List.set_cons_succ]
        refine take_one (i := 3) rfl (by kernel_rfl) rfl (fun K hK => ?_)
        go_simp
        refine Calls.mono X7 ?_
        rintro e wR ⟨rfl, r5, r1, hS⟩
        obtain ⟨wS, hwS⟩ : ∃ wS, wS = wR.alloc (.cells (rowV 32 (arrV q)) 32) := ⟨_, rfl⟩
        obtain ⟨s5, s1, aa, am, ac, w8, hr, t5, t2, t1, h9⟩ := hS wS hwS
        clear X7 hS
        refine hK.out _ _ (r1.cell (i := 0) (by omega)) (fun hHeld => ?_)
        clear hK K
        try simp only [Act.put, List.setIfInBounds_toArray, List.set_cons_zero, List.set_cons_succ]
        refine take_one (i := 4) rfl (by kernel_rfl) rfl (fun K hK => ?_)
        refine wp_of_run (w' := wS) (by rw [hwS]; exact exec_bslice1' 39 1 0 (.tmp 35) _ rfl rfl (build_one (arrV q) wR)) ?_
        refine hK.out _ _ (s1.cell (i := 0) (by omega)) (fun hHeld => ?_)
        clear hK K
        try simp only [Act.put, List.setIfInBounds_toArray, List.set_cons_zero, List.set_cons_succ]
        refine take_one (i := 5) rfl (by kernel_rfl) rfl (fun K hK => ?_)
        refine wp_append_run (.tmp 32) (.tmp 36) _ rfl rfl rfl hr ?_
        refine hK.out _ _ (t1.cell (i := 0) (by omega)) (fun hHeld => ?_)
        clear hK K hr
        try simp only [Act.put, List.setIfInBounds_toArray, List.set_cons_zero, List.set_cons_succ]
        have c8 := t5.cell (i := 0) (by omega)
        have f8 := t5.frozen 0
        have y1 : (w8.setCell ⟨w.heap.size + 2, 0, none⟩ (.slice aa am ac)).rowIs w.heap.size 62 1 (fun _ => .pointer ka) := World.rowIs.of_block t1 (blk_setCell_other _ _ _ _ (fun e => by have : w.heap.size = w.heap.size + 2 := e; omega))
        have y2 : (w8.setCell ⟨w.heap.size + 2, 0, none⟩ (.slice aa am ac)).rowIs (w.heap.size + 1) 39 1 (fun _ => .slice la K.length lc) := World.rowIs.of_block t2 (blk_setCell_other _ _ _ _ (fun e => by have : w.heap.size + 1 = w.heap.size + 2 := e; omega))
        obtain ⟨w9, hw9⟩ : ∃ w9, w9 = (w8.setCell ⟨w.heap.size + 2, 0, none⟩ (.slice aa am ac)).setCell ⟨w.heap.size + 1, 0, none⟩ (.slice xb (K.length - xn) yb) := ⟨_, rfl⟩
        obtain ⟨g1, g2, g3, g4⟩ := h9 w9 hw9
        have G2 : Hid _ := g2
        have G3 : Hid _ := g3
        have G4 : Hid _ := g4
        clear g2 g3 g4 h9
        refine take_one (i := 7) rfl (by kernel_rfl) rfl (fun K hK => ?_)
        go_simp
        refine hK.out _ _ (y1.cell (i := 0) (by omega)) (fun hHeld => ?_)
        clear hK K c8 f8
        try simp only [Act.put, List.setIfInBounds_toArray, List.set_cons_zero, List.set_cons_succ]
        have c9 := y2.cell (i := 0) (by omega)
        have f9 := y2.frozen 0
        refine take_one (i := 8) rfl (by kernel_rfl) rfl (fun K hK => ?_)
        go_simp
        rw [← hw9]
        refine hK.out _ _ (g1.cell (i := 0) (by omega)) (fun hHeld => ?_)
        clear hK K c9 f9
        try simp only [Act.put, List.setIfInBounds_toArray, List.set_cons_zero, List.set_cons_succ]
        refine wpAnyH_done (by kernel_rfl) ?_ _
        refine Calm.normal ?_
        clear hw9 y1 y2 g1 t1 t2 t5 hHeld
        gi_wp2
        exact ⟨G2.out.trans HDE.out.1, G3.out.trans HDE.out.2, G4.out⟩
      case q2 =>
        intro K hK
        go_simp
        refine Calls.mono X7 ?_
        rintro e wR ⟨rfl, r5, r1, hS⟩
        obtain ⟨wS, hwS⟩ : ∃ wS, wS = wR.alloc (.cells (rowV 32 (arrV q)) 32) := ⟨_, rfl⟩
        obtain ⟨s5, s1, aa, am, ac, w8, hr, t5, t2, t1, h9⟩ := hS wS hwS
        clear X7 hS
        refine hK.out _ _ (r1.cell (i := 0) (by omega)) (fun hHeld => ?_)
        clear hK K
        try simp only [Act.put, List.setIfInBounds_toArray, List.set_cons_zero, List.set_cons_succ]
        refine take_pair (i := 0) (j := 4) rfl rfl (by kernel_rfl) rfl rfl ?q4 ?q5
        case q4 =>
          intro K hK
          refine wp_of_run (v := .slice pa pn pc) (w' := wR) ?q6 ?_
          case q6 => (have hcz := r5.cell (i := 0) (by omega); go_simp; first | done | with_reducible rfl)
          refine hK.out _ _ hHeld (fun hHeld => ?_)
          clear hK K
          try simp only [Act.put, List.setIfInBounds_toArray, List.set_cons_zero, List.set_cons_succ]
          refine take_one (i := 4) rfl (by kernel_rfl) rfl (fun K hK => ?_)
          refine wp_of_run (w' := wS) (by rw [hwS]; exact exec_bslice1' 39 1 0 (.tmp 35) _ rfl rfl (build_one (arrV q) wR)) ?_
          refine hK.out _ _ (s1.cell (i := 0) (by omega)) (fun hHeld => ?_)
          clear hK K
          try simp only [Act.put, List.setIfInBounds_toArray, List.set_cons_zero, List.set_cons_succ]
          refine take_one (i := 5) rfl (by kernel_rfl) rfl (fun K hK => ?_)
          refine wp_append_run (.tmp 32) (.tmp 36) _ rfl rfl rfl hr ?_
          refine hK.out _ _ (t1.cell (i := 0) (by omega)) (fun hHeld => ?_)
          clear hK K hr
          try simp only [Act.put, List.setIfInBounds_toArray, List.set_cons_zero, List.set_cons_succ]
          have c8 := t5.cell (i := 0) (by omega)
          have f8 := t5.frozen 0
          have y1 : (w8.setCell ⟨w.heap.size + 2, 0, none⟩ (.slice aa am ac)).rowIs w.heap.size 62 1 (fun _ => .pointer ka) := World.rowIs.of_block t1 (blk_setCell_other _ _ _ _ (fun e => by have : w.heap.size = w.heap.size + 2 := e; omega))
          have y2 : (w8.setCell ⟨w.heap.size + 2, 0, none⟩ (.slice aa am ac)).rowIs (w.heap.size + 1) 39 1 (fun _ => .slice la K.length lc) := World.rowIs.of_block t2 (blk_setCell_other _ _ _ _ (fun e => by have : w.heap.size + 1 = w.heap.size + 2 := e; omega))
          obtain ⟨w9, hw9⟩ : ∃ w9, w9 = (w8.setCell ⟨w.heap.size + 2, 0, none⟩ (.slice aa am ac)).setCell ⟨w.heap.size + 1, 0, none⟩ (.slice xb (K.length - xn) yb) := ⟨_, rfl⟩
          obtain ⟨g1, g2, g3, g4⟩ := h9 w9 hw9
          have G2 : Hid _ := g2
          have G3 : Hid _ := g3
          have G4 : Hid _ := g4
          clear g2 g3 g4 h9
          refine take_one (i := 7) rfl (by kernel_rfl) rfl (fun K hK => ?_)
          go_simp
          refine hK.out _ _ (y1.cell (i := 0) (by omega)) (fun hHeld => ?_)
          clear hK K c8 f8
          try simp only [Act.put, List.setIfInBounds_toArray, List.set_cons_zero, List.set_cons_succ]
          have c9 := y2.cell (i := 0) (by omega)
          have f9 := y2.frozen 0
          refine take_one (i := 8) rfl (by kernel_rfl) rfl (fun K hK => ?_)
          go_simp
          rw [← hw9]
          refine hK.out _ _ (g1.cell (i := 0) (by omega)) (fun hHeld => ?_)
          clear hK K c9 f9
          try simp only [Act.put, List.setIfInBounds_toArray, List.set_cons_zero, List.set_cons_succ]
          refine wpAnyH_done (by kernel_rfl) ?_ _
          refine Calm.normal ?_
          clear hw9 y1 y2 g1 t1 t2 t5 hHeld
          gi_wp2
          exact ⟨G2.out.trans HDE.out.1, G3.out.trans HDE.out.2, G4.out⟩
        case q5 =>
          intro K hK
          refine wp_of_run (w' := wS) (by rw [hwS]; exact exec_bslice1' 39 1 0 (.tmp 35) _ rfl rfl (build_one (arrV q) wR)) ?_
          refine hK.out _ _ (s1.cell (i := 0) (by omega)) (fun hHeld => ?_)
          clear hK K
          try simp only [Act.put, List.setIfInBounds_toArray, List.set_cons_zero, List.set_cons_succ]
          refine take_run (i := 0) (v := .slice pa pn pc) (w' := wS) rfl (by kernel_rfl) rfl ?q7 hHeld ?_
          case q7 => (clear hwS; have hcz := s5.cell (i := 0) (by omega); go_simp; first | done | with_reducible rfl)
          try simp only [Act.put, List.setIfInBounds_toArray, List.set_cons_zero, List.set_cons_succ]
          refine take_one (i := 5) rfl (by kernel_rfl) rfl (fun K hK => ?_)
          refine wp_append_run (.tmp 32) (.tmp 36) _ rfl rfl rfl hr ?_
          refine hK.out _ _ (t1.cell (i := 0) (by omega)) (fun hHeld => ?_)
          clear hK K hr
          try simp only [Act.put, List.setIfInBounds_toArray, List.set_cons_zero, List.set_cons_succ]
          have c8 := t5.cell (i := 0) (by omega)
          have f8 := t5.frozen 0
          have y1 : (w8.setCell ⟨w.heap.size + 2, 0, none⟩ (.slice aa am ac)).rowIs w.heap.size 62 1 (fun _ => .pointer ka) := World.rowIs.of_block t1 (blk_setCell_other _ _ _ _ (fun e => by have : w.heap.size = w.heap.size + 2 := e; omega))
          have y2 : (w8.setCell ⟨w.heap.size + 2, 0, none⟩ (.slice aa am ac)).rowIs (w.heap.size + 1) 39 1 (fun _ => .slice la K.length lc) := World.rowIs.of_block t2 (blk_setCell_other _ _ _ _ (fun e => by have : w.heap.size + 1 = w.heap.size + 2 := e; omega))
          obtain ⟨w9, hw9⟩ : ∃ w9, w9 = (w8.setCell ⟨w.heap.size + 2, 0, none⟩ (.slice aa am ac)).setCell ⟨w.heap.size + 1, 0, none⟩ (.slice xb (K.length - xn) yb) := ⟨_, rfl⟩
          obtain ⟨g1, g2, g3, g4⟩ := h9 w9 hw9
          have G2 : Hid _ := g2
          have G3 : Hid _ := g3
          have G4 : Hid _ := g4
          clear g2 g3 g4 h9
          refine take_one (i := 7) rfl (by kernel_rfl) rfl (fun K hK => ?_)
          go_simp
          refine hK.out _ _ (y1.cell (i := 0) (by omega)) (fun hHeld => ?_)
          clear hK K c8 f8
          try simp only [Act.put, List.setIfInBounds_toArray, List.set_cons_zero, List.set_cons_succ]
          have c9 := y2.cell (i := 0) (by omega)
          have f9 := y2.frozen 0
          refine take_one (i := 8) rfl (by kernel_rfl) rfl (fun K hK => ?_)
          go_simp
          rw [← hw9]
          refine hK.out _ _ (g1.cell (i := 0) (by omega)) (fun hHeld => ?_)
          clear hK K c9 f9
          try simp only [Act.put, List.setIfInBounds_toArray, List.set_cons_zero, List.set_cons_succ]
          refine wpAnyH_done (by kernel_rfl) ?_ _
          refine Calm.normal ?_
          clear hw9 y1 y2 g1 t1 t2 t5 hHeld
          gi_wp2
          exact ⟨G2.out.trans HDE.out.1, G3.out.trans HDE.out.2, G4.out⟩
  case done =>
    rintro W hP hDd
    obtain ⟨lv, pv, Fi, h1, h2, h3, h4, h5, h6, h7, h8, h9, h10⟩ := hP
    rw [List.take_length] at h6 h7
    have hpv : ∃ pa pn pc, pv = .slice pa pn pc := by
      obtain ⟨pa, pc, e, _⟩ := ownsRow_slice h6.2; exact ⟨pa, _, pc, e⟩
    obtain ⟨pa, pn, pc, rfl⟩ := hpv
    have hlD : (downF way L).length ≤ 1000 := by
      rw [downF_len, HWAY.out]
      have := wayI_len (L.length : Int) at_ (by omega)
      omega
    have XR := revSums_any (W0.heap.size + 2) _ _ W h6 hlD
    have c5 := h5.cell (i := 0) (by omega)
    have POST : Hid (∀ w4, newSums w4 (W0.heap.size + 2) (.slice pa pn pc) (downF way L).reverse → w4.heap.size = W.heap.size → (∀ j, (Value.slice pa pn pc).ownBlock ≠ some j → j < W.heap.size → w4.heap[j]? = W.heap[j]?) → Below (W0.heap.size + 2) W w4 →
        w4.cell? ⟨w.heap.size + 2, 0, none⟩ = some (.slice pa pn pc) ∧ w4.heap[W0.heap.size]? = some (.deferred (some [])) ∧ ∃ v Fi, Ending.returned (.slice pa pn pc) = .returned v ∧ newSums (w4.putObj W0.heap.size (.deferred none)) w.heap.size v (pathI L at_) ∧ bkAt (.pointer ka) (w4.putObj W0.heap.size (.deferred none)) Fi (downN N way L) (c + downC way L) ∧ (∀ j, Fi j → F j ∨ w.heap.size ≤ j) ∧ (∀ j, v.ownBlock = some j → ¬ Fi j) ∧ Fr F w (w4.putObj W0.heap.size (.deferred none))) := (show _ from by
      intro w4 n4 z4 k4 b4
      have hs0 := S0.out
      have hz := h10.size
      have hnF : ∀ j, Fi j → j ≠ W0.heap.size := fun j hj e => by
        rcases h8 j hj with h | h
        · have := HFL.out j h; omega
        · omega
      have hpz : (w4.putObj W0.heap.size (.deferred none)).heap.size = w4.heap.size := by simp [World.putObj]
      refine ⟨(World.rowIs.of_block h5 (b4.block _ (by omega))).cell (i := 0) (by omega), (b4.block _ (by omega)).trans hDd, _, Fi, rfl, ?_, ?_, ?_, h9, ?_⟩
      · unfold pathI
        rw [← HWAY.out]
        exact (n4.lower (by omega)).far (fun j hj => putObj_block w4 _ _ (by have := n4.block j hj; omega))
      · exact h7.far (fun j hj hl => (putObj_block w4 _ _ (hnF j hj)).trans (k4 j (fun e => h9 j e hj) hl)) (by omega)
      · intro j hj
        rcases h8 j hj with h | h
        · exact Or.inl h
        · exact Or.inr (by omega)
      · have b0 := B0.out
        refine ⟨b4.os.trans (h10.os.trans b0.os), b4.tape.trans (h10.tape.trans b0.tape), b4.output.trans (h10.output.trans b0.output), by omega, fun j hj hn => ?_⟩
        exact (putObj_block w4 _ _ (by omega)).trans ((b4.block j (by omega)).trans ((h10.block j (by omega) (fun h => by rcases h with h | h | h; exact hn h; omega; omega)).trans (b0.block j hj))))
    have HW2 : Hid _ := HWAY.out
    clear h1 h2 h3 h4 h5 h6 h7 h8 h9 h10 hDd hlD
    go_wp2_with fail
    refine XR.mono ?_
    rintro e w4 ⟨rfl, n4, z4, k4, b4⟩
    clear XR c5
    obtain ⟨c4, d4, fin⟩ := POST.out w4 n4 z4 k4 b4
    have D4 : Hid _ := d4
    have FIN : Hid _ := fin
    clear POST n4 z4 k4 b4 d4 fin
    go_wp2
    refine bodyPostM_mark rfl D4.out (results_tmp rfl _ _ _) ?_
    rw [← HWAY.out]
    obtain ⟨v, Fi, hv, g1, g2, g3, g4, g5⟩ := FIN.out
    exact ⟨v, Fi, hv, g1, g2, g3, g4, g5⟩
end Go.Proofs.YtkgegihkhdgdoaaDoor

/- boxes of pairs; the states of a region that copies a pair; what keyed.Show shows. -/
namespace Go.Proofs.YtkgegihkhdgdoaaDoor
set_option linter.unusedSimpArgs false
set_option linter.unusedVariables false
open Go.RowKit Go.Deep

def prG (kc vc : Value) : Nat → Value
  | 0 => kc
  | _ => vc
def prZ : Nat → Value := prG (.slice none 0 0) (.slice none 0 0)
theorem hiPr : (Tryd.prog.info? 38).map (·.size) = some 2 := by kernel_rfl
theorem alPr (w : World) : (Instr.alloc 38 true (.tuple #[])).run Tryd.prog w = .ok (.pointer (some ⟨w.heap.size, 0, none⟩)) (w.alloc (.cells (rowV 2 prZ) 38)) := by
  show (_ : Result Value) = _
  kernel_rfl
theorem exec_allocPr {o : Oper} {ev : Operand → Value} {w : World} (ho : o.op = .alloc 38) :
    (execOp ev o).run Tryd.prog w = .ok (.value (.pointer (some ⟨w.heap.size, 0, none⟩))) (w.alloc (.cells (rowV 2 prZ) 38)) := by
  unfold execOp
  simp only [ho, Sem.run_bind, alPr, Result.andThen_ok, Sem.run_pure]
theorem build_pr (a b : Option Addr) (i j k l : Nat) (w : World) : (Instr.build 38 #[(0, .slice a i j), (1, .slice b k l)]).run Tryd.prog w = .ok (.agg (rowV 2 (prG (.slice a i j) (.slice b k l)))) w := by
  show (_ : Result Value) = _
  kernel_rfl
theorem build_sp (n : Int) (a b c : Option Addr) (i j k l p q : Nat) (w : World) : (Instr.build 41 #[(0, .int .i64 n), (1, .agg (rowV 2 (prG (.slice a i j) (.slice b k l)))), (2, .slice c p q)]).run Tryd.prog w = .ok (.agg (rowV 4 (spG n (.slice a i j) (.slice b k l) (.slice c p q)))) w := by
  show (_ : Result Value) = _
  kernel_rfl
theorem build_sps (f : Nat → Value) (w : World) : (Instr.buildSlice 27 1 #[(0, .agg (rowV 4 f))]).run Tryd.prog w = .ok (.slice (some ⟨w.heap.size, 0, none⟩) 1 1) (w.alloc (.cells (rowV 4 f) 41)) := by
  show (_ : Result Value) = _
  kernel_rfl
theorem build_se0 (w : World) : (Instr.build 29 #[]).run Tryd.prog w = .ok (.agg (rowV 2 (seG 0 (.slice none 0 0)))) w := by
  show (_ : Result Value) = _
  kernel_rfl
theorem build_se1 (n : Int) (w : World) : (Instr.build 29 #[(0, .int .i64 n)]).run Tryd.prog w = .ok (.agg (rowV 2 (seG n (.slice none 0 0)))) w := by
  show (_ : Result Value) = _
  kernel_rfl
theorem zero_se : ∀ w : World, (zeroValue 29).run Tryd.prog w = .ok (.agg (rowV 2 (seG 0 (.slice none 0 0)))) w := fun w => by kernel_rfl
theorem prG_one (a b : Option Addr) (i j k l : Nat) : ∀ t, t < 2 → (prG (.slice a i j) (.slice b k l) t).oneCell' = true := fun t ht => by
  match t, ht with
  | 0, _ => rfl
  | 1, _ => rfl
theorem seG_one (n : Int) (a : Option Addr) (i j : Nat) : ∀ t, t < 2 → (seG n (.slice a i j) t).oneCell' = true := fun t ht => by
  match t, ht with
  | 0, _ => rfl
  | 1, _ => rfl
/-- a pair is written into a box. -/
theorem pr_store (w : World) (b : Nat) (g : Nat → Value) {t : TypeId} {f : Nat → Value} (hr : w.rowIs b t 2 f) (h1 : ∀ i, i < 2 → (g i).oneCell' = true) :
    ∃ w', (storeVar 38 ⟨b, 0, none⟩ (.agg (rowV 2 g))).run Tryd.prog w = .ok () w' ∧ w'.rowIs b t 2 g ∧ w'.heap.size = w.heap.size ∧ But w.heap.size b w w' := by
  refine ⟨_, stowR_run w 38 b 0 2 g hiPr h1 (there_of_row hr (by omega)), (rowIs_splice hr).congr fun i hi => by rw [if_pos (by omega), Nat.sub_zero], size_setCells _ _ _ _, but_setCells _ _ (But.refl _ _ _)⟩
/-- the copies made, the box made, in any order. -/
def pst (wr : World) (key val : List Int) (W : World) (k v : Option Value) (x : Option Nat) : Prop :=
  Below wr.heap.size wr W ∧ (∀ u, k = some u → newBytes W wr.heap.size u key) ∧ (∀ u, v = some u → newBytes W wr.heap.size u val) ∧ ∀ b, x = some b → wr.heap.size ≤ b ∧ W.rowIs b 38 2 prZ
theorem pst.step {wr W W' : World} {key val : List Int} {k v : Option Value} {x : Option Nat} (h : pst wr key val W k v x) (hb : Below W.heap.size W W') : pst wr key val W' k v x := by
  have hs := h.1.size
  exact ⟨h.1.trans (hb.mono hs), fun u hu => (h.2.1 u hu).below hb (Nat.le_refl _), fun u hu => (h.2.2.1 u hu).below hb (Nat.le_refl _), fun b hx => ⟨(h.2.2.2 b hx).1, hb.row (h.2.2.2 b hx).2 (h.2.2.2 b hx).2.lt⟩⟩
theorem pst.key {wr W W' : World} {key val : List Int} {v : Option Value} {x : Option Nat} (h : pst wr key val W none v x) (hb : Below W.heap.size W W') {u : Value} (hn : newBytes W' W.heap.size u key) : pst wr key val W' (some u) v x := by
  have h' := h.step hb
  have hs := h.1.size
  exact ⟨h'.1, fun u' hu => by rw [← Option.some.inj hu]; exact hn.mono hs, h'.2.2.1, h'.2.2.2⟩
theorem pst.val {wr W W' : World} {key val : List Int} {k : Option Value} {x : Option Nat} (h : pst wr key val W k none x) (hb : Below W.heap.size W W') {u : Value} (hn : newBytes W' W.heap.size u val) : pst wr key val W' k (some u) x := by
  have h' := h.step hb
  have hs := h.1.size
  exact ⟨h'.1, h'.2.1, fun u' hu => by rw [← Option.some.inj hu]; exact hn.mono hs, h'.2.2.2⟩
theorem pst.box {wr W : World} {key val : List Int} {k v : Option Value} (h : pst wr key val W k v none) : pst wr key val (W.alloc (.cells (rowV 2 prZ) 38)) k v (some W.heap.size) := by
  have h' := h.step ((Below.refl W.heap.size W).alloc (Nat.le_refl _) (.cells (rowV 2 prZ) 38))
  have hs := h.1.size
  exact ⟨h'.1, h'.2.1, h'.2.2.1, fun b hb => by rw [← Option.some.inj hb]; exact ⟨hs, rowIs_box _ _ _ _⟩⟩
theorem take_threeK {P : Program} {md : Region.Mode} {l : List Oper} {Q : Exit → Act → World → Prop} {S : World → Prop} {i j k : Nat} {oi oj ok : Oper} {fuel : Nat} {listed : Array Bool} {a : Act} {w : World} (hi : l[i]? = some oi) (hj : l[j]? = some oj) (hk : l[k]? = some ok) (hr : Region.ready md l.toArray listed = [i, j, k])
    (hw : Region.wanted oi (yielded l.toArray a.tmps) = true) (hv : Region.wanted oj (yielded l.toArray a.tmps) = true) (hu : Region.wanted ok (yielded l.toArray a.tmps) = true)
    (h1 : ∀ K' : Act → World → Prop, Shut (∀ a w, S w → (S w → wpAnyH P md l.toArray Q S fuel (listed.setIfInBounds i true) a w) → K' a w) → Oper.wp P oi a w K' Q)
    (h2 : ∀ K' : Act → World → Prop, Shut (∀ a w, S w → (S w → wpAnyH P md l.toArray Q S fuel (listed.setIfInBounds j true) a w) → K' a w) → Oper.wp P oj a w K' Q)
    (h3 : ∀ K' : Act → World → Prop, Shut (∀ a w, S w → (S w → wpAnyH P md l.toArray Q S fuel (listed.setIfInBounds k true) a w) → K' a w) → Oper.wp P ok a w K' Q) : wpAnyH P md l.toArray Q S (fuel + 1) listed a w :=
  wpAnyH_ready hr (by simp) (AllReadyH.cons ((list_toArray_get l i).trans hi) (fun K' hK => by rw [if_pos hw]; exact h1 K' hK)
    (AllReadyH.cons ((list_toArray_get l j).trans hj) (fun K' hK => by rw [if_pos hv]; exact h2 K' hK) (AllReadyH.cons ((list_toArray_get l k).trans hk) (fun K' hK => by rw [if_pos hu]; exact h3 K' hK) AllReadyH.nil)))
/-- the first place shown, how many, what is shown. -/
def shF (x : Nat → Pr) (n : Nat) (key : List Int) (p : Nat) : Nat := if isAt x n key p = true then p else p - 1
def shM (x : Nat → Pr) (n : Nat) (key : List Int) (p : Nat) : Nat := (arL x n key p + 1 - (shF x n key p : Int)).toNat
def shY (x : Nat → Pr) (n : Nat) (key : List Int) (p : Nat) (i : Nat) : Sp := ⟨((shF x n key p + i : Nat) : Int), x (shF x n key p + i), pathI (leavesTo x n) ((shF x n key p + i : Nat) : Int)⟩
theorem arF_shF (x : Nat → Pr) (n : Nat) (key : List Int) (p : Nat) : arF x n key p = (shF x n key p : Int) := by
  unfold arF shF
  split
  · rfl
  · omega
theorem arL_lt (x : Nat → Pr) (n : Nat) (key : List Int) (p : Nat) : arL x n key p < (n : Int) ∧ -1 ≤ arL x n key p := by
  unfold arL
  split
  · rename_i h
    simp only [isAt, Bool.and_eq_true, decide_eq_true_eq] at h
    omega
  · omega
theorem shM_lt (x : Nat → Pr) (n : Nat) (key : List Int) (p k : Nat) : k < shM x n key p ↔ ((shF x n key p + k : Nat) : Int) ≤ arL x n key p := by
  unfold shM; omega
def showPost (n : Nat) (x : Nat → Pr) (key : List Int) (w : World) (e : Ending) (w' : World) : Prop :=
  ((mayB x n = false ∧ e = .returned (.agg (rowV 2 (seG 0 (.slice none 0 0))))) ∨
    (mayB x n = true ∧ ∃ p sv, posAt x n key p ∧ e = .returned (.agg (rowV 2 (seG n sv))) ∧ spotsAt w' sv (shM x n key p) (shY x n key p))) ∧ Below w.heap.size w w'
end Go.Proofs.YtkgegihkhdgdoaaDoor

/- what is shown is looked at, and tells: the pure part. -/
namespace Go.Proofs.YtkgegihkhdgdoaaDoor
set_option linter.unusedSimpArgs false
set_option linter.unusedVariables false
open Go.RowKit Go.Deep

theorem leavesTo_getD (x : Nat → Pr) (n q : Nat) (hq : q < n) : (leavesTo x n).getD q [] = leafS (x q) := by
  rw [List.getD_eq_getElem?_getD, leavesTo, List.getElem?_map, List.getElem?_range hq]; rfl
theorem show_toA (x : Nat → Pr) (n q : Nat) (hq : q < n) : toA (n : Int) ⟨(q : Int), x q, pathI (leavesTo x n) (q : Int)⟩ = some (rootS (leavesTo x n)) := by
  have hl := leavesTo_len x n
  have ht : thereB (n : Int) (q : Int) = true := by simp [thereB]; omega
  have hp : pathI (leavesTo x n) (q : Int) = pathS (leavesTo x n) q := pathI_there (by rw [hl]; exact hq)
  have hw : wayI (n : Int) (q : Int) = wayL n q := by unfold wayI; rw [if_pos ht, Int.toNat_natCast, Int.toNat_natCast]
  have hk : okLead (n : Int) (q : Int) (pathS (leavesTo x n) q) = true := by
    unfold okLead
    rw [ht, hw, pathS_len, hl]; simp
  unfold toA
  simp only
  rw [hp, if_pos hk, hw]
  have h := lead_path n (leavesTo x n) q (by omega) (by rw [hl]; exact hq)
  rw [leavesTo_getD x n q hq, hl] at h
  rw [← h]; rfl
theorem may_lt_key {x : Nat → Pr} {n : Nat} (hm : mayP x n) : ∀ (d i : Nat), i + d + 1 < n → cmpI (x i).1 (x (i + d + 1)).1 < 0
  | 0, i, h => hm i h
  | d + 1, i, h => cmpI_trans _ _ _ (may_lt_key hm d i (by omega)) (hm (i + d + 1) (by omega))
theorem pos_key {x : Nat → Pr} {n p : Nat} {key : List Int} (hm : mayP x n) (hp : posAt x n key p) (i : Nat) (hi : i < n) (hk : (x i).1 = key) : i = p ∧ isAt x n key p = true := by
  obtain ⟨h1, h2, h3⟩ := hp
  have hz : cmpI (x i).1 key = 0 := by rw [hk]; exact cmpI_self key
  have hge : p ≤ i := by
    by_cases e : p ≤ i
    · exact e
    · have := h2 i (by omega); omega
  have hle : i ≤ p := by
    by_cases e : i ≤ p
    · exact e
    · have h := may_lt_key hm (i - p - 1) p (by omega)
      rw [show p + (i - p - 1) + 1 = i by omega, hk] at h
      have := h3 p (Nat.le_refl _) (by omega); omega
  obtain rfl : i = p := by omega
  exact ⟨rfl, by simp [isAt, hi, hz]⟩
/-- how many are shown, from where. -/
theorem show_cases {x : Nat → Pr} {n p : Nat} {key : List Int} (hp : posAt x n key p) :
    (isAt x n key p = true ∧ p < n ∧ shF x n key p = p ∧ shM x n key p = 1) ∨ (isAt x n key p = false ∧ ((n = 0 ∧ shM x n key p = 0) ∨ (p = 0 ∧ 0 < n ∧ shF x n key p = 0 ∧ shM x n key p = 1) ∨ (0 < p ∧ p < n ∧ shF x n key p = p - 1 ∧ shM x n key p = 2) ∨ (0 < p ∧ p = n ∧ shF x n key p = n - 1 ∧ shM x n key p = 1))) := by
  have h1 := hp.1
  cases hA : isAt x n key p with
  | true =>
    have hpn : p < n := by
      simp only [isAt, Bool.and_eq_true, decide_eq_true_eq] at hA; exact hA.1
    refine Or.inl ⟨rfl, hpn, ?_, ?_⟩
    · unfold shF; rw [if_pos hA]
    · unfold shM shF arL; rw [if_pos hA, if_pos hA]; omega
  | false =>
    have hf : shF x n key p = p - 1 := by unfold shF; rw [if_neg (by rw [hA]; decide)]
    have hl : arL x n key p = min (p : Int) ((n : Int) - 1) := by unfold arL; rw [if_neg (by rw [hA]; decide)]
    refine Or.inr ⟨rfl, ?_⟩
    unfold shM
    rw [hf, hl]
    by_cases e0 : n = 0
    · exact Or.inl ⟨e0, by omega⟩
    · by_cases e1 : p = 0
      · exact Or.inr (Or.inl ⟨e1, by omega, by omega, by omega⟩)
      · by_cases e2 : p < n
        · exact Or.inr (Or.inr (Or.inl ⟨by omega, e2, rfl, by omega⟩))
        · exact Or.inr (Or.inr (Or.inr ⟨by omega, by omega, by omega, by omega⟩))
theorem isAt_not {x : Nat → Pr} {n p : Nat} {key : List Int} (h : isAt x n key p = false) (hp : p < n) : ¬ cmpI (x p).1 key = 0 := fun e => by
  simp [isAt, hp, e] at h
/-- what is shown is not refused. -/
theorem show_ok {x : Nat → Pr} {n p : Nat} {key : List Int} (hm : mayP x n) (hp : posAt x n key p) : lookOk (n : Int) (shM x n key p) (shY x n key p) key (keyS x n) := by
  have hq : ∀ i, i < shM x n key p → shF x n key p + i < n := fun i hi => by
    have h1 := (shM_lt x n key p i).1 hi
    have h2 := (arL_lt x n key p).1
    omega
  have hto : ∀ i, i < shM x n key p → toA (n : Int) (shY x n key p i) = some (rootS (leavesTo x n)) := fun i hi => show_toA x n _ (hq i hi)
  have hY : ∀ i, (shY x n key p i).pr = x (shF x n key p + i) ∧ (shY x n key p i).at_ = ((shF x n key p + i : Nat) : Int) := fun i => ⟨rfl, rfl⟩
  refine ⟨by omega, ?_, rootS (leavesTo x n), ?_, rfl⟩
  · unfold saysB
    rw [(hY 0).1, (hY 0).2, (hY 1).1, (hY 1).2]
    obtain ⟨h1, h2, h3⟩ := hp
    rcases show_cases ⟨h1, h2, h3⟩ with ⟨hA, hpn, hf, hM⟩ | ⟨hA, ⟨h0, hM⟩ | ⟨hp0, h0, hf, hM⟩ | ⟨hp0, hpn, hf, hM⟩ | ⟨hp0, hpn, hf, hM⟩⟩
    · rw [hM, hf, if_neg (by omega), if_pos rfl]
      have hz : cmpI (x p).1 key = 0 := by
        simp only [isAt, Bool.and_eq_true, decide_eq_true_eq] at hA; exact hA.2
      exact decide_eq_true (Or.inl hz)
    · rw [hM, if_pos rfl]; exact decide_eq_true (by omega)
    · rw [hM, hf, if_neg (by omega), if_pos rfl]
      have hne := isAt_not hA (by omega)
      have := h3 p (Nat.le_refl _) (by omega)
      rw [hp0] at hne this
      exact decide_eq_true (Or.inr (Or.inl ⟨by rw [Nat.add_zero]; omega, by omega⟩))
    · rw [hM, hf, if_neg (by omega), if_neg (by omega), if_pos rfl, Nat.add_zero, show p - 1 + 1 = p by omega]
      have hne := isAt_not hA hpn
      have a1 := h3 p (Nat.le_refl _) hpn
      have a2 := h2 (p - 1) (by omega)
      exact decide_eq_true ⟨a2, by omega, by omega, by omega⟩
    · rw [hM, hf, if_neg (by omega), if_pos rfl, Nat.add_zero]
      have a2 := h2 (n - 1) (by omega)
      exact decide_eq_true (Or.inr (Or.inr ⟨a2, by omega⟩))
  · by_cases h0 : shM x n key p = 0
    · refine Or.inl ⟨h0, ?_⟩
      rcases show_cases hp with ⟨hA, hpn, hf, hM⟩ | ⟨hA, ⟨hn, hM⟩ | ⟨hp0, hn, hf, hM⟩ | ⟨hp0, hpn, hf, hM⟩ | ⟨hp0, hpn, hf, hM⟩⟩
      · omega
      · rw [hn]; rfl
      · omega
      · omega
      · omega
    · exact Or.inr ⟨by omega, hto⟩
/-- what is shown tells what stands there. -/
theorem show_there {x : Nat → Pr} {n p : Nat} {key : List Int} (hm : mayP x n) (hp : posAt x n key p) (k : Nat) (hk : k < shM x n key p) (he : (shY x n key p k).pr.1 = key) : shF x n key p + k < n ∧ (x (shF x n key p + k)).1 = key ∧ (shY x n key p k).pr.2 = (x (shF x n key p + k)).2 := by
  have h1 := (shM_lt x n key p k).1 hk
  have h2 := (arL_lt x n key p).1
  exact ⟨by omega, he, rfl⟩
theorem show_none {x : Nat → Pr} {n p : Nat} {key : List Int} (hm : mayP x n) (hp : posAt x n key p) (h : ∀ j, j < shM x n key p → ¬ (shY x n key p j).pr.1 = key) (i : Nat) (hi : i < n) : ¬ (x i).1 = key := fun e => by
  obtain ⟨rfl, hA⟩ := pos_key hm hp i hi e
  rcases show_cases hp with ⟨_, _, hf, hM⟩ | ⟨hA', _⟩
  · refine h 0 (by omega) ?_
    show (x (shF x n key i + 0)).1 = key
    rw [hf]; exact e
  · rw [hA] at hA'; cases hA'
end Go.Proofs.YtkgegihkhdgdoaaDoor

/- the laws' stands. -/
namespace Go.Proofs.YtkgegihkhdgdoaaDoor
set_option linter.unusedSimpArgs false
set_option linter.unusedVariables false
open Go.RowKit Go.Deep

def standP (n : Nat) (x : Nat → Pr) (key : List Int) (e : Ending) : Prop :=
  (∃ i, i < n ∧ (x i).1 = key ∧ (∀ j, j < i → ¬ (x j).1 = key) ∧ e = .returned (.tuple #[.string (strOf (x i).2), .bool true])) ∨ ((∀ j, j < n → ¬ (x j).1 = key) ∧ e = .returned (.tuple #[.string { data := #[] }, .bool false]))
end Go.Proofs.YtkgegihkhdgdoaaDoor
