import Derived.Test.YtkgegihkhdgdoaaDoorOwn4
import Derived.Test.YtkgegihkhdgdoaaDoorOwn6
import Derived.Test.YtkgegihkhdgdoaaDoorOwn7
import Derived.Test.YtkgegihkhdgdoaaDoorOwn9
import Derived.Test.YtkgegihkhdgdoaaDoorOwn10
set_option linter.unusedVariables false
set_option linter.unusedSimpArgs false
/- The document's Show. -/
namespace Go.Proofs.YtkgegihkhdgdoaaDoor
set_option linter.unusedSimpArgs false
set_option linter.unusedVariables false
open Go.RowKit Go.Deep

/-- what the document shows. -/
def rshowPost (n : Nat) (x : Nat → Pr) (key : List Int) (p : Nat) (w : World) (e : Ending) (w' : World) : Prop :=
  ((mayB x n = false ∧ e = .returned (.agg (rowV 2 (seG 0 (.slice none 0 0))))) ∨
    (mayB x n = true ∧ ∃ sv, e = .returned (.agg (rowV 2 (seG n sv))) ∧ spotsAt w' sv (shM x n key p) (shY x n key p))) ∧ Below w.heap.size w w'
/-- the loop: box b8 holds what is shown so far. -/
def rsL (w6 : World) (b8 : Nat) (n k : Nat) (y : Nat → Sp) (wr : World) : Prop := But w6.heap.size b8 w6 wr ∧ ∃ oa oc, wr.rowIs b8 29 2 (seG n (.slice oa k oc)) ∧ ownSpots wr w6.heap.size b8 (.slice oa k oc) k y
theorem rsL.below {w6 : World} {b8 n k : Nat} {y : Nat → Sp} {wr W : World} (h : rsL w6 b8 n k y wr) (hb : Below wr.heap.size wr W) : rsL w6 b8 n k y W := by
  obtain ⟨h1, oa, oc, h2, h3⟩ := h
  exact ⟨h1.trans ((But.of_below hb b8).mono h1.size), oa, oc, hb.row h2 h2.lt, h3.below hb (Nat.le_refl _)⟩
/-- the copies of a pair's parts, and its box. -/
def pqx (wr W : World) (k v : Option (Value × List Int)) (b : Option Nat) : Prop := pq wr W k v ∧ ∀ c, b = some c → wr.heap.size ≤ c ∧ W.rowIs c 38 2 prZ
theorem pqx.swap {wr W : World} {k v : Option (Value × List Int)} {b : Option Nat} (h : pqx wr W k v b) : pqx wr W v k b := ⟨h.1.swap, h.2⟩
theorem pqx.make {wr W : World} {v : Option (Value × List Int)} {b : Option Nat} (h : pqx wr W none v b) : pqx wr (W.alloc (.cells #[] 5)) (some (.slice (some ⟨W.heap.size, 0, none⟩) 0 0, [])) v b :=
  ⟨h.1.make, fun c hc => ⟨(h.2 c hc).1, ((Below.refl W.heap.size W).alloc (Nat.le_refl _) _).row (h.2 c hc).2 (h.2 c hc).2.lt⟩⟩
theorem pqx.box {wr W : World} {k v : Option (Value × List Int)} (h : pqx wr W k v none) : pqx wr (W.alloc (.cells (rowV 2 prZ) 38)) k v (some W.heap.size) := by
  have hb : Below W.heap.size W (W.alloc (.cells (rowV 2 prZ) 38)) := (Below.refl _ _).alloc (Nat.le_refl _) _
  refine ⟨⟨h.1.1.trans (hb.mono h.1.1.size), fun u l e => (h.1.2.1 u l e).below hb (Nat.le_refl _), fun u l e => (h.1.2.2.1 u l e).below hb (Nat.le_refl _), h.1.2.2.2⟩, fun c hc => ?_⟩
  rw [← Option.some.inj hc]
  exact ⟨h.1.1.size, rowIs_box _ _ _ _⟩
theorem pqx.fill {wr W : World} {u y : Value} {m : List Int} {v : Option (Value × List Int)} {b : Option Nat} (h : pqx wr W (some (u, [])) v b) (hy : anyBytes W y m) (hm : m.length ≤ 1000000) : ∃ u' W', (Builtin.append_ #[23, 23] 23 #[u, y]).run Tryd.prog W = .ok u' W' ∧ pqx wr W' (some (u', m)) v b := by
  have hn := h.1.2.1 u [] rfl
  obtain ⟨u', W', hr, hn', hg, hat⟩ := any_append_run W wr.heap.size u y [] m hn hy (by simp; omega) h.1.1.size
  obtain ⟨u2, W2, hr2, h2⟩ := h.1.fill hy hm
  rw [hr] at hr2
  cases hr2
  refine ⟨u', W', hr, h2, fun c hc => ⟨(h.2 c hc).1, World.rowIs.of_block (h.2 c hc).2 (hg.block c (h.2 c hc).2.lt (fun e => hn.notrow (h.2 c hc).2 (by decide) c e.symm rfl))⟩⟩
set_option maxHeartbeats 8000000 in
set_option maxRecDepth 100000 in
theorem rshow_any (n : Nat) (v tv : Value) (x : Nat → Pr) (key : List Int) (p : Nat) (w : World) (hp : pairsAt w v n x) (hkey : anyBytes w tv key) (hpos : mayB x n = true → posAt x n key p) (hn : n ≤ 1000) (hx : ∀ i, i < n → (x i).1.length + (x i).2.length ≤ 1000000) :
    Calls Tryd.prog 18 #[v, tv] w fun e w' => rshowPost n x key p w e w' := by
  have hzse := zero_se
  have hb0' := build_se0
  have hb1' := build_se1
  obtain ⟨a, cap, hv, hnc, hcm, _⟩ := (id hp : pairsAt w v n x)
  obtain ⟨w1, hw1⟩ : ∃ w1, w1 = w.alloc (.cells (rowV 2 (seG 0 (.slice none 0 0))) 29) := ⟨_, rfl⟩
  have b1 : Below w.heap.size w w1 := by rw [hw1]; exact (Below.refl _ _).alloc (Nat.le_refl _) _
  have z1 : w1.heap.size = w.heap.size + 1 := by rw [hw1]; simp
  have r1 : w1.rowIs w.heap.size 29 2 (seG 0 (.slice none 0 0)) := by rw [hw1]; exact rowIs_box _ _ _ _
  have XM := rmay_any n v x w1 (hp.below b1 (Nat.le_refl _))
  have HP : Hid (∀ wz, Below w.heap.size w wz → pairsAt wz v n x ∧ anyBytes wz tv key) := (show _ from fun wz hz => ⟨hp.below hz (Nat.le_refl _), hkey.below hz (Nat.le_refl _)⟩)
  have HPOS : Hid (mayB x n = true → posAt x n key p) := (show _ from hpos)
  have HQ : Hid (n ≤ 1000 ∧ (∀ i, i < n → (x i).1.length + (x i).2.length ≤ 1000000) ∧ Below w.heap.size w w1 ∧ w1.heap.size = w.heap.size + 1 ∧ w1.rowIs w.heap.size 29 2 (seG 0 (.slice none 0 0))) := (show _ from ⟨hn, hx, b1, z1, r1⟩)
  have hn0 : (0 : Int) ≤ (n : Int) := by omega
  have hn1 : (n : Int) ≤ 1000 := by omega
  obtain ⟨ta, tcap, rfl, _⟩ := hkey.slice
  subst hv
  clear hp hkey hpos hn hx b1 z1 r1 hnc hcm
  go_enter Tryd.func18, Tryd.ntmps18
  go_upto_region 1 with fail
  rw [← hw1]
  clear hw1
  go_wp2_with fail
  refine XM.mono ?_
  rintro e w2 ⟨rfl, hb2⟩
  clear XM
  obtain ⟨hn, hx, b1, z1, r1⟩ := HQ.out
  have r2 : w2.rowIs w.heap.size 29 2 (seG 0 (.slice none 0 0)) := hb2.row r1 (by omega)
  have b02 : Below w.heap.size w w2 := b1.trans (hb2.mono (by omega))
  have s2 := hb2.size
  cases hmb : mayB x n with
  | false =>
    have MB : Hid (mayB x n = false) := (show mayB x n = false from hmb)
    have B02 : Hid (Below w.heap.size w w2 ∧ w.heap.size < w2.heap.size) := (show _ ∧ _ from ⟨b02, by omega⟩)
    clear hmb HP HQ hb2 b02 b1 z1 r1 s2 hx
    go_wp2_with (first | (refine wpList_store_row rfl 29 _ _ rfl rfl w.heap.size 0 2 (seG 0 (.slice none 0 0)) rfl rfl hiSe (seG_one _ _ _ _) _ _ _ r2 (by omega) ?_; intro w6 r7 hz6 hb6))
    exact bodyPost_ret (results_cell_seg rfl _ _ w.heap.size 29 2 (seG 0 (.slice none 0 0)) _ rfl Tryd.underlying29 rfl hiSe (r7.congr fun i hi => by rw [if_pos (by omega), Nat.sub_zero])) rfl (by
      exact ⟨Or.inl ⟨MB.out, rfl⟩, B02.out.1.trans (hb6.mono (by have := B02.out.2; omega) |>.below (by omega))⟩)
  | true =>
    have hmp := (mayB_is x n).1 hmb
    have MB : Hid (mayB x n = true) := (show mayB x n = true from hmb)
    have B02 : Hid (Below w.heap.size w w2 ∧ w.heap.size < w2.heap.size ∧ w2.rowIs w.heap.size 29 2 (seG 0 (.slice none 0 0))) := (show _ ∧ _ ∧ _ from ⟨b02, by omega, r2⟩)
    have HMP : Hid (mayP x n) := (show mayP x n from hmp)
    obtain ⟨w4, hw4⟩ : ∃ w4, w4 = w2.alloc (.cells (rowV 2 (seG 0 (.slice none 0 0))) 29) := ⟨_, rfl⟩
    have r4 : w4.rowIs w2.heap.size 29 2 (seG 0 (.slice none 0 0)) := by rw [hw4]; exact rowIs_box _ _ _ _
    have b4 : Below w2.heap.size w2 w4 := by rw [hw4]; exact (Below.refl _ _).alloc (Nat.le_refl _) _
    have z4 : w4.heap.size = w2.heap.size + 1 := by rw [hw4]; simp
    clear hmb hmp hb2 b1 z1 r1 hx s2
    obtain ⟨_, s2, _⟩ := B02.out
    go_upto_region 4 with (first | (rw [← hw4]; clear hw4; refine wpList_store_row rfl 29 _ _ rfl rfl w2.heap.size 0 2 (seG n (.slice none 0 0)) rfl rfl hiSe (seG_one _ _ _ _) _ _ _ r4 (by omega) ?_; intro w5 r5 hz5 hb5))
    have b25 : Below w2.heap.size w2 w5 := b4.trans ((hb5.mono (by omega)).below (by omega))
    have b05 : Below w.heap.size w w5 := b02.trans (b25.mono (by omega))
    have XF := rfind_any n (.slice a n cap) _ x key w5 (HP.out w5 b05).1 (HP.out w5 b05).2
    have r5' : w5.rowIs w2.heap.size 29 2 (seG n (.slice none 0 0)) := r5.congr fun i hi => by rw [if_pos (by omega), Nat.sub_zero]
    go_wp2_with fail
    refine XF.mono ?_
    rintro e w6 ⟨hfind, b56⟩
    obtain ⟨t, rfl, htp⟩ : ∃ t : Int, e = .returned (.int .i64 t) ∧ thereP n x key t := by
      rcases hfind with ⟨i, h1, h2, _, rfl⟩ | ⟨h1, rfl⟩
      · exact ⟨_, rfl, Or.inl ⟨i, h1, h2, rfl⟩⟩
      · exact ⟨_, rfl, Or.inr ⟨h1, rfl⟩⟩
    have hti : -1 ≤ t ∧ t < 1000 := by
      rcases htp with ⟨i, h1, _, rfl⟩ | ⟨_, rfl⟩ <;> omega
    have s5 := b25.size
    have s6 := b56.size
    have b06 : Below w.heap.size w w6 := b05.trans (b56.mono (by omega))
    have r6 : w6.rowIs w2.heap.size 29 2 (seG n (.slice none 0 0)) := b56.row r5' (by omega)
    obtain ⟨b8, hb8⟩ : ∃ b8, b8 = w2.heap.size := ⟨_, rfl⟩
    have FACT : Hid (∀ wr, But w6.heap.size b8 w6 wr → Below w.heap.size w wr ∧ pairsAt wr (.slice a n cap) n x ∧ anyBytes wr (.slice ta key.length tcap) key ∧ wr.rowIs w.heap.size 29 2 (seG 0 (.slice none 0 0))) := (show _ from fun wr hr => by
      have hb : Below w.heap.size w wr := b06.trans ((hr.mono (by omega)).below (by omega))
      refine ⟨hb, (HP.out wr hb).1, (HP.out wr hb).2, ?_⟩
      exact World.rowIs.of_block (b56.row (b25.row r2 (by omega)) (by omega)) (hr.block _ (by omega) (by omega)))
    obtain ⟨f, hf⟩ : ∃ f, f = shF x n key p := ⟨_, rfl⟩
    obtain ⟨m, hm⟩ : ∃ m, m = shM x n key p := ⟨_, rfl⟩
    obtain ⟨y, hy⟩ : ∃ y, y = shY x n key p := ⟨_, rfl⟩
    have HPP : Hid (posAt x n key p) := (show _ from HPOS.out MB.out)
    have HSH : Hid (∀ i, i < n → (shownB x n key t i = true ↔ f ≤ i ∧ i < f + m)) := (show ∀ i, i < n → (shownB x n key t i = true ↔ f ≤ i ∧ i < f + m) from fun i hi => by rw [hf, hm]; exact shown_is HMP.out HPP.out htp i hi)
    have HYQ : Hid ((∀ k, k < m → f + k < n) ∧ ∀ k, y k = ⟨((f + k : Nat) : Int), x (f + k), pathI (leavesTo x n) ((f + k : Nat) : Int)⟩) := (show _ ∧ _ from ⟨fun k hk => by
      have h1 := (shM_lt x n key p k).1 (by rw [← hm]; exact hk)
      have h2 := (arL_lt x n key p).1
      rw [← hf] at h1
      omega, by rw [hy, hf]; exact fun _ => rfl⟩)
    have DONE : Hid (∀ V sv, Below w.heap.size w V → spotsAt V sv m y → rshowPost n x key p w (.returned (.agg (rowV 2 (seG n sv)))) V) := (show _ from fun V sv hV hs => ⟨Or.inr ⟨MB.out, sv, rfl, by rw [← hm, ← hy]; exact hs⟩, hV⟩)
    have HSZ : Hid (w.heap.size < b8 ∧ b8 < w6.heap.size) := (show _ ∧ _ from ⟨by omega, by omega⟩)
    have HL0 : Hid (rsL w6 b8 n 0 y w6) := (show rsL w6 b8 n 0 y w6 from ⟨But.refl _ _ _, none, 0, by rw [hb8]; exact r6, ownSpots.nil _ _ _ _⟩)
    have HTI : Hid (-1 ≤ t ∧ t < 1000) := (show _ ∧ _ from hti)
    rw [← hb8]
    clear hf hm hy hb8 XF hfind htp b05 b06 b56 b25 r6 r5' r5 hz5 hb5 b4 r4 z4 s5 s6 b02 r2 s2 B02 HMP MB
    go_wp2_with fail
    go_loopw [7] (fun i wr => ∃ q : Nat, q ≤ n ∧ i = .int .i64 (q : Int) ∧ rsL w6 b8 n (min (q - f) m) y wr) (fun i _ => n - (intOf i).toNat)
    case atStart => exact ⟨0, by omega, rfl, by rw [show min (0 - f) m = 0 by omega]; exact HL0.out⟩
    case round =>
      obtain ⟨q, hqn, rfl, hrs⟩ := hrel
      have q0 : (0 : Int) ≤ (q : Int) := by omega
      clear HL0
      by_cases hlt : q < n
      · have q1 : (q : Int) < (n : Int) := by omega
        have HRS : Hid (rsL w6 b8 n (min (q - f) m) y wr) := (show _ from hrs)
        obtain ⟨fa1, fa2, fa3, _⟩ := FACT.out wr hrs.1
        have hpw : w.heap.size ≤ wr.heap.size := fa1.size
        obtain ⟨g, o, cap', e, hg, _, _, hcell⟩ := (HP.out w (Below.refl _ _)).1.at (by omega)
        injection e with e1 e2 e3
        subst e1
        subst e3
        obtain ⟨ka, kcap, va, vcap, H⟩ := hcell q hlt
        have HCC : Hid (∀ j, j < n → ∃ ka kcap va vcap, ∀ wz, Below w.heap.size w wz → wz.cell? ⟨g, o + j * 2, none⟩ = some (.slice ka (x j).1.length kcap) ∧ wz.cell? ⟨g, o + j * 2 + 1, none⟩ = some (.slice va (x j).2.length vcap) ∧ anyBytes wz (.slice ka (x j).1.length kcap) (x j).1 ∧ anyBytes wz (.slice va (x j).2.length vcap) (x j).2) := (show _ from hcell)
        have HH : Hid _ := H
        have HF1 : Hid (Below w.heap.size w wr) := (show _ from fa1)
        clear hrs fa1 fa2 fa3 hcell H hg
        go_upto_region 8 with fail
        go_cut [8] from 27 to 54 (fun p8 wx => p8 = .bool (aheadB x n key q) ∧ Below wr.heap.size wr wx)
        case first =>
          have s0 := (HH.out wr HF1.out).1
          have v1 := conv_drew HF1.out (fun wz hz => (HH.out wz hz).2.2.1)
          have vk := conv_drew HF1.out (fun wz hz => (HP.out wz hz).2)
          have L1 := less_cmp (HH.out wr HF1.out).2.2.1 (HP.out wr HF1.out).2
          have E1 := beq_cmp (HH.out wr HF1.out).2.2.1 (HP.out wr HF1.out).2
          have hw1 : IntKind.wrap .i64 (q : Int) = (q : Int) := IntWalk.i64_in _ ⟨by omega, by omega⟩
          by_cases h0 : cmpI (x q).1 key < 0
          · rw [decide_eq_true h0] at L1
            by_cases h1 : q + 1 = n
            · have EV : Hid (aheadB x n key q = true) := (show aheadB x n key q = true from by unfold aheadB; rw [decide_eq_true h0, decide_eq_true h1]; rfl)
              generalize hA : strOf (x q).1 = A at v1 L1 E1
              generalize hK : strOf key = KK at vk L1 E1
              clear hA hK
              have h1' : (q : Int) + 1 = (n : Int) := by omega
              have h2' : ((q : Int) + 1 == (n : Int)) = true := by simp [h1']
              have h3' : decide ((q : Int) + 1 = (n : Int)) = true := decide_eq_true h1'
              have hw2 : IntKind.wrap .i64 ((q : Int) + 1) = (q : Int) + 1 := IntWalk.i64_in _ ⟨by omega, by omega⟩
              have hG : ∀ ty, (binOp .lss ty (.string A) (.string KK)) = pure (.bool true) := fun ty => by simp [binOp, Op.stringOp, L1]
              clear h0 h1 L1 E1
              clear HCC HH
              go_quiet (fail)
              go_wp2_with fail
              go_meet
              case rel => exact ⟨by rw [EV.out], (Below.refl _ _).drewN _⟩
            · obtain ⟨kb, kbcap, vb, vbcap, H2⟩ := HCC.out (q + 1) (by omega)
              have r0 := (H2 wr HF1.out).1
              have v2 := conv_drew HF1.out (fun wz hz => (H2 wz hz).2.2.1)
              have L2 := less_cmp (H2 wr HF1.out).2.2.1 (HP.out wr HF1.out).2
              have E2 := beq_cmp (H2 wr HF1.out).2.2.1 (HP.out wr HF1.out).2
              have h1' : (q : Int) + 1 < (n : Int) := by omega
              have h2' : ((q : Int) + 1 == (n : Int)) = false := by rw [beq_eq_false_iff_ne]; omega
              have h3' : decide ((q : Int) + 1 = (n : Int)) = false := decide_eq_false (by omega)
              have hq0 : (0 : Int) ≤ (q : Int) + 1 := by omega
              have hw2 : IntKind.wrap .i64 ((q : Int) + 1) = (q : Int) + 1 := IntWalk.i64_in _ ⟨by omega, by omega⟩
              have hc3 : aheadB x n key q = decide (0 < cmpI (x (q + 1)).1 key) := by unfold aheadB; rw [decide_eq_true h0, decide_eq_false h1]; rfl
              generalize hA : strOf (x q).1 = A at v1 L1 E1
              generalize hK : strOf key = KK at vk L1 E1 L2 E2
              clear hA hK
              generalize hB : strOf (x (q + 1)).1 = BB at v2 L2 E2
              clear hB H2
              have hG : ∀ ty, (binOp .lss ty (.string A) (.string KK)) = pure (.bool true) := fun ty => by simp [binOp, Op.stringOp, L1]
              by_cases h4 : 0 < cmpI (x (q + 1)).1 key
              · have EV : Hid (aheadB x n key q = true) := (show aheadB x n key q = true from by rw [hc3, decide_eq_true h4])
                rw [decide_eq_false (by omega)] at L2 E2
                have hG2 : ∀ ty, (binOp .gtr ty (.string BB) (.string KK)) = pure (.bool true) := fun ty => by simp [binOp, Op.stringOp, L2, E2]
                clear h0 h1 L1 E1 L2 E2 h4 hc3
                clear HCC HH
                go_quiet (fail)
                go_wp2_with fail
                go_meet
                case rel => exact ⟨by rw [EV.out], (Below.refl _ _).drewN _⟩
              · have EV : Hid (aheadB x n key q = false) := (show aheadB x n key q = false from by rw [hc3, decide_eq_false h4])
                have hG2 : ∀ ty, (binOp .gtr ty (.string BB) (.string KK)) = pure (.bool false) := fun ty => by
                  by_cases h5 : cmpI (x (q + 1)).1 key < 0
                  · rw [decide_eq_true h5] at L2; simp [binOp, Op.stringOp, L2]
                  · rw [decide_eq_true (show cmpI (x (q + 1)).1 key = 0 by omega)] at E2; rw [decide_eq_false h5] at L2; simp [binOp, Op.stringOp, L2, E2]
                clear h0 h1 L1 E1 L2 E2 h4 hc3
                clear HCC HH
                go_quiet (fail)
                go_wp2_with fail
                go_meet
                case rel => exact ⟨by rw [EV.out], (Below.refl _ _).drewN _⟩
          · have EV : Hid (aheadB x n key q = false) := (show aheadB x n key q = false from by unfold aheadB; rw [decide_eq_false h0]; rfl)
            rw [decide_eq_false h0] at L1
            generalize hA : strOf (x q).1 = A at v1 L1 E1
            generalize hK : strOf key = KK at vk L1 E1
            clear hA hK
            have hG : ∀ ty, (binOp .lss ty (.string A) (.string KK)) = pure (.bool false) := fun ty => by simp [binOp, Op.stringOp, L1]
            clear h0 L1 E1
            clear HCC HH
            go_quiet (fail)
            go_wp2_with fail
            go_meet
            case rel => exact ⟨by rw [EV.out], (Below.refl _ _).drewN _⟩
        case rest =>
          obtain ⟨rfl, hb1⟩ := hcut
          rename World => wb
          have HRS2 : Hid (rsL w6 b8 n (min (q - f) m) y wb) := (show rsL w6 b8 n (min (q - f) m) y wb from rsL.below HRS.out hb1)
          have HF2 : Hid (Below w.heap.size w wb) := (show Below w.heap.size w wb from HF1.out.trans (hb1.mono HF1.out.size))
          clear hb1
          go_upto_region 9 with fail
          go_cut [9] from 55 to 79 (fun p9 wx => p9 = .bool (behindB x n key q) ∧ Below wb.heap.size wb wx)
          case first =>
            have s0 := (HH.out wb HF2.out).1
            have v1 := conv_drew HF2.out (fun wz hz => (HH.out wz hz).2.2.1)
            have vk := conv_drew HF2.out (fun wz hz => (HP.out wz hz).2)
            have L1 := less_cmp (HH.out wb HF2.out).2.2.1 (HP.out wb HF2.out).2
            have E1 := beq_cmp (HH.out wb HF2.out).2.2.1 (HP.out wb HF2.out).2
            have hw1 : IntKind.wrap .i64 (q : Int) = (q : Int) := IntWalk.i64_in _ ⟨by omega, by omega⟩
            by_cases h0 : 0 < cmpI (x q).1 key
            · rw [decide_eq_false (by omega)] at L1 E1
              by_cases h1 : q = 0
              · have EV : Hid (behindB x n key q = true) := (show behindB x n key q = true from by unfold behindB; rw [decide_eq_true h0, decide_eq_true h1]; rfl)
                generalize hA : strOf (x q).1 = A at v1 L1 E1
                generalize hK : strOf key = KK at vk L1 E1
                clear hA hK
                have h2' : ((q : Int) == 0) = true := by simp [h1]
                have h1' : (q : Int) = 0 := by omega
                have h3' : decide ((q : Int) = 0) = true := decide_eq_true h1'
                have h4' : decide (q = 0) = true := decide_eq_true h1
                have hG : ∀ ty, (binOp .gtr ty (.string A) (.string KK)) = pure (.bool true) := fun ty => by simp [binOp, Op.stringOp, L1, E1]
                clear h0 L1 E1 h1 h1'
                clear HCC HH
                go_quiet (fail)
                go_wp2_with fail
                go_meet
                case rel => exact ⟨by rw [EV.out], (Below.refl _ _).drewN _⟩
              · obtain ⟨kb, kbcap, vb, vbcap, H2⟩ := HCC.out (q - 1) (by omega)
                have r0 := (H2 wb HF2.out).1
                have v2 := conv_drew HF2.out (fun wz hz => (H2 wz hz).2.2.1)
                have L2 := less_cmp (H2 wb HF2.out).2.2.1 (HP.out wb HF2.out).2
                have h2' : ((q : Int) == 0) = false := by rw [beq_eq_false_iff_ne]; omega
                have h3' : decide ((q : Int) = 0) = false := decide_eq_false (by omega)
                have h4' : decide (q = 0) = false := decide_eq_false (by omega)
                have e1 : (q : Int) - 1 = ((q - 1 : Nat) : Int) := by omega
                have e2 : ((q - 1 : Nat) : Int) < (n : Int) := by omega
                have e3 : (0 : Int) ≤ ((q - 1 : Nat) : Int) := by omega
                have e4 : IntKind.wrap .i64 ((q - 1 : Nat) : Int) = ((q - 1 : Nat) : Int) := IntWalk.i64_in _ ⟨by omega, by omega⟩
                have hc3 : behindB x n key q = decide (cmpI (x (q - 1)).1 key < 0) := by unfold behindB; rw [decide_eq_true h0, decide_eq_false h1]; rfl
                generalize hA : strOf (x q).1 = A at v1 L1 E1
                generalize hK : strOf key = KK at vk L1 E1 L2
                clear hA hK
                generalize hB : strOf (x (q - 1)).1 = BB at v2 L2
                clear hB H2
                have hG : ∀ ty, (binOp .gtr ty (.string A) (.string KK)) = pure (.bool true) := fun ty => by simp [binOp, Op.stringOp, L1, E1]
                by_cases h4 : cmpI (x (q - 1)).1 key < 0
                · have EV : Hid (behindB x n key q = true) := (show behindB x n key q = true from by rw [hc3, decide_eq_true h4])
                  rw [decide_eq_true h4] at L2
                  have hG2 : ∀ ty, (binOp .lss ty (.string BB) (.string KK)) = pure (.bool true) := fun ty => by simp [binOp, Op.stringOp, L2]
                  clear h0 h1 L1 E1 L2 h4 hc3
                  clear HCC HH
                  go_quiet (fail)
                  go_wp2_with fail
                  go_meet
                  case rel => exact ⟨by rw [EV.out], (Below.refl _ _).drewN _⟩
                · have EV : Hid (behindB x n key q = false) := (show behindB x n key q = false from by rw [hc3, decide_eq_false h4])
                  rw [decide_eq_false h4] at L2
                  have hG2 : ∀ ty, (binOp .lss ty (.string BB) (.string KK)) = pure (.bool false) := fun ty => by simp [binOp, Op.stringOp, L2]
                  clear h0 h1 L1 E1 L2 h4 hc3
                  clear HCC HH
                  go_quiet (fail)
                  go_wp2_with fail
                  go_meet
                  case rel => exact ⟨by rw [EV.out], (Below.refl _ _).drewN _⟩
            · have EV : Hid (behindB x n key q = false) := (show behindB x n key q = false from by unfold behindB; rw [decide_eq_false h0]; rfl)
              have hG0 : ∀ ty, (binOp .gtr ty (.string (strOf (x q).1)) (.string (strOf key))) = pure (.bool false) := fun ty => by
                by_cases h5 : cmpI (x q).1 key < 0
                · rw [decide_eq_true h5] at L1; simp [binOp, Op.stringOp, L1]
                · rw [decide_eq_true (show cmpI (x q).1 key = 0 by omega)] at E1; rw [decide_eq_false h5] at L1; simp [binOp, Op.stringOp, L1, E1]
              clear L1 E1 h0
              generalize hA : strOf (x q).1 = A at v1 hG0
              generalize hK : strOf key = KK at vk hG0
              clear hA hK
              clear HCC HH
              go_quiet (fail)
              go_wp2_with fail
              go_meet
              case rel => exact ⟨by rw [EV.out], (Below.refl _ _).drewN _⟩
          case rest =>
            obtain ⟨rfl, hb1⟩ := hcut
            rename World => wc
            have HRS3 : Hid (rsL w6 b8 n (min (q - f) m) y wc) := (show rsL w6 b8 n (min (q - f) m) y wc from rsL.below HRS2.out hb1)
            have HF3 : Hid (Below w.heap.size w wc) := (show Below w.heap.size w wc from HF2.out.trans (hb1.mono HF2.out.size))
            clear hb1
            go_upto_region 10 with fail
            have ES : Hid (shownB x n key t q = (decide ((q : Int) = t) || (decide (t < 0) && (aheadB x n key q || behindB x n key q)))) := (show shownB x n key t q = (decide ((q : Int) = t) || (decide (t < 0) && (aheadB x n key q || behindB x n key q))) from rfl)
            generalize aheadB x n key q = ab at ES ⊢
            generalize behindB x n key q = bb at ES ⊢
            obtain ⟨ti0, ti1⟩ := HTI.out
            go_cut [92] from 80 to 92 (fun p92 wx => p92 = .bool (shownB x n key t q) ∧ wx = wc)
            case first =>
              by_cases h1 : (q : Int) = t
              · have EV : Hid (shownB x n key t q = true) := (show shownB x n key t q = true from by rw [ES.out, decide_eq_true h1]; rfl)
                have h2 : ((q : Int) == t) = true := by simp [h1]
                have h3 : decide ((q : Int) = t) = true := decide_eq_true h1
                clear ES h1
                go_wp2_with fail
                go_meet
                case rel => exact ⟨by rw [EV.out], rfl⟩
              · have h2 : ((q : Int) == t) = false := by rw [beq_eq_false_iff_ne]; exact h1
                have h3 : decide ((q : Int) = t) = false := decide_eq_false h1
                by_cases h4 : t < 0
                · have h5 : decide (t < 0) = true := decide_eq_true h4
                  cases ab with
                  | true =>
                    have EV : Hid (shownB x n key t q = true) := (show shownB x n key t q = true from by rw [ES.out, h3, h5]; rfl)
                    clear ES
                    go_wp2_with fail
                    go_meet
                    case rel => exact ⟨by rw [EV.out], rfl⟩
                  | false =>
                    cases bb with
                    | true =>
                      have EV : Hid (shownB x n key t q = true) := (show shownB x n key t q = true from by rw [ES.out, h3, h5]; rfl)
                      clear ES
                      go_wp2_with fail
                      go_meet
                      case rel => exact ⟨by rw [EV.out], rfl⟩
                    | false =>
                      have EV : Hid (shownB x n key t q = false) := (show shownB x n key t q = false from by rw [ES.out, h3, h5]; rfl)
                      clear ES
                      go_wp2_with fail
                      go_meet
                      case rel => exact ⟨by rw [EV.out], rfl⟩
                · have h5 : decide (t < 0) = false := decide_eq_false h4
                  have EV : Hid (shownB x n key t q = false) := (show shownB x n key t q = false from by rw [ES.out, h3, h5]; rfl)
                  clear ES
                  go_wp2_with fail
                  go_meet
                  case rel => exact ⟨by rw [EV.out], rfl⟩
            case rest =>
              obtain ⟨rfl, hw⟩ := hcut
              subst hw
              clear ES
              have hsh := HSH.out q hlt
              cases hsb : shownB x n key t q with
              | false =>
                have hmn : min (q + 1 - f) m = min (q - f) m := by
                  rw [hsb] at hsh
                  have : ¬ (f ≤ q ∧ q < f + m) := fun h => by have := hsh.2 h; cases this
                  omega
                have NX : Hid (rsL w6 b8 n (min (q + 1 - f) m) y wc) := (show rsL w6 b8 n (min (q + 1 - f) m) y wc from by rw [hmn]; exact HRS3.out)
                clear hsh hmn hsb
                go_wp2_with fail
                go_light
                exact ⟨⟨q + 1, by omega, by go_num, NX.out⟩, by simp [intOf]; omega⟩
              | true =>
                obtain ⟨hk1, hk2⟩ := hsh.1 hsb
                obtain ⟨k, hk⟩ : ∃ k, k = q - f := ⟨_, rfl⟩
                have hmn : min (q - f) m = k := by omega
                have hrs := HRS3.out
                rw [hmn] at hrs
                obtain ⟨hbut, oa, oc, r8, hos⟩ := hrs
                have HKK : Hid (k < m ∧ q = f + k ∧ min (q + 1 - f) m = k + 1) := (show _ ∧ _ ∧ _ from ⟨by omega, by omega, by omega⟩)
                have HB : Hid (But w6.heap.size b8 w6 wc) := (show _ from hbut)
                have HR8 : Hid (wc.rowIs b8 29 2 (seG n (.slice oa k oc))) := (show _ from r8)
                have HOS : Hid (ownSpots wc w6.heap.size b8 (.slice oa k oc) k y) := (show _ from hos)
                have FC : Hid (∀ wz, Below w.heap.size w wz → wz.cell? ⟨g, o + q * 2, none⟩ = some (.slice ka (x q).1.length kcap) ∧ wz.cell? ⟨g, o + q * 2 + 1, none⟩ = some (.slice va (x q).2.length vcap)) := (show _ from fun wz hz => ⟨(HH.out wz hz).1, (HH.out wz hz).2.1⟩)
                have FA : Hid (∀ wz, Below w.heap.size w wz → anyBytes wz (.slice ka (x q).1.length kcap) (x q).1 ∧ anyBytes wz (.slice va (x q).2.length vcap) (x q).2) := (show _ from fun wz hz => ⟨(HH.out wz hz).2.2.1, (HH.out wz hz).2.2.2⟩)
                have HXQ : Hid ((x q).1.length + (x q).2.length ≤ 1000000) := (show _ from HQ.out.2.1 q hlt)
                clear hsh hk1 hk2 hmn hsb hk hbut r8 hos HRS HRS2 HRS3 HF1 HF2 HCC HH ti0 ti1
                go_upto_region 11 with fail
                go_cut [10] from 93 to 107 (fun p10 wx => ∃ (b9 : Nat) (ua : Option Addr) (uc : Nat) (va2 : Option Addr) (vc2 : Nat), p10 = .pointer (some ⟨b9, 0, none⟩) ∧ Below wc.heap.size wc wx ∧ wx.rowIs b9 38 2 (prG (.slice ua (x q).1.length uc) (.slice va2 (x q).2.length vc2)) ∧ wc.heap.size ≤ b9 ∧ newBytes wx wc.heap.size (.slice ua (x q).1.length uc) (x q).1 ∧ newBytes wx wc.heap.size (.slice va2 (x q).2.length vc2) (x q).2)
                case first =>
                  have HBR : Hid (Below w.heap.size w wc) := (show _ from HF3.out)
                  have BD : Below wc.heap.size wc wc.drew := (Below.refl _ _).drew
                  have H : pqx wc wc.drew none none none := ⟨⟨BD, (fun u l h => by cases h), (fun u l h => by cases h), fun a la b lb h => by cases h⟩, fun c h => by cases h⟩
                  refine wp_region_noPanic ?_
                  refine wp_region_held_drew (S := fun w' => Below w.heap.size w w') (by kernel_rfl) (HBR.out.trans (BD.mono HBR.out.size)) (fun hHeld => ?_)
                  clear BD
                  generalize wc.drew = W at hHeld H ⊢
                  refine take_op (i := 1) (v := ?va1) rfl (by kernel_rfl) (by kernel_rfl) (by kernel_rfl) (fun _ _ _ h => h) rfl hHeld ?ya1 ?ra1
                  case ya1 => (intro wz hz; go_simp; first | done | with_reducible rfl)
                  try simp only [Act.put, List.setIfInBounds_toArray, List.set_cons_zero, List.set_cons_succ]
                  refine take_op (i := 2) (v := ?va2) rfl (by kernel_rfl) (by kernel_rfl) (by kernel_rfl) (fun _ _ _ h => h) rfl hHeld ?ya2 ?ra2
                  case ya2 => (intro wz hz; go_simp; first | done | with_reducible rfl)
                  try simp only [Act.put, List.setIfInBounds_toArray, List.set_cons_zero, List.set_cons_succ]
                  refine take_op (i := 3) (v := ?va3) rfl (by kernel_rfl) (by kernel_rfl) (by kernel_rfl) (fun _ _ _ h => h) rfl hHeld ?ya3 ?ra3
                  case ya3 => (intro wz hz; go_simp; first | done | with_reducible rfl)
                  try simp only [Act.put, List.setIfInBounds_toArray, List.set_cons_zero, List.set_cons_succ]
                  refine take_op (i := 4) (v := ?va4) rfl (by kernel_rfl) (by kernel_rfl) (by kernel_rfl) (fun _ _ _ h => h) rfl hHeld ?ya4 ?ra4
                  case ya4 => (intro wz hz; go_simp; first | done | with_reducible rfl)
                  try simp only [Act.put, List.setIfInBounds_toArray, List.set_cons_zero, List.set_cons_succ]
                  refine take_op (i := 5) (v := ?va5) rfl (by kernel_rfl) (by kernel_rfl) (by kernel_rfl) (fun _ _ _ h => h) rfl hHeld ?ya5 ?ra5
                  case ya5 => (intro wz hz; have hcz := (FC.out wz hz).1; go_simp; first | done | with_reducible rfl)
                  try simp only [Act.put, List.setIfInBounds_toArray, List.set_cons_zero, List.set_cons_succ]
                  refine take_op (i := 8) (v := ?va8) rfl (by kernel_rfl) (by kernel_rfl) (by kernel_rfl) (fun _ _ _ h => h) rfl hHeld ?ya8 ?ra8
                  case ya8 => (intro wz hz; go_simp; first | done | with_reducible rfl)
                  try simp only [Act.put, List.setIfInBounds_toArray, List.set_cons_zero, List.set_cons_succ]
                  refine take_op (i := 9) (v := ?va9) rfl (by kernel_rfl) (by kernel_rfl) (by kernel_rfl) (fun _ _ _ h => h) rfl hHeld ?ya9 ?ra9
                  case ya9 => (intro wz hz; go_simp; first | done | with_reducible rfl)
                  try simp only [Act.put, List.setIfInBounds_toArray, List.set_cons_zero, List.set_cons_succ]
                  refine take_op (i := 10) (v := ?va10) rfl (by kernel_rfl) (by kernel_rfl) (by kernel_rfl) (fun _ _ _ h => h) rfl hHeld ?ya10 ?ra10
                  case ya10 => (intro wz hz; go_simp; first | done | with_reducible rfl)
                  try simp only [Act.put, List.setIfInBounds_toArray, List.set_cons_zero, List.set_cons_succ]
                  refine take_op (i := 11) (v := ?va11) rfl (by kernel_rfl) (by kernel_rfl) (by kernel_rfl) (fun _ _ _ h => h) rfl hHeld ?ya11 ?ra11
                  case ya11 => (intro wz hz; go_simp; first | done | with_reducible rfl)
                  try simp only [Act.put, List.setIfInBounds_toArray, List.set_cons_zero, List.set_cons_succ]
                  refine take_op (i := 12) (v := ?va12) rfl (by kernel_rfl) (by kernel_rfl) (by kernel_rfl) (fun _ _ _ h => h) rfl hHeld ?ya12 ?ra12
                  case ya12 => (intro wz hz; have hcz := (FC.out wz hz).2; go_simp; first | done | with_reducible rfl)
                  try simp only [Act.put, List.setIfInBounds_toArray, List.set_cons_zero, List.set_cons_succ]
                  refine regionKK (fun G hG => ?_)
                  refine actKK (p := fun a => G 7 _ a W) (fun a0 ha0 => ?_)
                  refine listKK (p := fun l => G 7 l a0 W) (fun l0 hl0 => ?_)
                  have HG : Hid _ := hG
                  have HA0 : Hid _ := ha0
                  have HL0 : Hid _ := hl0
                  clear hG ha0 hl0 hHeld
                  have ST221 : Hid (∀ (p1 : Nat), ∀ (ua : Option Addr) (uc : Nat), ∀ (p2 : Nat), ∀ (va2 : Option Addr) (vc2 : Nat), ∀ (b9 : Nat), ∀ W : World, pqx wc W (some ((.slice ua (x q).1.length uc), (x q).1)) (some ((.slice va2 (x q).2.length vc2), (x q).2)) (some b9) → G 1 ((((((l0.setIfInBounds 0 true).setIfInBounds 6 true).setIfInBounds 7 true).setIfInBounds 13 true).setIfInBounds 14 true).setIfInBounds 15 true) ((((((a0.put (some 93) (.slice (some ⟨p1, 0, none⟩) 0 0)).put (some 99) (.slice ua (x q).1.length uc)).put (some 100) (.slice (some ⟨p2, 0, none⟩) 0 0)).put (some 106) (.slice va2 (x q).2.length vc2)).put (some 107) (.agg (rowV 2 (prG (.slice ua (x q).1.length uc) (.slice va2 (x q).2.length vc2))))).put (some 10) (.pointer (some ⟨b9, 0, none⟩))) W) := (show ∀ (p1 : Nat), ∀ (ua : Option Addr) (uc : Nat), ∀ (p2 : Nat), ∀ (va2 : Option Addr) (vc2 : Nat), ∀ (b9 : Nat), ∀ W : World, pqx wc W (some ((.slice ua (x q).1.length uc), (x q).1)) (some ((.slice va2 (x q).2.length vc2), (x q).2)) (some b9) → G 1 ((((((l0.setIfInBounds 0 true).setIfInBounds 6 true).setIfInBounds 7 true).setIfInBounds 13 true).setIfInBounds 14 true).setIfInBounds 15 true) ((((((a0.put (some 93) (.slice (some ⟨p1, 0, none⟩) 0 0)).put (some 99) (.slice ua (x q).1.length uc)).put (some 100) (.slice (some ⟨p2, 0, none⟩) 0 0)).put (some 106) (.slice va2 (x q).2.length vc2)).put (some 107) (.agg (rowV 2 (prG (.slice ua (x q).1.length uc) (.slice va2 (x q).2.length vc2))))).put (some 10) (.pointer (some ⟨b9, 0, none⟩))) W from by
                    intro p1 ua uc p2 va2 vc2 b9 W H
                    rw [HA0.out, HL0.out, HG.out]
                    try simp only [Act.put, List.setIfInBounds_toArray, List.set_cons_zero, List.set_cons_succ]
                    have hHeld : Below w.heap.size w W := HBR.out.trans (H.1.1.mono HBR.out.size)
                    obtain ⟨V, e1, r1, z1, c1⟩ := pr_store W b9 (prG (.slice ua (x q).1.length uc) (.slice va2 (x q).2.length vc2)) (H.2 b9 rfl).2 (prG_one _ _ _ _ _ _)
                    have hb9 := (H.2 b9 rfl).1
                    have bV : Below wc.heap.size wc V := H.1.1.trans ((c1.mono H.1.1.size).below (by omega))
                    have n1 : newBytes V wc.heap.size (.slice ua (x q).1.length uc) (x q).1 := (H.1.2.1 _ _ rfl).apart (fun j hj => c1.block j ((H.1.2.1 _ _ rfl).block j hj).2 ((H.1.2.1 _ _ rfl).notrow (H.2 b9 rfl).2 (by decide) j hj))
                    have n2 : newBytes V wc.heap.size (.slice va2 (x q).2.length vc2) (x q).2 := (H.1.2.2.1 _ _ rfl).apart (fun j hj => c1.block j ((H.1.2.2.1 _ _ rfl).block j hj).2 ((H.1.2.2.1 _ _ rfl).notrow (H.2 b9 rfl).2 (by decide) j hj))
                    refine take_one (i := 16) rfl (by kernel_rfl) rfl (fun K hK => ?_)
                    unfold Oper.wp execOp
                    simp only [Instr.storeAt, Instr.sureAddr, Sem.run_bind, Sem.run_pure, Result.andThen_ok]
                    simp [Act.eval, e1, Oper.upon]
                    refine hK.out _ _ (HBR.out.trans (bV.mono HBR.out.size)) (fun hHeld => ?_)
                    clear hK K
                    try simp only [Act.put, List.setIfInBounds_toArray, List.set_cons_zero, List.set_cons_succ]
                    refine wpAnyH_done (by kernel_rfl) ?_ _
                    refine NoPanic.normal ?_
                    clear e1 H hHeld c1 z1
                    go_wp2_with fail
                    go_meet
                    case rel => exact ⟨b9, _, _, _, _, rfl, bV, r1, hb9, n1, n2⟩)
                  have ST211 : Hid (∀ (p1 : Nat), ∀ (ua : Option Addr) (uc : Nat), ∀ (p2 : Nat), ∀ (b9 : Nat), ∀ W : World, pqx wc W (some ((.slice ua (x q).1.length uc), (x q).1)) (some ((.slice (some ⟨p2, 0, none⟩) 0 0), [])) (some b9) → G 3 ((((l0.setIfInBounds 0 true).setIfInBounds 6 true).setIfInBounds 7 true).setIfInBounds 15 true) ((((a0.put (some 93) (.slice (some ⟨p1, 0, none⟩) 0 0)).put (some 99) (.slice ua (x q).1.length uc)).put (some 100) (.slice (some ⟨p2, 0, none⟩) 0 0)).put (some 10) (.pointer (some ⟨b9, 0, none⟩))) W) := (show ∀ (p1 : Nat), ∀ (ua : Option Addr) (uc : Nat), ∀ (p2 : Nat), ∀ (b9 : Nat), ∀ W : World, pqx wc W (some ((.slice ua (x q).1.length uc), (x q).1)) (some ((.slice (some ⟨p2, 0, none⟩) 0 0), [])) (some b9) → G 3 ((((l0.setIfInBounds 0 true).setIfInBounds 6 true).setIfInBounds 7 true).setIfInBounds 15 true) ((((a0.put (some 93) (.slice (some ⟨p1, 0, none⟩) 0 0)).put (some 99) (.slice ua (x q).1.length uc)).put (some 100) (.slice (some ⟨p2, 0, none⟩) 0 0)).put (some 10) (.pointer (some ⟨b9, 0, none⟩))) W from by
                    intro p1 ua uc p2 b9 W H
                    rw [HA0.out, HL0.out, HG.out]
                    try simp only [Act.put, List.setIfInBounds_toArray, List.set_cons_zero, List.set_cons_succ]
                    refine take_one (i := 13) rfl (by kernel_rfl) rfl (fun K hK => ?_)
                    obtain ⟨u, W2, hr, H2⟩ := H.swap.fill (FA.out W (HBR.out.trans (H.1.1.mono HBR.out.size))).2 (by have := HXQ.out; omega)
                    replace H2 := H2.swap
                    obtain ⟨va2, vc2, rfl⟩ := (H2.1.2.2.1 _ _ rfl).slen
                    refine wp_append_run (.tmp 100) (.tmp 105) 23 rfl rfl rfl hr ?_
                    refine hK.out _ _ (HBR.out.trans (H2.1.1.mono HBR.out.size)) (fun hHeld => ?_)
                    try simp only [Act.put, List.setIfInBounds_toArray, List.set_cons_zero, List.set_cons_succ]
                    refine take_op (i := 14) (v := .agg (rowV 2 (prG (.slice ua (x q).1.length uc) (.slice va2 (x q).2.length vc2)))) rfl (by kernel_rfl) (by kernel_rfl) (by kernel_rfl) (fun _ _ _ h => h) rfl hHeld (fun wz hz => exec_build2 38 0 1 (.tmp 99) (.tmp 106) (.slice ua (x q).1.length uc) (.slice va2 (x q).2.length vc2) rfl rfl rfl (build_pr ua va2 (x q).1.length uc (x q).2.length vc2 wz)) ?_
                    try simp only [Act.put, List.setIfInBounds_toArray, List.set_cons_zero, List.set_cons_succ]
                    have T := ST221.out p1 ua uc p2 va2 vc2 b9 W2 H2
                    rw [HA0.out, HL0.out, HG.out] at T
                    try simp only [Act.put, List.setIfInBounds_toArray, List.set_cons_zero, List.set_cons_succ] at T
                    exact lcongK (by kernel_rfl) T)
                  have ST220 : Hid (∀ (p1 : Nat), ∀ (ua : Option Addr) (uc : Nat), ∀ (p2 : Nat), ∀ (va2 : Option Addr) (vc2 : Nat), ∀ W : World, pqx wc W (some ((.slice ua (x q).1.length uc), (x q).1)) (some ((.slice va2 (x q).2.length vc2), (x q).2)) none → G 2 (((((l0.setIfInBounds 0 true).setIfInBounds 6 true).setIfInBounds 7 true).setIfInBounds 13 true).setIfInBounds 14 true) (((((a0.put (some 93) (.slice (some ⟨p1, 0, none⟩) 0 0)).put (some 99) (.slice ua (x q).1.length uc)).put (some 100) (.slice (some ⟨p2, 0, none⟩) 0 0)).put (some 106) (.slice va2 (x q).2.length vc2)).put (some 107) (.agg (rowV 2 (prG (.slice ua (x q).1.length uc) (.slice va2 (x q).2.length vc2))))) W) := (show ∀ (p1 : Nat), ∀ (ua : Option Addr) (uc : Nat), ∀ (p2 : Nat), ∀ (va2 : Option Addr) (vc2 : Nat), ∀ W : World, pqx wc W (some ((.slice ua (x q).1.length uc), (x q).1)) (some ((.slice va2 (x q).2.length vc2), (x q).2)) none → G 2 (((((l0.setIfInBounds 0 true).setIfInBounds 6 true).setIfInBounds 7 true).setIfInBounds 13 true).setIfInBounds 14 true) (((((a0.put (some 93) (.slice (some ⟨p1, 0, none⟩) 0 0)).put (some 99) (.slice ua (x q).1.length uc)).put (some 100) (.slice (some ⟨p2, 0, none⟩) 0 0)).put (some 106) (.slice va2 (x q).2.length vc2)).put (some 107) (.agg (rowV 2 (prG (.slice ua (x q).1.length uc) (.slice va2 (x q).2.length vc2))))) W from by
                    intro p1 ua uc p2 va2 vc2 W H
                    rw [HA0.out, HL0.out, HG.out]
                    try simp only [Act.put, List.setIfInBounds_toArray, List.set_cons_zero, List.set_cons_succ]
                    refine take_one (i := 15) rfl (by kernel_rfl) rfl (fun K hK => ?_)
                    refine wp_of_run (exec_allocPr rfl) ?_
                    have H2 := H.box
                    refine hK.out _ _ (HBR.out.trans (H2.1.1.mono HBR.out.size)) (fun hHeld => ?_)
                    try simp only [Act.put, List.setIfInBounds_toArray, List.set_cons_zero, List.set_cons_succ]
                    have T := ST221.out p1 ua uc p2 va2 vc2 W.heap.size (W.alloc (.cells (rowV 2 prZ) 38)) H2
                    rw [HA0.out, HL0.out, HG.out] at T
                    try simp only [Act.put, List.setIfInBounds_toArray, List.set_cons_zero, List.set_cons_succ] at T
                    exact lcongK (by kernel_rfl) T)
                  have ST201 : Hid (∀ (p1 : Nat), ∀ (ua : Option Addr) (uc : Nat), ∀ (b9 : Nat), ∀ W : World, pqx wc W (some ((.slice ua (x q).1.length uc), (x q).1)) none (some b9) → G 4 (((l0.setIfInBounds 0 true).setIfInBounds 6 true).setIfInBounds 15 true) (((a0.put (some 93) (.slice (some ⟨p1, 0, none⟩) 0 0)).put (some 99) (.slice ua (x q).1.length uc)).put (some 10) (.pointer (some ⟨b9, 0, none⟩))) W) := (show ∀ (p1 : Nat), ∀ (ua : Option Addr) (uc : Nat), ∀ (b9 : Nat), ∀ W : World, pqx wc W (some ((.slice ua (x q).1.length uc), (x q).1)) none (some b9) → G 4 (((l0.setIfInBounds 0 true).setIfInBounds 6 true).setIfInBounds 15 true) (((a0.put (some 93) (.slice (some ⟨p1, 0, none⟩) 0 0)).put (some 99) (.slice ua (x q).1.length uc)).put (some 10) (.pointer (some ⟨b9, 0, none⟩))) W from by
                    intro p1 ua uc b9 W H
                    rw [HA0.out, HL0.out, HG.out]
                    try simp only [Act.put, List.setIfInBounds_toArray, List.set_cons_zero, List.set_cons_succ]
                    refine take_one (i := 7) rfl (by kernel_rfl) rfl (fun K hK => ?_)
                    refine wp_of_run (exec_bslice0' 23 0 rfl (build_b0 W)) ?_
                    have H2 := (H.swap.make).swap
                    refine hK.out _ _ (HBR.out.trans (H2.1.1.mono HBR.out.size)) (fun hHeld => ?_)
                    try simp only [Act.put, List.setIfInBounds_toArray, List.set_cons_zero, List.set_cons_succ]
                    have T := ST211.out p1 ua uc W.heap.size b9 (W.alloc (.cells #[] 5)) H2
                    rw [HA0.out, HL0.out, HG.out] at T
                    try simp only [Act.put, List.setIfInBounds_toArray, List.set_cons_zero, List.set_cons_succ] at T
                    exact lcongK (by kernel_rfl) T)
                  have ST111 : Hid (∀ (p1 : Nat), ∀ (p2 : Nat), ∀ (b9 : Nat), ∀ W : World, pqx wc W (some ((.slice (some ⟨p1, 0, none⟩) 0 0), [])) (some ((.slice (some ⟨p2, 0, none⟩) 0 0), [])) (some b9) → G 4 (((l0.setIfInBounds 0 true).setIfInBounds 7 true).setIfInBounds 15 true) (((a0.put (some 93) (.slice (some ⟨p1, 0, none⟩) 0 0)).put (some 100) (.slice (some ⟨p2, 0, none⟩) 0 0)).put (some 10) (.pointer (some ⟨b9, 0, none⟩))) W) := (show ∀ (p1 : Nat), ∀ (p2 : Nat), ∀ (b9 : Nat), ∀ W : World, pqx wc W (some ((.slice (some ⟨p1, 0, none⟩) 0 0), [])) (some ((.slice (some ⟨p2, 0, none⟩) 0 0), [])) (some b9) → G 4 (((l0.setIfInBounds 0 true).setIfInBounds 7 true).setIfInBounds 15 true) (((a0.put (some 93) (.slice (some ⟨p1, 0, none⟩) 0 0)).put (some 100) (.slice (some ⟨p2, 0, none⟩) 0 0)).put (some 10) (.pointer (some ⟨b9, 0, none⟩))) W from by
                    intro p1 p2 b9 W H
                    rw [HA0.out, HL0.out, HG.out]
                    try simp only [Act.put, List.setIfInBounds_toArray, List.set_cons_zero, List.set_cons_succ]
                    refine take_one (i := 6) rfl (by kernel_rfl) rfl (fun K hK => ?_)
                    obtain ⟨u, W2, hr, H2⟩ := H.fill (FA.out W (HBR.out.trans (H.1.1.mono HBR.out.size))).1 (by have := HXQ.out; omega)
                    obtain ⟨ua, uc, rfl⟩ := (H2.1.2.1 _ _ rfl).slen
                    refine wp_append_run (.tmp 93) (.tmp 98) 23 rfl rfl rfl hr ?_
                    refine hK.out _ _ (HBR.out.trans (H2.1.1.mono HBR.out.size)) (fun hHeld => ?_)
                    try simp only [Act.put, List.setIfInBounds_toArray, List.set_cons_zero, List.set_cons_succ]
                    have T := ST211.out p1 ua uc p2 b9 W2 H2
                    rw [HA0.out, HL0.out, HG.out] at T
                    try simp only [Act.put, List.setIfInBounds_toArray, List.set_cons_zero, List.set_cons_succ] at T
                    exact lcongK (by kernel_rfl) T)
                  have ST210 : Hid (∀ (p1 : Nat), ∀ (ua : Option Addr) (uc : Nat), ∀ (p2 : Nat), ∀ W : World, pqx wc W (some ((.slice ua (x q).1.length uc), (x q).1)) (some ((.slice (some ⟨p2, 0, none⟩) 0 0), [])) none → G 4 (((l0.setIfInBounds 0 true).setIfInBounds 6 true).setIfInBounds 7 true) (((a0.put (some 93) (.slice (some ⟨p1, 0, none⟩) 0 0)).put (some 99) (.slice ua (x q).1.length uc)).put (some 100) (.slice (some ⟨p2, 0, none⟩) 0 0)) W) := (show ∀ (p1 : Nat), ∀ (ua : Option Addr) (uc : Nat), ∀ (p2 : Nat), ∀ W : World, pqx wc W (some ((.slice ua (x q).1.length uc), (x q).1)) (some ((.slice (some ⟨p2, 0, none⟩) 0 0), [])) none → G 4 (((l0.setIfInBounds 0 true).setIfInBounds 6 true).setIfInBounds 7 true) (((a0.put (some 93) (.slice (some ⟨p1, 0, none⟩) 0 0)).put (some 99) (.slice ua (x q).1.length uc)).put (some 100) (.slice (some ⟨p2, 0, none⟩) 0 0)) W from by
                    intro p1 ua uc p2 W H
                    rw [HA0.out, HL0.out, HG.out]
                    try simp only [Act.put, List.setIfInBounds_toArray, List.set_cons_zero, List.set_cons_succ]
                    refine take_pair (i := 13) (j := 15) rfl rfl (by kernel_rfl) rfl rfl (fun K hK => ?_) (fun K hK => ?_)
                    · obtain ⟨u, W2, hr, H2⟩ := H.swap.fill (FA.out W (HBR.out.trans (H.1.1.mono HBR.out.size))).2 (by have := HXQ.out; omega)
                      replace H2 := H2.swap
                      obtain ⟨va2, vc2, rfl⟩ := (H2.1.2.2.1 _ _ rfl).slen
                      refine wp_append_run (.tmp 100) (.tmp 105) 23 rfl rfl rfl hr ?_
                      refine hK.out _ _ (HBR.out.trans (H2.1.1.mono HBR.out.size)) (fun hHeld => ?_)
                      try simp only [Act.put, List.setIfInBounds_toArray, List.set_cons_zero, List.set_cons_succ]
                      refine take_op (i := 14) (v := .agg (rowV 2 (prG (.slice ua (x q).1.length uc) (.slice va2 (x q).2.length vc2)))) rfl (by kernel_rfl) (by kernel_rfl) (by kernel_rfl) (fun _ _ _ h => h) rfl hHeld (fun wz hz => exec_build2 38 0 1 (.tmp 99) (.tmp 106) (.slice ua (x q).1.length uc) (.slice va2 (x q).2.length vc2) rfl rfl rfl (build_pr ua va2 (x q).1.length uc (x q).2.length vc2 wz)) ?_
                      try simp only [Act.put, List.setIfInBounds_toArray, List.set_cons_zero, List.set_cons_succ]
                      have T := ST220.out p1 ua uc p2 va2 vc2 W2 H2
                      rw [HA0.out, HL0.out, HG.out] at T
                      try simp only [Act.put, List.setIfInBounds_toArray, List.set_cons_zero, List.set_cons_succ] at T
                      exact lcongK (by kernel_rfl) T
                    · refine wp_of_run (exec_allocPr rfl) ?_
                      have H2 := H.box
                      refine hK.out _ _ (HBR.out.trans (H2.1.1.mono HBR.out.size)) (fun hHeld => ?_)
                      try simp only [Act.put, List.setIfInBounds_toArray, List.set_cons_zero, List.set_cons_succ]
                      have T := ST211.out p1 ua uc p2 W.heap.size (W.alloc (.cells (rowV 2 prZ) 38)) H2
                      rw [HA0.out, HL0.out, HG.out] at T
                      try simp only [Act.put, List.setIfInBounds_toArray, List.set_cons_zero, List.set_cons_succ] at T
                      exact lcongK (by kernel_rfl) T)
                  have ST101 : Hid (∀ (p1 : Nat), ∀ (b9 : Nat), ∀ W : World, pqx wc W (some ((.slice (some ⟨p1, 0, none⟩) 0 0), [])) none (some b9) → G 5 ((l0.setIfInBounds 0 true).setIfInBounds 15 true) ((a0.put (some 93) (.slice (some ⟨p1, 0, none⟩) 0 0)).put (some 10) (.pointer (some ⟨b9, 0, none⟩))) W) := (show ∀ (p1 : Nat), ∀ (b9 : Nat), ∀ W : World, pqx wc W (some ((.slice (some ⟨p1, 0, none⟩) 0 0), [])) none (some b9) → G 5 ((l0.setIfInBounds 0 true).setIfInBounds 15 true) ((a0.put (some 93) (.slice (some ⟨p1, 0, none⟩) 0 0)).put (some 10) (.pointer (some ⟨b9, 0, none⟩))) W from by
                    intro p1 b9 W H
                    rw [HA0.out, HL0.out, HG.out]
                    try simp only [Act.put, List.setIfInBounds_toArray, List.set_cons_zero, List.set_cons_succ]
                    refine take_pair (i := 6) (j := 7) rfl rfl (by kernel_rfl) rfl rfl (fun K hK => ?_) (fun K hK => ?_)
                    · obtain ⟨u, W2, hr, H2⟩ := H.fill (FA.out W (HBR.out.trans (H.1.1.mono HBR.out.size))).1 (by have := HXQ.out; omega)
                      obtain ⟨ua, uc, rfl⟩ := (H2.1.2.1 _ _ rfl).slen
                      refine wp_append_run (.tmp 93) (.tmp 98) 23 rfl rfl rfl hr ?_
                      refine hK.out _ _ (HBR.out.trans (H2.1.1.mono HBR.out.size)) (fun hHeld => ?_)
                      try simp only [Act.put, List.setIfInBounds_toArray, List.set_cons_zero, List.set_cons_succ]
                      have T := ST201.out p1 ua uc b9 W2 H2
                      rw [HA0.out, HL0.out, HG.out] at T
                      try simp only [Act.put, List.setIfInBounds_toArray, List.set_cons_zero, List.set_cons_succ] at T
                      exact lcongK (by kernel_rfl) T
                    · refine wp_of_run (exec_bslice0' 23 0 rfl (build_b0 W)) ?_
                      have H2 := (H.swap.make).swap
                      refine hK.out _ _ (HBR.out.trans (H2.1.1.mono HBR.out.size)) (fun hHeld => ?_)
                      try simp only [Act.put, List.setIfInBounds_toArray, List.set_cons_zero, List.set_cons_succ]
                      have T := ST111.out p1 W.heap.size b9 (W.alloc (.cells #[] 5)) H2
                      rw [HA0.out, HL0.out, HG.out] at T
                      try simp only [Act.put, List.setIfInBounds_toArray, List.set_cons_zero, List.set_cons_succ] at T
                      exact lcongK (by kernel_rfl) T)
                  have ST011 : Hid (∀ (p2 : Nat), ∀ (b9 : Nat), ∀ W : World, pqx wc W none (some ((.slice (some ⟨p2, 0, none⟩) 0 0), [])) (some b9) → G 5 ((l0.setIfInBounds 7 true).setIfInBounds 15 true) ((a0.put (some 100) (.slice (some ⟨p2, 0, none⟩) 0 0)).put (some 10) (.pointer (some ⟨b9, 0, none⟩))) W) := (show ∀ (p2 : Nat), ∀ (b9 : Nat), ∀ W : World, pqx wc W none (some ((.slice (some ⟨p2, 0, none⟩) 0 0), [])) (some b9) → G 5 ((l0.setIfInBounds 7 true).setIfInBounds 15 true) ((a0.put (some 100) (.slice (some ⟨p2, 0, none⟩) 0 0)).put (some 10) (.pointer (some ⟨b9, 0, none⟩))) W from by
                    intro p2 b9 W H
                    rw [HA0.out, HL0.out, HG.out]
                    try simp only [Act.put, List.setIfInBounds_toArray, List.set_cons_zero, List.set_cons_succ]
                    refine take_one (i := 0) rfl (by kernel_rfl) rfl (fun K hK => ?_)
                    refine wp_of_run (exec_bslice0' 23 0 rfl (build_b0 W)) ?_
                    have H2 := H.make
                    refine hK.out _ _ (HBR.out.trans (H2.1.1.mono HBR.out.size)) (fun hHeld => ?_)
                    try simp only [Act.put, List.setIfInBounds_toArray, List.set_cons_zero, List.set_cons_succ]
                    have T := ST111.out W.heap.size p2 b9 (W.alloc (.cells #[] 5)) H2
                    rw [HA0.out, HL0.out, HG.out] at T
                    try simp only [Act.put, List.setIfInBounds_toArray, List.set_cons_zero, List.set_cons_succ] at T
                    exact lcongK (by kernel_rfl) T)
                  have ST200 : Hid (∀ (p1 : Nat), ∀ (ua : Option Addr) (uc : Nat), ∀ W : World, pqx wc W (some ((.slice ua (x q).1.length uc), (x q).1)) none none → G 5 ((l0.setIfInBounds 0 true).setIfInBounds 6 true) ((a0.put (some 93) (.slice (some ⟨p1, 0, none⟩) 0 0)).put (some 99) (.slice ua (x q).1.length uc)) W) := (show ∀ (p1 : Nat), ∀ (ua : Option Addr) (uc : Nat), ∀ W : World, pqx wc W (some ((.slice ua (x q).1.length uc), (x q).1)) none none → G 5 ((l0.setIfInBounds 0 true).setIfInBounds 6 true) ((a0.put (some 93) (.slice (some ⟨p1, 0, none⟩) 0 0)).put (some 99) (.slice ua (x q).1.length uc)) W from by
                    intro p1 ua uc W H
                    rw [HA0.out, HL0.out, HG.out]
                    try simp only [Act.put, List.setIfInBounds_toArray, List.set_cons_zero, List.set_cons_succ]
                    refine take_pair (i := 7) (j := 15) rfl rfl (by kernel_rfl) rfl rfl (fun K hK => ?_) (fun K hK => ?_)
                    · refine wp_of_run (exec_bslice0' 23 0 rfl (build_b0 W)) ?_
                      have H2 := (H.swap.make).swap
                      refine hK.out _ _ (HBR.out.trans (H2.1.1.mono HBR.out.size)) (fun hHeld => ?_)
                      try simp only [Act.put, List.setIfInBounds_toArray, List.set_cons_zero, List.set_cons_succ]
                      have T := ST210.out p1 ua uc W.heap.size (W.alloc (.cells #[] 5)) H2
                      rw [HA0.out, HL0.out, HG.out] at T
                      try simp only [Act.put, List.setIfInBounds_toArray, List.set_cons_zero, List.set_cons_succ] at T
                      exact lcongK (by kernel_rfl) T
                    · refine wp_of_run (exec_allocPr rfl) ?_
                      have H2 := H.box
                      refine hK.out _ _ (HBR.out.trans (H2.1.1.mono HBR.out.size)) (fun hHeld => ?_)
                      try simp only [Act.put, List.setIfInBounds_toArray, List.set_cons_zero, List.set_cons_succ]
                      have T := ST201.out p1 ua uc W.heap.size (W.alloc (.cells (rowV 2 prZ) 38)) H2
                      rw [HA0.out, HL0.out, HG.out] at T
                      try simp only [Act.put, List.setIfInBounds_toArray, List.set_cons_zero, List.set_cons_succ] at T
                      exact lcongK (by kernel_rfl) T)
                  have ST110 : Hid (∀ (p1 : Nat), ∀ (p2 : Nat), ∀ W : World, pqx wc W (some ((.slice (some ⟨p1, 0, none⟩) 0 0), [])) (some ((.slice (some ⟨p2, 0, none⟩) 0 0), [])) none → G 5 ((l0.setIfInBounds 0 true).setIfInBounds 7 true) ((a0.put (some 93) (.slice (some ⟨p1, 0, none⟩) 0 0)).put (some 100) (.slice (some ⟨p2, 0, none⟩) 0 0)) W) := (show ∀ (p1 : Nat), ∀ (p2 : Nat), ∀ W : World, pqx wc W (some ((.slice (some ⟨p1, 0, none⟩) 0 0), [])) (some ((.slice (some ⟨p2, 0, none⟩) 0 0), [])) none → G 5 ((l0.setIfInBounds 0 true).setIfInBounds 7 true) ((a0.put (some 93) (.slice (some ⟨p1, 0, none⟩) 0 0)).put (some 100) (.slice (some ⟨p2, 0, none⟩) 0 0)) W from by
                    intro p1 p2 W H
                    rw [HA0.out, HL0.out, HG.out]
                    try simp only [Act.put, List.setIfInBounds_toArray, List.set_cons_zero, List.set_cons_succ]
                    refine take_pair (i := 6) (j := 15) rfl rfl (by kernel_rfl) rfl rfl (fun K hK => ?_) (fun K hK => ?_)
                    · obtain ⟨u, W2, hr, H2⟩ := H.fill (FA.out W (HBR.out.trans (H.1.1.mono HBR.out.size))).1 (by have := HXQ.out; omega)
                      obtain ⟨ua, uc, rfl⟩ := (H2.1.2.1 _ _ rfl).slen
                      refine wp_append_run (.tmp 93) (.tmp 98) 23 rfl rfl rfl hr ?_
                      refine hK.out _ _ (HBR.out.trans (H2.1.1.mono HBR.out.size)) (fun hHeld => ?_)
                      try simp only [Act.put, List.setIfInBounds_toArray, List.set_cons_zero, List.set_cons_succ]
                      have T := ST210.out p1 ua uc p2 W2 H2
                      rw [HA0.out, HL0.out, HG.out] at T
                      try simp only [Act.put, List.setIfInBounds_toArray, List.set_cons_zero, List.set_cons_succ] at T
                      exact lcongK (by kernel_rfl) T
                    · refine wp_of_run (exec_allocPr rfl) ?_
                      have H2 := H.box
                      refine hK.out _ _ (HBR.out.trans (H2.1.1.mono HBR.out.size)) (fun hHeld => ?_)
                      try simp only [Act.put, List.setIfInBounds_toArray, List.set_cons_zero, List.set_cons_succ]
                      have T := ST111.out p1 p2 W.heap.size (W.alloc (.cells (rowV 2 prZ) 38)) H2
                      rw [HA0.out, HL0.out, HG.out] at T
                      try simp only [Act.put, List.setIfInBounds_toArray, List.set_cons_zero, List.set_cons_succ] at T
                      exact lcongK (by kernel_rfl) T)
                  have ST001 : Hid (∀ (b9 : Nat), ∀ W : World, pqx wc W none none (some b9) → G 6 (l0.setIfInBounds 15 true) (a0.put (some 10) (.pointer (some ⟨b9, 0, none⟩))) W) := (show ∀ (b9 : Nat), ∀ W : World, pqx wc W none none (some b9) → G 6 (l0.setIfInBounds 15 true) (a0.put (some 10) (.pointer (some ⟨b9, 0, none⟩))) W from by
                    intro b9 W H
                    rw [HA0.out, HL0.out, HG.out]
                    try simp only [Act.put, List.setIfInBounds_toArray, List.set_cons_zero, List.set_cons_succ]
                    refine take_pair (i := 0) (j := 7) rfl rfl (by kernel_rfl) rfl rfl (fun K hK => ?_) (fun K hK => ?_)
                    · refine wp_of_run (exec_bslice0' 23 0 rfl (build_b0 W)) ?_
                      have H2 := H.make
                      refine hK.out _ _ (HBR.out.trans (H2.1.1.mono HBR.out.size)) (fun hHeld => ?_)
                      try simp only [Act.put, List.setIfInBounds_toArray, List.set_cons_zero, List.set_cons_succ]
                      have T := ST101.out W.heap.size b9 (W.alloc (.cells #[] 5)) H2
                      rw [HA0.out, HL0.out, HG.out] at T
                      try simp only [Act.put, List.setIfInBounds_toArray, List.set_cons_zero, List.set_cons_succ] at T
                      exact lcongK (by kernel_rfl) T
                    · refine wp_of_run (exec_bslice0' 23 0 rfl (build_b0 W)) ?_
                      have H2 := (H.swap.make).swap
                      refine hK.out _ _ (HBR.out.trans (H2.1.1.mono HBR.out.size)) (fun hHeld => ?_)
                      try simp only [Act.put, List.setIfInBounds_toArray, List.set_cons_zero, List.set_cons_succ]
                      have T := ST011.out W.heap.size b9 (W.alloc (.cells #[] 5)) H2
                      rw [HA0.out, HL0.out, HG.out] at T
                      try simp only [Act.put, List.setIfInBounds_toArray, List.set_cons_zero, List.set_cons_succ] at T
                      exact lcongK (by kernel_rfl) T)
                  have ST100 : Hid (∀ (p1 : Nat), ∀ W : World, pqx wc W (some ((.slice (some ⟨p1, 0, none⟩) 0 0), [])) none none → G 6 (l0.setIfInBounds 0 true) (a0.put (some 93) (.slice (some ⟨p1, 0, none⟩) 0 0)) W) := (show ∀ (p1 : Nat), ∀ W : World, pqx wc W (some ((.slice (some ⟨p1, 0, none⟩) 0 0), [])) none none → G 6 (l0.setIfInBounds 0 true) (a0.put (some 93) (.slice (some ⟨p1, 0, none⟩) 0 0)) W from by
                    intro p1 W H
                    rw [HA0.out, HL0.out, HG.out]
                    try simp only [Act.put, List.setIfInBounds_toArray, List.set_cons_zero, List.set_cons_succ]
                    refine take_threeK (i := 6) (j := 7) (k := 15) rfl rfl rfl (by kernel_rfl) rfl rfl rfl (fun K hK => ?_) (fun K hK => ?_) (fun K hK => ?_)
                    · obtain ⟨u, W2, hr, H2⟩ := H.fill (FA.out W (HBR.out.trans (H.1.1.mono HBR.out.size))).1 (by have := HXQ.out; omega)
                      obtain ⟨ua, uc, rfl⟩ := (H2.1.2.1 _ _ rfl).slen
                      refine wp_append_run (.tmp 93) (.tmp 98) 23 rfl rfl rfl hr ?_
                      refine hK.out _ _ (HBR.out.trans (H2.1.1.mono HBR.out.size)) (fun hHeld => ?_)
                      try simp only [Act.put, List.setIfInBounds_toArray, List.set_cons_zero, List.set_cons_succ]
                      have T := ST200.out p1 ua uc W2 H2
                      rw [HA0.out, HL0.out, HG.out] at T
                      try simp only [Act.put, List.setIfInBounds_toArray, List.set_cons_zero, List.set_cons_succ] at T
                      exact lcongK (by kernel_rfl) T
                    · refine wp_of_run (exec_bslice0' 23 0 rfl (build_b0 W)) ?_
                      have H2 := (H.swap.make).swap
                      refine hK.out _ _ (HBR.out.trans (H2.1.1.mono HBR.out.size)) (fun hHeld => ?_)
                      try simp only [Act.put, List.setIfInBounds_toArray, List.set_cons_zero, List.set_cons_succ]
                      have T := ST110.out p1 W.heap.size (W.alloc (.cells #[] 5)) H2
                      rw [HA0.out, HL0.out, HG.out] at T
                      try simp only [Act.put, List.setIfInBounds_toArray, List.set_cons_zero, List.set_cons_succ] at T
                      exact lcongK (by kernel_rfl) T
                    · refine wp_of_run (exec_allocPr rfl) ?_
                      have H2 := H.box
                      refine hK.out _ _ (HBR.out.trans (H2.1.1.mono HBR.out.size)) (fun hHeld => ?_)
                      try simp only [Act.put, List.setIfInBounds_toArray, List.set_cons_zero, List.set_cons_succ]
                      have T := ST101.out p1 W.heap.size (W.alloc (.cells (rowV 2 prZ) 38)) H2
                      rw [HA0.out, HL0.out, HG.out] at T
                      try simp only [Act.put, List.setIfInBounds_toArray, List.set_cons_zero, List.set_cons_succ] at T
                      exact lcongK (by kernel_rfl) T)
                  have ST010 : Hid (∀ (p2 : Nat), ∀ W : World, pqx wc W none (some ((.slice (some ⟨p2, 0, none⟩) 0 0), [])) none → G 6 (l0.setIfInBounds 7 true) (a0.put (some 100) (.slice (some ⟨p2, 0, none⟩) 0 0)) W) := (show ∀ (p2 : Nat), ∀ W : World, pqx wc W none (some ((.slice (some ⟨p2, 0, none⟩) 0 0), [])) none → G 6 (l0.setIfInBounds 7 true) (a0.put (some 100) (.slice (some ⟨p2, 0, none⟩) 0 0)) W from by
                    intro p2 W H
                    rw [HA0.out, HL0.out, HG.out]
                    try simp only [Act.put, List.setIfInBounds_toArray, List.set_cons_zero, List.set_cons_succ]
                    refine take_pair (i := 0) (j := 15) rfl rfl (by kernel_rfl) rfl rfl (fun K hK => ?_) (fun K hK => ?_)
                    · refine wp_of_run (exec_bslice0' 23 0 rfl (build_b0 W)) ?_
                      have H2 := H.make
                      refine hK.out _ _ (HBR.out.trans (H2.1.1.mono HBR.out.size)) (fun hHeld => ?_)
                      try simp only [Act.put, List.setIfInBounds_toArray, List.set_cons_zero, List.set_cons_succ]
                      have T := ST110.out W.heap.size p2 (W.alloc (.cells #[] 5)) H2
                      rw [HA0.out, HL0.out, HG.out] at T
                      try simp only [Act.put, List.setIfInBounds_toArray, List.set_cons_zero, List.set_cons_succ] at T
                      exact lcongK (by kernel_rfl) T
                    · refine wp_of_run (exec_allocPr rfl) ?_
                      have H2 := H.box
                      refine hK.out _ _ (HBR.out.trans (H2.1.1.mono HBR.out.size)) (fun hHeld => ?_)
                      try simp only [Act.put, List.setIfInBounds_toArray, List.set_cons_zero, List.set_cons_succ]
                      have T := ST011.out p2 W.heap.size (W.alloc (.cells (rowV 2 prZ) 38)) H2
                      rw [HA0.out, HL0.out, HG.out] at T
                      try simp only [Act.put, List.setIfInBounds_toArray, List.set_cons_zero, List.set_cons_succ] at T
                      exact lcongK (by kernel_rfl) T)
                  have ST000 : Hid (∀ W : World, pqx wc W none none none → G 7 l0 a0 W) := (show ∀ W : World, pqx wc W none none none → G 7 l0 a0 W from by
                    intro W H
                    rw [HA0.out, HL0.out, HG.out]
                    try simp only [Act.put, List.setIfInBounds_toArray, List.set_cons_zero, List.set_cons_succ]
                    refine take_threeK (i := 0) (j := 7) (k := 15) rfl rfl rfl (by kernel_rfl) rfl rfl rfl (fun K hK => ?_) (fun K hK => ?_) (fun K hK => ?_)
                    · refine wp_of_run (exec_bslice0' 23 0 rfl (build_b0 W)) ?_
                      have H2 := H.make
                      refine hK.out _ _ (HBR.out.trans (H2.1.1.mono HBR.out.size)) (fun hHeld => ?_)
                      try simp only [Act.put, List.setIfInBounds_toArray, List.set_cons_zero, List.set_cons_succ]
                      have T := ST100.out W.heap.size (W.alloc (.cells #[] 5)) H2
                      rw [HA0.out, HL0.out, HG.out] at T
                      try simp only [Act.put, List.setIfInBounds_toArray, List.set_cons_zero, List.set_cons_succ] at T
                      exact lcongK (by kernel_rfl) T
                    · refine wp_of_run (exec_bslice0' 23 0 rfl (build_b0 W)) ?_
                      have H2 := (H.swap.make).swap
                      refine hK.out _ _ (HBR.out.trans (H2.1.1.mono HBR.out.size)) (fun hHeld => ?_)
                      try simp only [Act.put, List.setIfInBounds_toArray, List.set_cons_zero, List.set_cons_succ]
                      have T := ST010.out W.heap.size (W.alloc (.cells #[] 5)) H2
                      rw [HA0.out, HL0.out, HG.out] at T
                      try simp only [Act.put, List.setIfInBounds_toArray, List.set_cons_zero, List.set_cons_succ] at T
                      exact lcongK (by kernel_rfl) T
                    · refine wp_of_run (exec_allocPr rfl) ?_
                      have H2 := H.box
                      refine hK.out _ _ (HBR.out.trans (H2.1.1.mono HBR.out.size)) (fun hHeld => ?_)
                      try simp only [Act.put, List.setIfInBounds_toArray, List.set_cons_zero, List.set_cons_succ]
                      have T := ST001.out W.heap.size (W.alloc (.cells (rowV 2 prZ) 38)) H2
                      rw [HA0.out, HL0.out, HG.out] at T
                      try simp only [Act.put, List.setIfInBounds_toArray, List.set_cons_zero, List.set_cons_succ] at T
                      exact lcongK (by kernel_rfl) T)
                  exact ST000.out W H
                case rest =>
                  obtain ⟨b9, ua, uc, va2, vc2, rfl, bV, r9, hb9, n1, n2⟩ := hcut
                  rename World => V
                  have hbut := HB.out
                  obtain ⟨z02, z36⟩ := HSZ.out
                  have sbut := hbut.size
                  have sV := bV.size
                  have r8V : V.rowIs b8 29 2 (seG n (.slice oa k oc)) := bV.row HR8.out (by omega)
                  have BD : Below V.heap.size V V.drew := (Below.refl _ _).drew
                  have HJ : Hid (∀ s, (JJ 12 (fun w' => w'.cell? ⟨b8, 1, none⟩ = some (.slice oa k oc) ∧ ∀ j, j < 2 → w'.cell? ⟨b9, 0 + j, none⟩ = some ((prG (.slice ua (x q).1.length uc) (.slice va2 (x q).2.length vc2)) j)) 12 (fun w' => w'.cell? ⟨b8, 1, none⟩ = some (.slice oa k oc) ∧ ∀ j, j < 2 → w'.cell? ⟨b9, 0 + j, none⟩ = some ((prG (.slice ua (x q).1.length uc) (.slice va2 (x q).2.length vc2)) j))) s V.drew) := (show ∀ s, (JJ 12 (fun w' => w'.cell? ⟨b8, 1, none⟩ = some (.slice oa k oc) ∧ ∀ j, j < 2 → w'.cell? ⟨b9, 0 + j, none⟩ = some ((prG (.slice ua (x q).1.length uc) (.slice va2 (x q).2.length vc2)) j)) 12 (fun w' => w'.cell? ⟨b8, 1, none⟩ = some (.slice oa k oc) ∧ ∀ j, j < 2 → w'.cell? ⟨b9, 0 + j, none⟩ = some ((prG (.slice ua (x q).1.length uc) (.slice va2 (x q).2.length vc2)) j))) s V.drew from JJ_all ⟨r8V.cell (i := 1) (by omega), fun j hj => by rw [Nat.zero_add]; exact r9.cell hj⟩ ⟨r8V.cell (i := 1) (by omega), fun j hj => by rw [Nat.zero_add]; exact r9.cell hj⟩)
                  obtain ⟨fa1, fa2, _, _⟩ := FACT.out wc hbut
                  have bwV : Below w.heap.size w V := fa1.trans (bV.mono fa1.size)
                  have bwD : Below w.heap.size w V.drew := bwV.trans (BD.mono bwV.size)
                  have XL := rleaves_any n _ x V.drew (HP.out V.drew bwD).1 HQ.out.1 HQ.out.2.1
                  have HV : Hid (V.heap.size = V.drew.heap.size ∧ wc.heap.size ≤ V.heap.size ∧ w6.heap.size ≤ wc.heap.size) := (show _ ∧ _ ∧ _ from ⟨rfl, sV, sbut⟩)
                  have RV : Hid (V.drew.rowIs b8 29 2 (seG n (.slice oa k oc)) ∧ V.drew.rowIs b9 38 2 (prG (.slice ua (x q).1.length uc) (.slice va2 (x q).2.length vc2)) ∧ Below wc.heap.size wc V.drew) := (show _ ∧ _ ∧ _ from ⟨r8V, r9, bV.trans (BD.mono sV)⟩)
                  have N12 : Hid (newBytes V.drew wc.heap.size (.slice ua (x q).1.length uc) (x q).1 ∧ newBytes V.drew wc.heap.size (.slice va2 (x q).2.length vc2) (x q).2) := (show _ ∧ _ from ⟨n1.below BD (Nat.le_refl _), n2.below BD (Nat.le_refl _)⟩)
                  clear n1 n2 r8V fa1 fa2 bwV bwD hbut r9 bV z02 BD
                  go_upto_region 12 with fail
                  refine wp_region_noPanic ?_
                  refine wp_region_T (JJ 12 (fun w' => w'.cell? ⟨b8, 1, none⟩ = some (.slice oa k oc) ∧ ∀ j, j < 2 → w'.cell? ⟨b9, 0 + j, none⟩ = some ((prG (.slice ua (x q).1.length uc) (.slice va2 (x q).2.length vc2)) j)) 12 (fun w' => w'.cell? ⟨b8, 1, none⟩ = some (.slice oa k oc) ∧ ∀ j, j < 2 → w'.cell? ⟨b9, 0 + j, none⟩ = some ((prG (.slice ua (x q).1.length uc) (.slice va2 (x q).2.length vc2)) j))) (by kernel_rfl) ?_
                  generalize V.drew = V0 at HJ XL HV RV N12 ⊢
                  refine take_opT (i := 0) (v := ?vw0) 12 rfl (by kernel_rfl) (by kernel_rfl) (by kernel_rfl) (by kernel_rfl) (by kernel_rfl) (JJ_free rfl rfl) (fun _ _ _ h => h) rfl HJ.out ?yw0 ?rw0
                  case yw0 => (intro wz hz0; have hz := hz0.1 rfl; go_simp; first | done | with_reducible rfl)
                  try simp only [Act.put, List.setIfInBounds_toArray, List.set_cons_zero, List.set_cons_succ]
                  refine take_opT (i := 1) (v := ?vw1) 12 rfl (by kernel_rfl) (by kernel_rfl) (by kernel_rfl) (by kernel_rfl) (by kernel_rfl) (JJ_free rfl rfl) (fun _ _ _ h => h) rfl HJ.out ?yw1 ?rw1
                  case yw1 => (intro wz hz0; have hz := hz0.1 rfl; have hz1 := hz.1; go_simp; first | done | with_reducible rfl)
                  try simp only [Act.put, List.setIfInBounds_toArray, List.set_cons_zero, List.set_cons_succ]
                  refine take_opT (i := 2) (v := ?vw2) 12 rfl (by kernel_rfl) (by kernel_rfl) (by kernel_rfl) (by kernel_rfl) (by kernel_rfl) (JJ_free rfl rfl) (fun _ _ _ h => h) rfl HJ.out ?yw2 ?rw2
                  case yw2 => (intro wz hz0; have hz := hz0.1 rfl; go_simp; first | done | with_reducible rfl)
                  try simp only [Act.put, List.setIfInBounds_toArray, List.set_cons_zero, List.set_cons_succ]
                  refine take_loadT (i := 3) 12 rfl (by kernel_rfl) (by kernel_rfl) (by kernel_rfl) (by kernel_rfl) (by kernel_rfl) (JJ_free rfl rfl) 38 _ rfl b9 0 2 (prG (.slice ua (x q).1.length uc) (.slice va2 (x q).2.length vc2)) rfl _ Tryd.underlying38 rfl (by kernel_rfl) (fun _ _ _ h => h) rfl HJ.out (fun wz hz => (hz.1 rfl).2) ?_
                  try simp only [Act.put, List.setIfInBounds_toArray, List.set_cons_zero, List.set_cons_succ]
                  refine take_opT (i := 4) (v := ?vw4) 12 rfl (by kernel_rfl) (by kernel_rfl) (by kernel_rfl) (by kernel_rfl) (by kernel_rfl) (JJ_free rfl rfl) (fun _ _ _ h => h) rfl HJ.out ?yw4 ?rw4
                  case yw4 => (intro wz hz0; have hz := hz0.1 rfl; go_simp; first | done | with_reducible rfl)
                  try simp only [Act.put, List.setIfInBounds_toArray, List.set_cons_zero, List.set_cons_succ]
                  refine take_opT (i := 6) (v := ?vw6) 12 rfl (by kernel_rfl) (by kernel_rfl) (by kernel_rfl) (by kernel_rfl) (by kernel_rfl) (JJ_free rfl rfl) (fun _ _ _ h => h) rfl HJ.out ?yw6 ?rw6
                  case yw6 => (intro wz hz0; have hz := hz0.1 rfl; go_simp; first | done | with_reducible rfl)
                  try simp only [Act.put, List.setIfInBounds_toArray, List.set_cons_zero, List.set_cons_succ]
                  refine take_oneT (i := 5) rfl (by kernel_rfl) rfl (fun K hK => ?_)
                  go_simp
                  refine Calls.mono XL ?_
                  rintro e Vl ⟨lv, rfl, hls, b0l⟩
                  clear XL
                  obtain ⟨la2, lc2, rfl⟩ : ∃ la2 lc2, lv = .slice la2 (leavesTo x n).length lc2 := by
                    obtain ⟨_, sa, sc, e, _⟩ := hls.is
                    exact ⟨sa, sc, e⟩
                  obtain ⟨zd, sV, sw⟩ := HV.out
                  obtain ⟨rr8, rr9, bw0⟩ := RV.out
                  have s0l := b0l.size
                  have l8' : Vl.rowIs b8 29 2 (seG n (.slice oa k oc)) := b0l.row rr8 (by omega)
                  have l9' : Vl.rowIs b9 38 2 (prG (.slice ua (x q).1.length uc) (.slice va2 (x q).2.length vc2)) := b0l.row rr9 rr9.lt
                  refine hK.out _ _ (heldJ_all ⟨l8'.cell (i := 1) (by omega), fun j hj => by rw [Nat.zero_add]; exact l9'.cell hj⟩ ⟨l8'.cell (i := 1) (by omega), fun j hj => by rw [Nat.zero_add]; exact l9'.cell hj⟩) ?_
                  clear hK K
                  try simp only [Act.put, List.setIfInBounds_toArray, List.set_cons_zero, List.set_cons_succ]
                  have hn := HQ.out.1
                  have XP := rpath_any n (leavesTo x n) (q : Int) _ Vl (Nat.le_of_eq (leavesTo_len x n)) hn (by omega) (by omega) hls.is
                  refine take_oneT (i := 7) rfl (by kernel_rfl) rfl (fun K hK => ?_)
                  go_simp
                  refine Calls.mono XP ?_
                  rintro e V1 ⟨pv, rfl, hps, bl1⟩
                  clear XP
                  have hsp : ∃ pa pc, pv = .slice pa (pathI (leavesTo x n) q).length pc := by
                    obtain ⟨_, pa, pc, e, _⟩ := hps.is
                    exact ⟨pa, pc, e⟩
                  obtain ⟨pa, pc, rfl⟩ := hsp
                  have b01 : Below V0.heap.size V0 V1 := b0l.trans (bl1.mono s0l)
                  have s01 := b01.size
                  have q8 : V1.rowIs b8 29 2 (seG n (.slice oa k oc)) := b01.row rr8 (by omega)
                  have q9 : V1.rowIs b9 38 2 (prG (.slice ua (x q).1.length uc) (.slice va2 (x q).2.length vc2)) := b01.row rr9 rr9.lt
                  refine hK.out _ _ (heldJ_all ⟨q8.cell (i := 1) (by omega), fun j hj => by rw [Nat.zero_add]; exact q9.cell hj⟩ ⟨q8.cell (i := 1) (by omega), fun j hj => by rw [Nat.zero_add]; exact q9.cell hj⟩) ?_
                  clear hK K
                  try simp only [Act.put, List.setIfInBounds_toArray, List.set_cons_zero, List.set_cons_succ]
                  have HJ1 : Hid (∀ s, (JJ 12 (fun w' => w'.cell? ⟨b8, 1, none⟩ = some (.slice oa k oc) ∧ ∀ j, j < 2 → w'.cell? ⟨b9, 0 + j, none⟩ = some ((prG (.slice ua (x q).1.length uc) (.slice va2 (x q).2.length vc2)) j)) 12 (fun w' => w'.cell? ⟨b8, 1, none⟩ = some (.slice oa k oc) ∧ ∀ j, j < 2 → w'.cell? ⟨b9, 0 + j, none⟩ = some ((prG (.slice ua (x q).1.length uc) (.slice va2 (x q).2.length vc2)) j))) s V1) := (show ∀ s, (JJ 12 (fun w' => w'.cell? ⟨b8, 1, none⟩ = some (.slice oa k oc) ∧ ∀ j, j < 2 → w'.cell? ⟨b9, 0 + j, none⟩ = some ((prG (.slice ua (x q).1.length uc) (.slice va2 (x q).2.length vc2)) j)) 12 (fun w' => w'.cell? ⟨b8, 1, none⟩ = some (.slice oa k oc) ∧ ∀ j, j < 2 → w'.cell? ⟨b9, 0 + j, none⟩ = some ((prG (.slice ua (x q).1.length uc) (.slice va2 (x q).2.length vc2)) j))) s V1 from JJ_all ⟨q8.cell (i := 1) (by omega), fun j hj => by rw [Nat.zero_add]; exact q9.cell hj⟩ ⟨q8.cell (i := 1) (by omega), fun j hj => by rw [Nat.zero_add]; exact q9.cell hj⟩)
                  refine take_opT (i := 8) (v := .agg (rowV 4 (spG q (.slice ua (x q).1.length uc) (.slice va2 (x q).2.length vc2) (.slice pa (pathI (leavesTo x n) q).length pc)))) 12 rfl (by kernel_rfl) (by kernel_rfl) (by kernel_rfl) (by kernel_rfl) (by kernel_rfl) (JJ_free rfl rfl) (fun _ _ _ h => h) rfl HJ1.out (fun wz hz => exec_build3' 41 0 1 2 (.tmp 110) (.tmp 111) (.tmp 115) (.int .i64 q) (.agg (rowV 2 (prG (.slice ua (x q).1.length uc) (.slice va2 (x q).2.length vc2)))) (.slice pa (pathI (leavesTo x n) q).length pc) rfl rfl rfl rfl (build_sp q ua va2 pa (x q).1.length uc (x q).2.length vc2 (pathI (leavesTo x n) q).length pc wz)) ?_
                  try simp only [Act.put, List.setIfInBounds_toArray, List.set_cons_zero, List.set_cons_succ]
                  obtain ⟨V2, hV2⟩ : ∃ V2, V2 = V1.alloc (.cells (rowV 4 (spG q (.slice ua (x q).1.length uc) (.slice va2 (x q).2.length vc2) (.slice pa (pathI (leavesTo x n) q).length pc))) 41) := ⟨_, rfl⟩
                  have b12 : Below V1.heap.size V1 V2 := by rw [hV2]; exact (Below.refl _ _).alloc (Nat.le_refl _) _
                  have z2 : V2.heap.size = V1.heap.size + 1 := by rw [hV2]; simp
                  have rN : V2.rowIs V1.heap.size 41 4 (spG q (.slice ua (x q).1.length uc) (.slice va2 (x q).2.length vc2) (.slice pa (pathI (leavesTo x n) q).length pc)) := by rw [hV2]; exact rowIs_box _ _ _ _
                  have q8' : V2.rowIs b8 29 2 (seG n (.slice oa k oc)) := b12.row q8 q8.lt
                  have q9' : V2.rowIs b9 38 2 (prG (.slice ua (x q).1.length uc) (.slice va2 (x q).2.length vc2)) := b12.row q9 q9.lt
                  refine take_oneT (i := 9) rfl (by kernel_rfl) rfl (fun K hK => ?_)
                  refine wp_of_run (exec_bslice1' 27 1 0 (.tmp 116) (.agg (rowV 4 (spG q (.slice ua (x q).1.length uc) (.slice va2 (x q).2.length vc2) (.slice pa (pathI (leavesTo x n) q).length pc)))) rfl rfl (build_sps (spG q (.slice ua (x q).1.length uc) (.slice va2 (x q).2.length vc2) (.slice pa (pathI (leavesTo x n) q).length pc)) V1)) ?_
                  rw [← hV2]
                  refine hK.out _ _ (heldJ_all ⟨q8'.cell (i := 1) (by omega), fun j hj => by rw [Nat.zero_add]; exact q9'.cell hj⟩ ⟨q8'.cell (i := 1) (by omega), fun j hj => by rw [Nat.zero_add]; exact q9'.cell hj⟩) ?_
                  clear hK K hV2
                  try simp only [Act.put, List.setIfInBounds_toArray, List.set_cons_zero, List.set_cons_succ]
                  have b02 : Below V0.heap.size V0 V2 := b01.trans (b12.mono s01)
                  have bw2 : Below wc.heap.size wc V2 := bw0.trans (b02.mono (by omega))
                  obtain ⟨m1, m2⟩ := N12.out
                  have hosb := HOS.out.block
                  have hyk := HYQ.out.2 k
                  rw [← HKK.out.2.1] at hyk
                  have SF : spotFar V2 b8 (.slice oa k oc) (spG q (.slice ua (x q).1.length uc) (.slice va2 (x q).2.length vc2) (.slice pa (pathI (leavesTo x n) q).length pc)) (y k) := fun z hz => by
                    obtain ⟨z36a, z36b⟩ := HSZ.out
                    have e1 : newBytes V2 wc.heap.size (.slice ua (x q).1.length uc) (x q).1 := m1.below b02 (Nat.le_refl _)
                    have e2 : newBytes V2 wc.heap.size (.slice va2 (x q).2.length vc2) (x q).2 := m2.below b02 (Nat.le_refl _)
                    have e3 : newSums V2 Vl.heap.size (.slice pa (pathI (leavesTo x n) q).length pc) (pathI (leavesTo x n) q) := hps.below b12 (Nat.le_refl _)
                    have far : ∀ j, wc.heap.size ≤ j → j < V2.heap.size → z.heap[j]? = V2.heap[j]? := fun j h1 h2 => hz.2 j h2 (fun e => by have := (hosb j e).2; omega) (by omega)
                    rw [hyk]
                    refine ⟨_, _, _, rfl, Or.inl (e1.apart fun j hj => far j (e1.block j hj).1 (e1.block j hj).2).is, Or.inl (e2.apart fun j hj => far j (e2.block j hj).1 (e2.block j hj).2).is, (e3.far fun j hj => far j (by have := (e3.block j hj).1; omega) (e3.block j hj).2).is, ⟨by show -9223372036854775808 ≤ (q : Int); omega, by show (q : Int) ≤ 9223372036854775807; omega⟩⟩
                  have HO2 : ownSpots V2 w6.heap.size b8 (.slice oa k oc) k y := HOS.out.below bw2 (Nat.le_refl _)
                  obtain ⟨v', V3, hr, ho3, hg3, hat3⟩ := spots_append V2 w6.heap.size b8 (.slice oa k oc) k y HO2 V1.heap.size (spG q (.slice ua (x q).1.length uc) (.slice va2 (x q).2.length vc2) (.slice pa (pathI (leavesTo x n) q).length pc)) rN SF (by have := HKK.out; omega) (by omega)
                  have n8 : ∀ (j : Nat), (Value.slice oa k oc).ownBlock = some j → w6.heap.size ≤ j ∧ j < wc.heap.size := hosb
                  have g3 := hg3.size
                  have q8'' : V3.rowIs b8 29 2 (seG n (.slice oa k oc)) := World.rowIs.of_block q8' (hg3.block _ q8'.lt (fun e => by have := (n8 _ e.symm).1; omega))
                  have q9'' : V3.rowIs b9 38 2 (prG (.slice ua (x q).1.length uc) (.slice va2 (x q).2.length vc2)) := World.rowIs.of_block q9' (hg3.block _ q9'.lt (fun e => by have := (n8 _ e.symm).2; omega))
                  refine take_oneT (i := 10) rfl (by kernel_rfl) rfl (fun K hK => ?_)
                  refine wp_append_run (.tmp 109) (.tmp 117) 27 rfl rfl rfl hr ?_
                  refine hK.out _ _ (heldJ_all ⟨q8''.cell (i := 1) (by omega), fun j hj => by rw [Nat.zero_add]; exact q9''.cell hj⟩ ⟨q8''.cell (i := 1) (by omega), fun j hj => by rw [Nat.zero_add]; exact q9''.cell hj⟩) ?_
                  clear hK K
                  try simp only [Act.put, List.setIfInBounds_toArray, List.set_cons_zero, List.set_cons_succ]
                  have hsv : ∃ na nc, v' = .slice na (k + 1) nc := by
                    obtain ⟨na, nc, e, _⟩ := ho3.is
                    exact ⟨na, nc, e⟩
                  obtain ⟨na, nc, rfl⟩ := hsv
                  refine take_oneT (i := 11) rfl (by kernel_rfl) rfl (fun K hK => ?_)
                  go_simp
                  refine hK.out _ _ (heldJ_all ⟨q8''.cell (i := 1) (by omega), fun j hj => by rw [Nat.zero_add]; exact q9''.cell hj⟩ ⟨q8''.cell (i := 1) (by omega), fun j hj => by rw [Nat.zero_add]; exact q9''.cell hj⟩) ?_
                  clear hK K
                  try simp only [Act.put, List.setIfInBounds_toArray, List.set_cons_zero, List.set_cons_succ]
                  have c3 := q8''.cell (i := 1) (by omega)
                  have f3 := q8''.frozen 1
                  refine take_oneT (i := 12) rfl (by kernel_rfl) rfl (fun K hK => ?_)
                  go_simp
                  refine hK.out _ _ (heldJ_none rfl rfl) ?_
                  clear hK K c3 f3
                  try simp only [Act.put, List.setIfInBounds_toArray, List.set_cons_zero, List.set_cons_succ]
                  refine doneT (by kernel_rfl) ?_ _
                  refine NoPanic.normal ?_
                  have NX : Hid (∀ V4, V4 = V3.setCell ⟨b8, 1, none⟩ (.slice na (k + 1) nc) → rsL w6 b8 n (min (q + 1 - f) m) y V4) := (show ∀ V4, V4 = V3.setCell ⟨b8, 1, none⟩ (.slice na (k + 1) nc) → rsL w6 b8 n (min (q + 1 - f) m) y V4 from fun V4 h4 => by
                    rw [HKK.out.2.2]
                    obtain ⟨zz1, zz2⟩ := HSZ.out
                    have hb := HB.out
                    have bt : But V3.heap.size b8 V3 V4 := by
                      rw [h4]
                      exact but_setCells (b := b8) [.slice na (k + 1) nc] 1 (But.refl _ _ _)
                    have z4 := bt.size
                    have r4 : V4.rowIs b8 29 2 (seG n (.slice na (k + 1) nc)) := by
                      rw [h4]
                      refine (q8''.set 1 (.slice na (k + 1) nc)).congr fun i hi => ?_
                      have : i = 0 ∨ i = 1 := by omega
                      rcases this with rfl | rfl <;> rfl
                    refine ⟨⟨bt.os.trans (hg3.os.trans (bw2.os.trans hb.os)), bt.tape.trans (hg3.tape.trans (bw2.tape.trans hb.tape)), bt.output.trans (hg3.output.trans (bw2.output.trans hb.output)), by have := hb.size; have := bw2.size; omega, fun j hj hn => ?_⟩, _, _, r4, ho3.same (by omega) (by omega) fun j hj hn => bt.block j hj (by omega)⟩
                    have h1 := hb.size
                    have h2 := bw2.size
                    exact (bt.block j (by omega) hn).trans ((hg3.block j (by omega) (fun e => by have := (n8 _ e.symm).1; omega)).trans ((bw2.block j (by omega)).trans (hb.block j hj hn))))
                  obtain ⟨V4, hV4⟩ : ∃ V4, V4 = V3.setCell ⟨b8, 1, none⟩ (.slice na (k + 1) nc) := ⟨_, rfl⟩
                  rw [← hV4]
                  have NX4 : Hid (rsL w6 b8 n (min (q + 1 - f) m) y V4) := (show rsL w6 b8 n (min (q + 1 - f) m) y V4 from NX.out V4 hV4)
                  clear NX hV4 ho3 hat3 hg3 q8'' q9'' hr SF HO2 q8 q9 q8' q9' rN b12 b01 b02 bw2 bw0 rr8 rr9 m1 m2 hyk hps n8 hosb HJ1 b0l bl1 hls l8' l9' s0l
                  go_wp2_with fail
                  go_light
                  exact ⟨⟨q + 1, by omega, by go_num, NX4.out⟩, by simp [intOf]; omega⟩
      · have q1 : ¬ (q : Int) < (n : Int) := by omega
        obtain rfl : q = n := by omega
        have hmm : min (q - f) m = m := by
          have h1 := HYQ.out.1
          by_cases h0 : m = 0
          · omega
          · have := h1 (m - 1) (by omega); omega
        rw [hmm] at hrs
        obtain ⟨hbut, oa, oc, r8, hos⟩ := hrs
        obtain ⟨fa1, _, _, fa5⟩ := FACT.out wr hbut
        obtain ⟨z02, z36⟩ := HSZ.out
        have sbut := hbut.size
        have l8 : ∀ j, j < 2 → wr.cell? ⟨b8, 0 + j, none⟩ = some (seG q (.slice oa m oc) j) := fun j hj => by rw [Nat.zero_add]; exact r8.cell hj
        have HOSS : Hid (ownSpots wr w6.heap.size b8 (.slice oa m oc) m y) := (show _ from hos)
        have FI : Hid (∀ V, But wr.heap.size w.heap.size wr V → rshowPost q x key p w (.returned (.agg (rowV 2 (seG q (.slice oa m oc))))) V) := (show _ from fun V hV => by
          have sV := hV.size
          have hbV : Below w.heap.size w V := fa1.trans ((hV.mono fa1.size).below (Nat.le_refl _))
          exact DONE.out V _ hbV (HOSS.out.same (w' := V) (by omega) hV.size (fun j hj hn => hV.block j hj (by omega))).is)
        clear fa1 hbut r8 hos hmm
        go_wp2_with (first | (refine wpList_load_w 29 (.tmp 5) rfl rfl b8 0 2 (seG q (.slice oa m oc)) rfl _ Tryd.underlying29 rfl hiSe l8 ?_) | (refine wpList_store_row rfl 29 _ _ rfl rfl w.heap.size 0 2 (seG q (.slice oa m oc)) rfl rfl hiSe (seG_one _ _ _ _) _ _ _ fa5 (by omega) ?_; intro w9 r9 hz9 hb9))
        exact bodyPost_ret (results_cell_seg rfl _ _ w.heap.size 29 2 (seG q (.slice oa m oc)) _ rfl Tryd.underlying29 rfl hiSe (r9.congr fun i hi => by rw [if_pos (by omega), Nat.sub_zero])) rfl (by exact FI.out w9 hb9)
end Go.Proofs.YtkgegihkhdgdoaaDoor

/- Two rows of sums: the document's Same. -/
namespace Go.Proofs.YtkgegihkhdgdoaaDoor
set_option linter.unusedSimpArgs false
set_option linter.unusedVariables false
open Go.RowKit Go.Deep

set_option maxHeartbeats 2000000 in
set_option maxRecDepth 100000 in
theorem rsame_any (A B : List (List Int)) (v u : Value) (w : World) (hA : sumsAt w v A) (hB : sumsAt w u B) (hm : A.length ≤ 100000) :
    Calls Tryd.prog 44 #[v, u] w fun e w' => e = .returned (.bool (decide (A = B))) ∧ Below w.heap.size w w' := by
  obtain ⟨sA, a, ac, rfl, ha, ham, cA⟩ := hA
  obtain ⟨sB, b, bc, rfl, hb, hbm, cB⟩ := hB
  have q0 : (A.length : Int) ≤ 100000 := by omega
  by_cases hl : A.length = B.length
  · have CA : Hid _ := cA
    have CB : Hid _ := cB
    have SA : Hid _ := sA
    have SB : Hid _ := sB
    obtain ⟨n, hn⟩ : ∃ n, n = A.length := ⟨_, rfl⟩
    have HN : Hid (n = A.length ∧ A.length = B.length) := (show n = A.length ∧ A.length = B.length from ⟨hn, hl⟩)
    rw [← hl, ← hn]
    rw [← hn] at q0
    clear cA cB sA sB ham hbm ha hb hl hn
    go_enter Tryd.func44, Tryd.ntmps44
    go_wp2
    go_loopw [5] (fun i wr => ∃ k : Nat, k ≤ n ∧ i = .int .i64 k ∧ (∀ j, j < k → A[j]? = B[j]?) ∧ Below w.heap.size w wr) (fun i _ => n - (intOf i).toNat)
    case atStart => exact ⟨0, by omega, rfl, fun j hj => by omega, Below.refl _ _⟩
    case round =>
      obtain ⟨k, hk, rfl, hall, hbw⟩ := hrel
      have HL : Hid _ := hall
      have HW : Hid _ := hbw
      clear hall hbw
      have p0 : (0 : Int) ≤ (k : Int) := by omega
      by_cases hlt : k < n
      · have p1 : (k : Int) < (n : Int) := by omega
        have hkA : k < A.length := by have := HN.out; omega
        have hkB : k < B.length := by have := HN.out; omega
        obtain ⟨g, o, rfl, hg, hc⟩ := CA.out (by omega)
        obtain ⟨g', o', rfl, hg', hc'⟩ := CB.out (by omega)
        obtain ⟨x, hx⟩ : ∃ x, x = A[k] := ⟨_, rfl⟩
        obtain ⟨y, hy⟩ : ∃ y, y = B[k] := ⟨_, rfl⟩
        have hxs : isSum x := by rw [hx]; exact SA.out _ (List.getElem_mem _)
        have hys : isSum y := by rw [hy]; exact SB.out _ (List.getElem_mem _)
        have lx : ∀ wz, Below w.heap.size w wz → ∀ i, i < 32 → wz.cell? ⟨g, o + k * 32 + i, none⟩ = some (arrV x i) := fun wz hz i hi => by rw [hx]; exact (hz.cell (p := ⟨g, o + k * 32 + i, none⟩) hg).trans (hc k hkA i hi)
        have ly : ∀ wz, Below w.heap.size w wz → ∀ i, i < 32 → wz.cell? ⟨g', o' + k * 32 + i, none⟩ = some (arrV y i) := fun wz hz i hi => by rw [hy]; exact (hz.cell (p := ⟨g', o' + k * 32 + i, none⟩) hg').trans (hc' k hkB i hi)
        have LX : Hid _ := lx
        have LY : Hid _ := ly
        obtain ⟨bq, hbq⟩ : ∃ bq, bq = !decide (x = y) := ⟨_, rfl⟩
        have E : ∀ wx, (binOp .neq 32 (.agg (rowV 32 (arrV x))) (.agg (rowV 32 (arrV y)))).run Tryd.prog wx = .ok (.bool bq) wx := fun wx => by
          have := run_neq_arr (P := Tryd.prog) wx 32 5 .u8 32 (fun i => x.getD i 0) (fun i => y.getD i 0) Tryd.underlying32 Tryd.underlying5 (by kernel_rfl) (by kernel_rfl)
          rw [arrEq_list hxs hys] at this
          rw [hbq]; exact this
        have HX : Hid (A[k]? = some x ∧ B[k]? = some y) := (show A[k]? = some x ∧ B[k]? = some y from ⟨by rw [hx]; exact List.getElem?_eq_getElem hkA, by rw [hy]; exact List.getElem?_eq_getElem hkB⟩)
        have HBQ : Hid _ := hbq
        clear hc hc' lx ly hx hy hbq CA CB
        go_upto_region 6 with fail
        go_cut [5, 25] from 11 to 25 (fun i c wx => i = .int .i64 (k : Int) ∧ c = .bool bq ∧ Below w.heap.size w wx)
        case first =>
          refine wp_region_noPanic ?_
          refine wp_region_held_drew (S := fun w' => Below w.heap.size w w') (by kernel_rfl) (HW.out.drew) (fun hHeld => ?_)
          refine take_op (i := 0) (v := ?va0) rfl (by kernel_rfl) (by kernel_rfl) (by kernel_rfl) (fun _ _ _ h => h) rfl hHeld ?ya0 ?ra0
          case ya0 => (intro wz hz; go_simp; first | done | with_reducible rfl)
          try simp only [Act.put, List.setIfInBounds_toArray, List.set_cons_zero, List.set_cons_succ]
          refine take_op (i := 1) (v := ?va1) rfl (by kernel_rfl) (by kernel_rfl) (by kernel_rfl) (fun _ _ _ h => h) rfl hHeld ?ya1 ?ra1
          case ya1 => (intro wz hz; go_simp; first | done | with_reducible rfl)
          try simp only [Act.put, List.setIfInBounds_toArray, List.set_cons_zero, List.set_cons_succ]
          refine take_op (i := 2) (v := ?va2) rfl (by kernel_rfl) (by kernel_rfl) (by kernel_rfl) (fun _ _ _ h => h) rfl hHeld ?ya2 ?ra2
          case ya2 => (intro wz hz; go_simp; first | done | with_reducible rfl)
          try simp only [Act.put, List.setIfInBounds_toArray, List.set_cons_zero, List.set_cons_succ]
          refine take_load (i := 3) rfl (by kernel_rfl) (by kernel_rfl) (by kernel_rfl) 32 _ rfl g (o + k * 32) 32 (arrV x) rfl _ Tryd.underlying32 rfl (by kernel_rfl) (fun _ _ _ h => h) rfl hHeld (fun wz hz => LX.out wz hz) ?_
          try simp only [Act.put, List.setIfInBounds_toArray, List.set_cons_zero, List.set_cons_succ]
          refine take_op (i := 4) (v := ?va4) rfl (by kernel_rfl) (by kernel_rfl) (by kernel_rfl) (fun _ _ _ h => h) rfl hHeld ?ya4 ?ra4
          case ya4 => (intro wz hz; go_simp; first | done | with_reducible rfl)
          try simp only [Act.put, List.setIfInBounds_toArray, List.set_cons_zero, List.set_cons_succ]
          refine take_op (i := 5) (v := ?va5) rfl (by kernel_rfl) (by kernel_rfl) (by kernel_rfl) (fun _ _ _ h => h) rfl hHeld ?ya5 ?ra5
          case ya5 => (intro wz hz; go_simp; first | done | with_reducible rfl)
          try simp only [Act.put, List.setIfInBounds_toArray, List.set_cons_zero, List.set_cons_succ]
          refine take_op (i := 6) (v := ?va6) rfl (by kernel_rfl) (by kernel_rfl) (by kernel_rfl) (fun _ _ _ h => h) rfl hHeld ?ya6 ?ra6
          case ya6 => (intro wz hz; go_simp; first | done | with_reducible rfl)
          try simp only [Act.put, List.setIfInBounds_toArray, List.set_cons_zero, List.set_cons_succ]
          refine take_load (i := 7) rfl (by kernel_rfl) (by kernel_rfl) (by kernel_rfl) 32 _ rfl g' (o' + k * 32) 32 (arrV y) rfl _ Tryd.underlying32 rfl (by kernel_rfl) (fun _ _ _ h => h) rfl hHeld (fun wz hz => LY.out wz hz) ?_
          try simp only [Act.put, List.setIfInBounds_toArray, List.set_cons_zero, List.set_cons_succ]
          refine take_op (i := 8) (v := ?va8) rfl (by kernel_rfl) (by kernel_rfl) (by kernel_rfl) (fun _ _ _ h => h) rfl hHeld ?ya8 ?ra8
          case ya8 => (intro wz hz; go_simp; first | done | with_reducible rfl)
          try simp only [Act.put, List.setIfInBounds_toArray, List.set_cons_zero, List.set_cons_succ]
          refine wpAnyH_done (by kernel_rfl) ?_ _
          refine NoPanic.normal ?_
          have HB2 : Hid _ := hHeld
          clear hHeld
          go_wp2_with fail
          go_meet
          case rel => exact ⟨rfl, rfl, HB2.out⟩
        case rest =>
          obtain ⟨rfl, rfl, hb2⟩ := hcut
          have HB2 : Hid _ := hb2
          clear hb2 E LX LY
          cases bq with
          | false =>
            have hxy : x = y := by
              have := HBQ.out
              simpa using this
            have HE : Hid (A[k]? = B[k]?) := (show A[k]? = B[k]? from by rw [HX.out.1, HX.out.2, hxy])
            clear hxy
            go_wp2
            go_light
            refine ⟨⟨k + 1, by omega, by go_num, fun j hj => ?_, HB2.out⟩, by simp [intOf]; omega⟩
            by_cases e : j < k
            · exact HL.out j e
            · obtain rfl : j = k := by omega
              exact HE.out
          | true =>
            have hne : Hid (decide (A = B) = false) := (show decide (A = B) = false from decide_eq_false fun e => by
              have h1 := HX.out
              rw [e] at h1
              have h2 : x = y := Option.some.inj (h1.1.symm.trans h1.2)
              have h3 := HBQ.out
              rw [h2] at h3
              simp at h3)
            go_wp2
            go_ret
            exact ⟨by rw [hne.out]; rfl, HB2.out⟩
      · obtain rfl : k = n := by omega
        have heq : Hid (decide (A = B) = true) := (show decide (A = B) = true from decide_eq_true (List.ext_getElem? fun j => by
          have := HN.out
          by_cases e : j < k
          · exact HL.out j e
          · rw [List.getElem?_eq_none (by omega), List.getElem?_eq_none (by omega)]))
        go_wp2
        go_ret
        exact ⟨by rw [heq.out]; rfl, HW.out⟩
  · have q1 : ¬ (A.length : Int) = (B.length : Int) := by omega
    have hne : Hid (decide (A = B) = false) := (show decide (A = B) = false from decide_eq_false fun e => hl (by rw [e]))
    clear cA cB sA sB hl
    go_enter Tryd.func44, Tryd.ntmps44
    go_wp2
    go_ret
    exact ⟨by rw [hne.out]; rfl, Below.refl _ _⟩
end Go.Proofs.YtkgegihkhdgdoaaDoor

/- The document's Same of what is shown. -/
namespace Go.Proofs.YtkgegihkhdgdoaaDoor
set_option linter.unusedSimpArgs false
set_option linter.unusedVariables false
open Go.RowKit Go.Deep

/-- what is shown is the same, through and through. -/
def sameS (c d : Int) (m n : Nat) (x y : Nat → Sp) : Prop := c = d ∧ m = n ∧ ∀ i, i < m → x i = y i
def sameP (c d : Int) (m n : Nat) (x y : Nat → Sp) (e : Ending) : Prop := ∃ b, e = .returned (.bool b) ∧ (b = true ↔ sameS c d m n x y)
/-- a spot of a row that stays. -/
def spotFact (w2 : World) (a : Option Addr) (m : Nat) (x : Nat → Sp) (k : Nat) (g o : Nat) (gx : Nat → Value) (ka va pa : Option Addr) (kcap vcap pcap : Nat) : Prop :=
  (a = some ⟨g, o, none⟩ ∧ gx = spG (x k).at_ (.slice ka (x k).pr.1.length kcap) (.slice va (x k).pr.2.length vcap) (.slice pa (x k).path.length pcap)) ∧ (∀ i, i < 4 → (gx i).oneCell' = true) ∧
  ∀ wz, Below w2.heap.size w2 wz → (∀ i, i < 4 → wz.cell? ⟨g, o + k * 4 + i, none⟩ = some (gx i)) ∧ anyBytes wz (.slice ka (x k).pr.1.length kcap) (x k).pr.1 ∧ anyBytes wz (.slice va (x k).pr.2.length vcap) (x k).pr.2 ∧ sumsAt wz (.slice pa (x k).path.length pcap) (x k).path
theorem spot_fact {w : World} {a : Option Addr} {m cap : Nat} {x : Nat → Sp} (h : spotsAt w (.slice a m cap) m x) {k : Nat} (hk : k < m) : ∃ g o gx ka va pa kcap vcap pcap, spotFact w a m x k g o gx ka va pa kcap vcap pcap := by
  obtain ⟨g, o, cap', e, hg, hcell⟩ := h.at (by omega)
  injection e with e1 e2 e3
  subst e1
  subst e3
  obtain ⟨ka, kcap, va, vcap, pa, pcap, _, H⟩ := hcell k hk
  refine ⟨g, o, _, ka, va, pa, kcap, vcap, pcap, ⟨rfl, rfl⟩, spG_one _ _ _ _ _ _ _ _ _ _, fun wz hz => ?_⟩
  obtain ⟨q0, q1, q2, q3, q4, q5, q6⟩ := H wz hz
  refine ⟨fun i hi => ?_, q4, q5, q6⟩
  have : i = 0 ∨ i = 1 ∨ i = 2 ∨ i = 3 := by omega
  rcases this with rfl | rfl | rfl | rfl
  · exact q0
  · exact q1
  · exact q2
  · exact q3
set_option maxHeartbeats 4000000 in
set_option maxRecDepth 100000 in
theorem rsames_any (c d : Int) (m n : Nat) (sv tv : Value) (x y : Nat → Sp) (w : World) (hp : spotsAt w sv m x) (hq : spotsAt w tv n y) (hlp : ∀ i, i < m → (x i).path.length ≤ 100000) :
    Calls Tryd.prog 17 #[.agg #[.int .i64 c, sv], .agg #[.int .i64 d, tv]] w fun e w' => sameP c d m n x y e ∧ Below w.heap.size w w' := by
  obtain ⟨a, cap, hv, hmc, hcm, _⟩ := (id hp : spotsAt w sv m x)
  obtain ⟨a', cap', hv', hmc', hcm', _⟩ := (id hq : spotsAt w tv n y)
  have hmm : (m : Int) ≤ 9223372036854775807 := by unfold maxLen at hcm; omega
  subst hv
  subst hv'
  obtain ⟨w1, hw1⟩ : ∃ w1, w1 = w.alloc (.cells #[.int .i64 c, .slice a m cap] 29) := ⟨_, rfl⟩
  obtain ⟨w2, hw2⟩ : ∃ w2, w2 = w1.alloc (.cells #[.int .i64 d, .slice a' n cap'] 29) := ⟨_, rfl⟩
  have b1 : Below w.heap.size w w1 := by rw [hw1]; exact (Below.refl _ _).alloc (Nat.le_refl _) _
  have b2 : Below w1.heap.size w1 w2 := by rw [hw2]; exact (Below.refl _ _).alloc (Nat.le_refl _) _
  have b12 : Below w.heap.size w w2 := b1.trans (b2.mono b1.size)
  have hz1 : w1.heap.size = w.heap.size + 1 := by rw [hw1]; simp
  have hb0 : w1.heap[w.heap.size]? = some (.cells #[.int .i64 c, .slice a m cap] 29) := by rw [hw1, blk_alloc_new]
  have hb1 : w2.heap[w1.heap.size]? = some (.cells #[.int .i64 d, .slice a' n cap'] 29) := by rw [hw2, blk_alloc_new]
  have k0 : w1.cell? ⟨w.heap.size, 0, none⟩ = some (.int .i64 c) := by rw [cell_of_row _ _ _ _ _ _ hb0]; rfl
  have k1 : w1.cell? ⟨w.heap.size, 1, none⟩ = some (.slice a m cap) := by rw [cell_of_row _ _ _ _ _ _ hb0]; rfl
  have c0 : w2.cell? ⟨w.heap.size, 0, none⟩ = some (.int .i64 c) := (b2.cell (p := ⟨w.heap.size, 0, none⟩) (by show w.heap.size < _; omega)).trans k0
  have c1 : w2.cell? ⟨w.heap.size, 1, none⟩ = some (.slice a m cap) := (b2.cell (p := ⟨w.heap.size, 1, none⟩) (by show w.heap.size < _; omega)).trans k1
  have d0 : w2.cell? ⟨w1.heap.size, 0, none⟩ = some (.int .i64 d) := by rw [cell_of_row _ _ _ _ _ _ hb1]; rfl
  have d1 : w2.cell? ⟨w1.heap.size, 1, none⟩ = some (.slice a' n cap') := by rw [cell_of_row _ _ _ _ _ _ hb1]; rfl
  have C1 : Hid (∀ wz, Below w2.heap.size w2 wz → wz.cell? ⟨w.heap.size, 1, none⟩ = some (.slice a m cap) ∧ wz.cell? ⟨w1.heap.size, 1, none⟩ = some (.slice a' n cap')) := (show _ from fun wz hz => ⟨(hz.cell (p := ⟨w.heap.size, 1, none⟩) (block_lt_of_cell c1)).trans c1, (hz.cell (p := ⟨w1.heap.size, 1, none⟩) (block_lt_of_cell d1)).trans d1⟩)
  have C0 : Hid (∀ wz, Below w2.heap.size w2 wz → Below w.heap.size w wz) := (show _ from fun wz hz => b12.trans (hz.mono b12.size))
  have HP : Hid (spotsAt w2 (.slice a m cap) m x ∧ spotsAt w2 (.slice a' n cap') n y) := (show _ ∧ _ from ⟨hp.below b12 (Nat.le_refl _), hq.below b12 (Nat.le_refl _)⟩)
  have HLP : Hid (∀ i, i < m → (x i).path.length ≤ 100000) := (show _ from hlp)
  have hm0 : (0 : Int) ≤ (m : Int) := by omega
  have B12 : Hid (Below w.heap.size w w2) := (show Below w.heap.size w w2 from b12)
  obtain ⟨bs, hbs⟩ : ∃ bs, bs = w.heap.size := ⟨_, rfl⟩
  obtain ⟨bt, hbt⟩ : ∃ bt, bt = w1.heap.size := ⟨_, rfl⟩
  have hbt' : bt = w.heap.size + 1 := by rw [hbt, hz1]
  rw [← hbs] at c0 c1 
  rw [← hbt] at d0 d1
  rw [← hbs, ← hbt] at C1
  clear hp hq hmc hcm hmc' hcm' b1 b2 b12 hb0 hb1 k0 k1 hlp
  go_enter Tryd.func17, Tryd.ntmps17
  go_upto_region 1 with fail
  rw [← hw1, ← hw2]
  try rw [← hz1]
  try rw [← hbt]
  try rw [← hbs]
  clear hw1 hw2 hbs hbt hbt' hz1
  by_cases hcd : c = d
  · by_cases hmn : m = n
    · obtain rfl := hcd
      have EQ : Hid (m = n) := hmn
      have hmn' : (m : Int) = (n : Int) := by omega
      clear hmn
      go_wp2
      go_loopw [5] (fun i wr => ∃ k : Nat, k ≤ m ∧ i = .int .i64 (k : Int) ∧ (∀ j, j < k → x j = y j) ∧ Below w2.heap.size w2 wr) (fun i _ => m - (intOf i).toNat)
      case atStart => exact ⟨0, by omega, rfl, fun j hj => by omega, Below.refl _ _⟩
      case round =>
        obtain ⟨k, hkm, rfl, hall, hbr⟩ := hrel
        have p0 : (0 : Int) ≤ (k : Int) := by omega
        have HAL : Hid (∀ j, j < k → x j = y j) := (show _ from hall)
        have HBR : Hid (Below w2.heap.size w2 wr) := (show Below w2.heap.size w2 wr from hbr)
        have c1r := (C1.out wr hbr).1
        clear hall hmn'
        by_cases hlt : k < m
        · have p1 : (k : Int) < (m : Int) := by omega
          have p1' : (k : Int) < (n : Int) := by have := EQ.out; omega
          obtain ⟨g, o, gx, ka, va, pa, kcap, vcap, pcap, F1⟩ := spot_fact HP.out.1 hlt
          obtain ⟨g', o', gy, kb, vb, pb, kbcap, vbcap, pbcap, F2⟩ := spot_fact HP.out.2 (show k < n by have := EQ.out; omega)
          obtain ⟨⟨rfl, hgx⟩, one1, F1⟩ := F1
          obtain ⟨⟨rfl, hgy⟩, one2, F2⟩ := F2
          have ONE : Hid ((∀ i, i < 4 → (gx i).oneCell' = true) ∧ (∀ i, i < 4 → (gy i).oneCell' = true)) := (show _ ∧ _ from ⟨one1, one2⟩)
          have GX : Hid (gx = _) := hgx
          have GY : Hid (gy = _) := hgy
          have FA : Hid _ := F1
          have FB : Hid _ := F2
          clear one1 one2 hgx hgy F1 F2 c0 c1 d0 d1
          go_upto_region 6 with fail
          clear c1r hbr
          go_cut [5, 6, 7] from 29 to 38 (fun i p6 p7 wx => i = .int .i64 (k : Int) ∧ ∃ b6 b7, p6 = .pointer (some ⟨b6, 0, none⟩) ∧ p7 = .pointer (some ⟨b7, 0, none⟩) ∧ wx.rowIs b6 41 4 gx ∧ wx.rowIs b7 41 4 gy ∧ Below w2.heap.size w2 wx)
          case first =>
            have BD : Hid (Below w2.heap.size w2 wr.drew) := (show Below w2.heap.size w2 wr.drew from HBR.out.trans ((Below.refl wr.heap.size wr).drew.mono HBR.out.size))
            refine wp_region_noPanic ?_
            refine wp_region_held_drew (S := fun w' => Below w2.heap.size w2 w') (by kernel_rfl) BD.out (fun hHeld => ?_)
            generalize wr.drew = wd at BD hHeld ⊢
            refine take_op (i := 0) (v := ?va0) rfl (by kernel_rfl) (by kernel_rfl) (by kernel_rfl) (fun _ _ _ h => h) rfl hHeld ?ya0 ?ra0
            case ya0 => (intro wz hz; go_simp; first | done | with_reducible rfl)
            try simp only [Act.put, List.setIfInBounds_toArray, List.set_cons_zero, List.set_cons_succ]
            refine take_op (i := 1) (v := ?va1) rfl (by kernel_rfl) (by kernel_rfl) (by kernel_rfl) (fun _ _ _ h => h) rfl hHeld ?ya1 ?ra1
            case ya1 => (intro wz hz; have hcz := (C1.out wz hz).1; go_simp; first | done | with_reducible rfl)
            try simp only [Act.put, List.setIfInBounds_toArray, List.set_cons_zero, List.set_cons_succ]
            refine take_op (i := 2) (v := ?va2) rfl (by kernel_rfl) (by kernel_rfl) (by kernel_rfl) (fun _ _ _ h => h) rfl hHeld ?ya2 ?ra2
            case ya2 => (intro wz hz; go_simp; first | done | with_reducible rfl)
            try simp only [Act.put, List.setIfInBounds_toArray, List.set_cons_zero, List.set_cons_succ]
            refine take_op (i := 3) (v := ?va3) rfl (by kernel_rfl) (by kernel_rfl) (by kernel_rfl) (fun _ _ _ h => h) rfl hHeld ?ya3 ?ra3
            case ya3 => (intro wz hz; go_simp; first | done | with_reducible rfl)
            try simp only [Act.put, List.setIfInBounds_toArray, List.set_cons_zero, List.set_cons_succ]
            refine take_load (i := 4) rfl (by kernel_rfl) (by kernel_rfl) (by kernel_rfl) 41 _ rfl g (o + k * 4) 4 gx rfl _ Tryd.underlying41 rfl (by kernel_rfl) (fun _ _ _ h => h) rfl hHeld (fun wz hz => (FA.out wz hz).1) ?_
            try simp only [Act.put, List.setIfInBounds_toArray, List.set_cons_zero, List.set_cons_succ]
            refine take_op (i := 5) (v := ?va5) rfl (by kernel_rfl) (by kernel_rfl) (by kernel_rfl) (fun _ _ _ h => h) rfl hHeld ?ya5 ?ra5
            case ya5 => (intro wz hz; go_simp; first | done | with_reducible rfl)
            try simp only [Act.put, List.setIfInBounds_toArray, List.set_cons_zero, List.set_cons_succ]
            refine take_op (i := 6) (v := ?va6) rfl (by kernel_rfl) (by kernel_rfl) (by kernel_rfl) (fun _ _ _ h => h) rfl hHeld ?ya6 ?ra6
            case ya6 => (intro wz hz; have hcz := (C1.out wz hz).2; go_simp; first | done | with_reducible rfl)
            try simp only [Act.put, List.setIfInBounds_toArray, List.set_cons_zero, List.set_cons_succ]
            refine take_op (i := 7) (v := ?va7) rfl (by kernel_rfl) (by kernel_rfl) (by kernel_rfl) (fun _ _ _ h => h) rfl hHeld ?ya7 ?ra7
            case ya7 => (intro wz hz; go_simp; first | done | with_reducible rfl)
            try simp only [Act.put, List.setIfInBounds_toArray, List.set_cons_zero, List.set_cons_succ]
            refine take_op (i := 8) (v := ?va8) rfl (by kernel_rfl) (by kernel_rfl) (by kernel_rfl) (fun _ _ _ h => h) rfl hHeld ?ya8 ?ra8
            case ya8 => (intro wz hz; go_simp; first | done | with_reducible rfl)
            try simp only [Act.put, List.setIfInBounds_toArray, List.set_cons_zero, List.set_cons_succ]
            refine take_load (i := 9) rfl (by kernel_rfl) (by kernel_rfl) (by kernel_rfl) 41 _ rfl g' (o' + k * 4) 4 gy rfl _ Tryd.underlying41 rfl (by kernel_rfl) (fun _ _ _ h => h) rfl hHeld (fun wz hz => (FB.out wz hz).1) ?_
            try simp only [Act.put, List.setIfInBounds_toArray, List.set_cons_zero, List.set_cons_succ]
            refine take_pair (i := 10) (j := 11) rfl rfl (by kernel_rfl) rfl rfl (fun K hK => ?_) (fun K hK => ?_)
            · refine wp_of_run (exec_allocSp rfl) ?_
              refine hK.out _ _ (BD.out.alloc BD.out.size _) (fun hHeld => ?_)
              clear hK K
              try simp only [Act.put, List.setIfInBounds_toArray, List.set_cons_zero, List.set_cons_succ]
              refine take_one (i := 11) rfl (by kernel_rfl) rfl (fun K hK => ?_)
              refine wp_of_run (exec_allocSp rfl) ?_
              obtain ⟨z1, z2, bz⟩ := two_sp wd
              rw [World.size_alloc]
              generalize (wd.alloc (.cells (rowV 4 spZ) 41)).alloc (.cells (rowV 4 spZ) 41) = W at z1 z2 bz ⊢
              have BW : Hid (Below w2.heap.size w2 W) := (show Below w2.heap.size w2 W from BD.out.trans (bz.mono BD.out.size))
              refine hK.out _ _ BW.out (fun hHeld => ?_)
              clear hK K
              try simp only [Act.put, List.setIfInBounds_toArray, List.set_cons_zero, List.set_cons_succ]
              obtain ⟨V1, s1, q1, y1, c1'⟩ := sp_store W wd.heap.size gx z1 ONE.out.1
              obtain ⟨V2, s2, q2, y2, c2'⟩ := sp_store V1 (wd.heap.size + 1) gy (c1'.row z2 z2.lt (by omega)) ONE.out.2
              have q1' := c2'.row q1 q1.lt (by omega)
              have hwd := BD.out.size
              have bV1 : Below w2.heap.size w2 V1 := BW.out.trans ((c1'.mono BW.out.size).below (by omega))
              have bV2 : Below w2.heap.size w2 V2 := bV1.trans ((c2'.mono bV1.size).below (by omega))
              refine take_one (i := 12) rfl (by kernel_rfl) rfl (fun K hK => ?_)
              unfold Oper.wp execOp
              simp only [Instr.storeAt, Instr.sureAddr, Sem.run_bind, Sem.run_pure, Result.andThen_ok]
              simp [Act.eval, s1, Oper.upon]
              refine hK.out _ _ bV1 (fun hHeld => ?_)
              clear hK K
              try simp only [Act.put, List.setIfInBounds_toArray, List.set_cons_zero, List.set_cons_succ]
              refine take_one (i := 13) rfl (by kernel_rfl) rfl (fun K hK => ?_)
              unfold Oper.wp execOp
              simp only [Instr.storeAt, Instr.sureAddr, Sem.run_bind, Sem.run_pure, Result.andThen_ok]
              simp [Act.eval, s2, Oper.upon]
              refine hK.out _ _ bV2 (fun hHeld => ?_)
              clear hK K
              try simp only [Act.put, List.setIfInBounds_toArray, List.set_cons_zero, List.set_cons_succ]
              refine wpAnyH_done (by kernel_rfl) ?_ _
              refine NoPanic.normal ?_
              have FIN : Hid (V2.rowIs wd.heap.size 41 4 gx ∧ V2.rowIs (wd.heap.size + 1) 41 4 gy ∧ Below w2.heap.size w2 V2) := (show _ ∧ _ ∧ _ from ⟨q1', q2, bV2⟩)
              clear s1 s2 q1 q2 y1 y2 c1' c2' q1' bV1 bV2 z1 z2 bz hHeld hwd
              go_wp2_with fail
              go_meet
              case rel => exact ⟨rfl, _, _, rfl, rfl, FIN.out.1, FIN.out.2.1, FIN.out.2.2⟩
            · refine wp_of_run (exec_allocSp rfl) ?_
              refine hK.out _ _ (BD.out.alloc BD.out.size _) (fun hHeld => ?_)
              clear hK K
              try simp only [Act.put, List.setIfInBounds_toArray, List.set_cons_zero, List.set_cons_succ]
              refine take_one (i := 10) rfl (by kernel_rfl) rfl (fun K hK => ?_)
              refine wp_of_run (exec_allocSp rfl) ?_
              obtain ⟨z1, z2, bz⟩ := two_sp wd
              rw [World.size_alloc]
              generalize (wd.alloc (.cells (rowV 4 spZ) 41)).alloc (.cells (rowV 4 spZ) 41) = W at z1 z2 bz ⊢
              have BW : Hid (Below w2.heap.size w2 W) := (show Below w2.heap.size w2 W from BD.out.trans (bz.mono BD.out.size))
              refine hK.out _ _ BW.out (fun hHeld => ?_)
              clear hK K
              try simp only [Act.put, List.setIfInBounds_toArray, List.set_cons_zero, List.set_cons_succ]
              obtain ⟨V1, s1, q1, y1, c1'⟩ := sp_store W (wd.heap.size + 1) gx z2 ONE.out.1
              obtain ⟨V2, s2, q2, y2, c2'⟩ := sp_store V1 wd.heap.size gy (c1'.row z1 z1.lt (by omega)) ONE.out.2
              have q1' := c2'.row q1 q1.lt (by omega)
              have hwd := BD.out.size
              have bV1 : Below w2.heap.size w2 V1 := BW.out.trans ((c1'.mono BW.out.size).below (by omega))
              have bV2 : Below w2.heap.size w2 V2 := bV1.trans ((c2'.mono bV1.size).below (by omega))
              refine take_one (i := 12) rfl (by kernel_rfl) rfl (fun K hK => ?_)
              unfold Oper.wp execOp
              simp only [Instr.storeAt, Instr.sureAddr, Sem.run_bind, Sem.run_pure, Result.andThen_ok]
              simp [Act.eval, s1, Oper.upon]
              refine hK.out _ _ bV1 (fun hHeld => ?_)
              clear hK K
              try simp only [Act.put, List.setIfInBounds_toArray, List.set_cons_zero, List.set_cons_succ]
              refine take_one (i := 13) rfl (by kernel_rfl) rfl (fun K hK => ?_)
              unfold Oper.wp execOp
              simp only [Instr.storeAt, Instr.sureAddr, Sem.run_bind, Sem.run_pure, Result.andThen_ok]
              simp [Act.eval, s2, Oper.upon]
              refine hK.out _ _ bV2 (fun hHeld => ?_)
              clear hK K
              try simp only [Act.put, List.setIfInBounds_toArray, List.set_cons_zero, List.set_cons_succ]
              refine wpAnyH_done (by kernel_rfl) ?_ _
              refine NoPanic.normal ?_
              have FIN : Hid (V2.rowIs (wd.heap.size + 1) 41 4 gx ∧ V2.rowIs wd.heap.size 41 4 gy ∧ Below w2.heap.size w2 V2) := (show _ ∧ _ ∧ _ from ⟨q1', q2, bV2⟩)
              clear s1 s2 q1 q2 y1 y2 c1' c2' q1' bV1 bV2 z1 z2 bz hHeld hwd
              go_wp2_with fail
              go_meet
              case rel => exact ⟨rfl, _, _, rfl, rfl, FIN.out.1, FIN.out.2.1, FIN.out.2.2⟩
          case rest =>
            obtain ⟨rfl, b6, b7, rfl, rfl, r6, r7, b3⟩ := hcut
            rename World => w3
            have x0 : w3.cell? ⟨b6, 0, none⟩ = some (.int .i64 (x k).at_) := by have := r6.cell (i := 0) (by omega); rw [GX.out] at this; exact this
            have x1 : w3.cell? ⟨b6, 1, none⟩ = some (.slice ka (x k).pr.1.length kcap) := by have := r6.cell (i := 1) (by omega); rw [GX.out] at this; exact this
            have x2 : w3.cell? ⟨b6, 2, none⟩ = some (.slice va (x k).pr.2.length vcap) := by have := r6.cell (i := 2) (by omega); rw [GX.out] at this; exact this
            have x3 : w3.cell? ⟨b6, 3, none⟩ = some (.slice pa (x k).path.length pcap) := by have := r6.cell (i := 3) (by omega); rw [GX.out] at this; exact this
            have y0 : w3.cell? ⟨b7, 0, none⟩ = some (.int .i64 (y k).at_) := by have := r7.cell (i := 0) (by omega); rw [GY.out] at this; exact this
            have y1 : w3.cell? ⟨b7, 1, none⟩ = some (.slice kb (y k).pr.1.length kbcap) := by have := r7.cell (i := 1) (by omega); rw [GY.out] at this; exact this
            have y2 : w3.cell? ⟨b7, 2, none⟩ = some (.slice vb (y k).pr.2.length vbcap) := by have := r7.cell (i := 2) (by omega); rw [GY.out] at this; exact this
            have y3 : w3.cell? ⟨b7, 3, none⟩ = some (.slice pb (y k).path.length pbcap) := by have := r7.cell (i := 3) (by omega); rw [GY.out] at this; exact this
            obtain ⟨_, fa1, fa2, fa3⟩ := FA.out w3 b3
            obtain ⟨_, fb1, fb2, fb3⟩ := FB.out w3 b3
            have X := rsame_any _ _ _ _ w3 fa3 fb3 (HLP.out k hlt)
            have v1 := convK w3 _ _ fa1
            have v2 := convK w3 _ _ fa2
            have v3 := convK w3 _ _ fb1
            have v4 := convK w3 _ _ fb2
            have hE1 : decide (strOf (x k).pr.1 = strOf (y k).pr.1) = decide ((x k).pr.1 = (y k).pr.1) := decide_eq_decide.mpr (strOf_eq fa1 fb1)
            have hE2 : decide (strOf (x k).pr.2 = strOf (y k).pr.2) = decide ((x k).pr.2 = (y k).pr.2) := decide_eq_decide.mpr (strOf_eq fa2 fb2)
            have B3 : Hid (Below w2.heap.size w2 w3 ∧ Below w.heap.size w w3) := (show _ ∧ _ from ⟨b3, C0.out w3 b3⟩)
            have NOT : Hid (¬ x k = y k → sameP c c m n x y (.returned (.bool false))) := (show _ from fun h => ⟨false, rfl, fun e => (by cases e), fun e => absurd (e.2.2 k hlt) h⟩)
            have NXT : Hid (x k = y k → ∀ j, j < k + 1 → x j = y j) := (show _ from fun h j hj => by
              by_cases e : j = k
              · rw [e]; exact h
              · exact HAL.out j (by omega))
            clear r6 r7 b3 fa1 fa2 fa3 fb1 fb2 fb3 GX GY FA FB ONE C1 HP HLP HAL HBR
            obtain ⟨xk, hxk⟩ : ∃ s, s = x k := ⟨_, rfl⟩
            obtain ⟨yk, hyk⟩ : ∃ s, s = y k := ⟨_, rfl⟩
            rw [← hxk, ← hyk] at NOT NXT
            rw [← hxk, ← hyk] at X hE1 hE2
            rw [← hxk] at x0 x1 x2 x3 v1 v2
            rw [← hyk] at y0 y1 y2 y3 v3 v4
            clear hxk hyk
            obtain ⟨xa, ⟨xp, xq⟩, xs⟩ := xk
            obtain ⟨ya, ⟨yp, yq⟩, ys⟩ := yk
            simp only at x0 x1 x2 x3 y0 y1 y2 y3 X v1 v2 v3 v4 hE1 hE2
            by_cases h1 : xa = ya
            · by_cases h2 : xp = yp
              · by_cases h3 : xq = yq
                · subst h1 h2 h3
                  have NX2 : Hid (xs = ys → ∀ j, j < k + 1 → x j = y j) := (show _ from fun h => NXT.out (by rw [h]))
                  have NO2 : Hid (¬ xs = ys → sameP c c m n x y (.returned (.bool false))) := (show _ from fun h => NOT.out (fun e => h (by injection e)))
                  clear NOT NXT hE1 hE2
                  go_wp2_with fail
                  refine X.mono ?_
                  rintro e w' ⟨rfl, hb⟩
                  have B4 : Hid (Below w2.heap.size w2 w' ∧ Below w.heap.size w w') := (show _ ∧ _ from ⟨B3.out.1.trans (hb.mono B3.out.1.size), B3.out.2.trans (hb.mono B3.out.2.size)⟩)
                  clear X hb x0 x1 x2 x3 y0 y1 y2 y3
                  by_cases h4 : xs = ys
                  · rw [decide_eq_true h4]
                    have NX3 : Hid (∀ j, j < k + 1 → x j = y j) := (show _ from NX2.out h4)
                    clear h4 NX2 NO2
                    go_wp2
                    go_light
                    exact ⟨⟨k + 1, by omega, by go_num, NX3.out, B4.out.1⟩, by simp [intOf]; omega⟩
                  · rw [decide_eq_false h4]
                    have NO3 : Hid (sameP c c m n x y (.returned (.bool false))) := (show _ from NO2.out h4)
                    clear h4 NX2 NO2
                    go_wp2
                    go_ret
                    exact ⟨NO3.out, B4.out.2⟩
                · have NO3 : Hid (sameP c c m n x y (.returned (.bool false))) := (show _ from NOT.out (fun e => h3 (by injection e with e1 e2 e3; injection e2)))
                  rw [decide_eq_false h3] at hE2
                  have hs : ((strOf xq).toList == (strOf yq).toList) = false := by rw [str_beq]; exact hE2
                  have hs2 : ¬ (strOf xq).toList = (strOf yq).toList := fun e => by rw [beq_eq_false_iff_ne] at hs; exact hs e
                  clear X
                  subst h1 h2
                  clear NOT NXT hE1 hE2 h3
                  go_wp2
                  go_ret
                  exact ⟨NO3.out, B3.out.2⟩
              · have NO3 : Hid (sameP c c m n x y (.returned (.bool false))) := (show _ from NOT.out (fun e => h2 (by injection e with e1 e2 e3; injection e2)))
                rw [decide_eq_false h2] at hE1
                have hs : ((strOf xp).toList == (strOf yp).toList) = false := by rw [str_beq]; exact hE1
                have hs2 : ¬ (strOf xp).toList = (strOf yp).toList := fun e => by rw [beq_eq_false_iff_ne] at hs; exact hs e
                clear X
                subst h1
                clear NOT NXT hE1 hE2 h2
                go_wp2
                go_ret
                exact ⟨NO3.out, B3.out.2⟩
            · have NO3 : Hid (sameP c c m n x y (.returned (.bool false))) := (show _ from NOT.out (fun e => h1 (by injection e)))
              clear NOT NXT hE1 hE2
              go_wp2
              go_ret
              exact ⟨NO3.out, B3.out.2⟩
        · obtain rfl : k = m := by omega
          have p1 : ¬ (k : Int) < (k : Int) := by omega
          have FI : Hid (sameP c c k n x y (.returned (.bool true)) ∧ Below w.heap.size w wr) := (show _ ∧ _ from ⟨⟨true, rfl, fun _ => ⟨rfl, EQ.out, HAL.out⟩, fun _ => rfl⟩, C0.out wr hbr⟩)
          clear hbr c0 c1 d0 d1
          go_wp2
          go_ret
          exact FI.out
    · have hmn' : ¬ (m : Int) = (n : Int) := by omega
      have FI : Hid (sameP c d m n x y (.returned (.bool false))) := (show _ from ⟨false, rfl, fun e => (by cases e), fun e => absurd e.2.1 hmn⟩)
      clear hmn
      go_wp2
      go_ret
      exact ⟨FI.out, B12.out⟩
  · have FI : Hid (sameP c d m n x y (.returned (.bool false))) := (show _ from ⟨false, rfl, fun e => (by cases e), fun e => absurd e.1 hcd⟩)
    go_wp2
    go_ret
    exact ⟨FI.out, B12.out⟩
end Go.Proofs.YtkgegihkhdgdoaaDoor

/- The laws' alike. -/
namespace Go.Proofs.YtkgegihkhdgdoaaDoor
set_option linter.unusedSimpArgs false
set_option linter.unusedVariables false
open Go.RowKit Go.Deep

def alikeP (n m : Nat) (x y : Nat → Pr) (e : Ending) : Prop := ∃ b, e = .returned (.bool b) ∧ (b = true ↔ n = m ∧ ∀ i, i < n → x i = y i)
set_option maxHeartbeats 4000000 in
set_option maxRecDepth 100000 in
theorem kalike_any (n m : Nat) (v u : Value) (x y : Nat → Pr) (w : World) (hp : pairsAt w v n x) (hq : pairsAt w u m y) :
    Calls Tryd.prog 19 #[v, u] w fun e w' => alikeP n m x y e ∧ Below w.heap.size w w' := by
  obtain ⟨a, cap, hv, hnc, hcm, _⟩ := (id hp : pairsAt w v n x)
  obtain ⟨a', cap', hv', _⟩ := (id hq : pairsAt w u m y)
  have hnm : (n : Int) ≤ 9223372036854775807 := by unfold maxLen at hcm; omega
  have HP : Hid (pairsAt w v n x ∧ pairsAt w u m y) := (show pairsAt w v n x ∧ pairsAt w u m y from ⟨hp, hq⟩)
  subst hv hv'
  have hn0 : (0 : Int) ≤ (n : Int) := by omega
  clear hp hq hnc hcm
  by_cases hnm' : n = m
  · subst hnm'
    go_enter Tryd.func19, Tryd.ntmps19
    go_wp2_with fail
    go_loopw [5] (fun i wr => ∃ k : Nat, k ≤ n ∧ i = .int .i64 (k : Int) ∧ (∀ j, j < k → x j = y j) ∧ Below w.heap.size w wr) (fun i _ => n - (intOf i).toNat)
    case atStart => exact ⟨0, by omega, rfl, fun j hj => by omega, Below.refl _ _⟩
    case round =>
      obtain ⟨k, hkn, rfl, hne, hb⟩ := hrel
      have p0 : (0 : Int) ≤ (k : Int) := by omega
      have HNE : Hid (∀ j, j < k → x j = y j) := (show ∀ j, j < k → x j = y j from hne)
      have HB : Hid (Below w.heap.size w wr) := (show Below w.heap.size w wr from hb)
      clear hne
      by_cases hlt : k < n
      · have p1 : (k : Int) < (n : Int) := by omega
        obtain ⟨g, o, cap1, e, hg, _, _, hcell⟩ := HP.out.1.at (by omega)
        injection e with e1 e2 e3
        subst e1
        subst e3
        obtain ⟨g', o', cap2, e, hg', _, _, hcell'⟩ := HP.out.2.at (by omega)
        injection e with e1 e2 e3
        subst e1
        subst e3
        obtain ⟨ka, kcap, va, vcap, H⟩ := hcell k hlt
        obtain ⟨kb, kbcap, vb, vbcap, H'⟩ := hcell' k hlt
        have s0 := (H wr hb).1
        have s1 := (H wr hb).2.1
        have r0 := (H' wr hb).1
        have r1 := (H' wr hb).2.1
        have v1 := conv_drew hb (fun wz hz => (H wz hz).2.2.1)
        have v2 := conv_drew hb (fun wz hz => (H wz hz).2.2.2)
        have v3 := conv_drew hb (fun wz hz => (H' wz hz).2.2.1)
        have v4 := conv_drew hb (fun wz hz => (H' wz hz).2.2.2)
        have E1 : ((strOf (x k).1).toList == (strOf (y k).1).toList) = decide ((x k).1 = (y k).1) := by
          rw [str_beq]; exact decide_eq_decide.mpr (strOf_eq (H wr hb).2.2.1 (H' wr hb).2.2.1)
        have E2 : ((strOf (x k).2).toList == (strOf (y k).2).toList) = decide ((x k).2 = (y k).2) := by
          rw [str_beq]; exact decide_eq_decide.mpr (strOf_eq (H wr hb).2.2.2 (H' wr hb).2.2.2)
        clear H H' hcell hcell' hg hg'
        generalize hA : strOf (x k).1 = A at v1 E1
        generalize hB : strOf (y k).1 = B at v3 E1
        generalize hC : strOf (x k).2 = C at v2 E2
        generalize hD : strOf (y k).2 = D at v4 E2
        clear hA hB hC hD hb
        by_cases h0 : (x k).1 = (y k).1
        · rw [decide_eq_true h0] at E1
          have hG : ∀ ty, (binOp .neq ty (.string A) (.string B)) = pure (.bool false) := fun ty => by simp [binOp, Op.stringOp, E1]
          by_cases h1 : (x k).2 = (y k).2
          · rw [decide_eq_true h1] at E2
            have hG2 : ∀ ty, (binOp .neq ty (.string C) (.string D)) = pure (.bool false) := fun ty => by simp [binOp, Op.stringOp, E2]
            have NX : Hid (∀ j, j < k + 1 → x j = y j) := (show ∀ j, j < k + 1 → x j = y j from fun j hj => by
              by_cases e : j = k
              · rw [e]; exact Prod.ext h0 h1
              · exact HNE.out j (by omega))
            rw [beq_iff_eq] at E1 E2
            clear h0 h1
            go_upto_region 6 with fail
            go_quiet (fail)
            go_wp2
            go_light
            exact ⟨⟨k + 1, by omega, by go_num, NX.out, HB.out.drewN _⟩, by simp [intOf]; omega⟩
          · rw [decide_eq_false h1] at E2
            have E3 := beq_not E2
            have hG2 : ∀ ty, (binOp .neq ty (.string C) (.string D)) = pure (.bool true) := fun ty => by simp [binOp, Op.stringOp, E2]
            have FI : Hid (alikeP n n x y (.returned (.bool false))) := (show _ from ⟨false, rfl, fun e => (by cases e), fun e => absurd (congrArg (fun z : Pr => z.2) (e.2 k hlt)) h1⟩)
            rw [beq_iff_eq] at E1
            clear h0 h1
            go_upto_region 6 with fail
            go_quiet (fail)
            go_wp2
            go_ret
            exact ⟨FI.out, HB.out.drewN _⟩
        · rw [decide_eq_false h0] at E1
          have E3 := beq_not E1
          have hG : ∀ ty, (binOp .neq ty (.string A) (.string B)) = pure (.bool true) := fun ty => by simp [binOp, Op.stringOp, E1]
          have FI : Hid (alikeP n n x y (.returned (.bool false))) := (show _ from ⟨false, rfl, fun e => (by cases e), fun e => absurd (congrArg (fun z : Pr => z.1) (e.2 k hlt)) h0⟩)
          clear h0 E2
          go_upto_region 6 with fail
          go_quiet (fail)
          go_wp2
          go_ret
          exact ⟨FI.out, HB.out.drewN _⟩
      · obtain rfl : k = n := by omega
        have p1 : ¬ (k : Int) < (k : Int) := by omega
        have FI : Hid (alikeP k k x y (.returned (.bool true))) := (show _ from ⟨true, rfl, fun _ => ⟨rfl, HNE.out⟩, fun _ => rfl⟩)
        clear hb
        go_wp2
        go_ret
        exact ⟨FI.out, HB.out⟩
  · have q : ¬ (n : Int) = (m : Int) := by omega
    have FI : Hid (alikeP n m x y (.returned (.bool false))) := (show _ from ⟨false, rfl, fun e => (by cases e), fun e => absurd e.1 hnm'⟩)
    clear hnm'
    go_enter Tryd.func19, Tryd.ntmps19
    go_wp2
    go_ret
    exact ⟨FI.out, Below.refl _ _⟩
end Go.Proofs.YtkgegihkhdgdoaaDoor
