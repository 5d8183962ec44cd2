import Derived.Deep.Light
import Derived.Test.YtkgegihkhdgdoaaDoorOwn1
import Derived.Test.YtkgegihkhdgdoaaDoorOwn3
import Derived.Test.YtkgegihkhdgdoaaDoorOwn4
import Derived.Test.YtkgegihkhdgdoaaDoorOwn5
import Derived.Test.YtkgegihkhdgdoaaDoorOwn7
set_option linter.unusedVariables false
set_option linter.unusedSimpArgs false
/- keyed.cutSpot. -/
namespace Go.Proofs.YtkgegihkhdgdoaaDoor
set_option linter.unusedSimpArgs false
set_option linter.unusedVariables false
open Go.RowKit Go.Deep

theorem build_sp1 (n : Int) (w : World) : (Instr.build 41 #[(0, .int .i64 n)]).run Tryd.prog w = .ok (.agg (rowV 4 (spG n (.slice none 0 0) (.slice none 0 0) (.slice none 0 0)))) w := by
  show (_ : Result Value) = _
  kernel_rfl
theorem But.later {c : Nat} {w v z : World} (h : But w.heap.size c w v) (hz : But v.heap.size c v z) : But w.heap.size c w z := h.trans (hz.mono h.size)
theorem But.box {c b : Nat} {w v z : World} (h : But w.heap.size c w v) (hz : But v.heap.size b v z) (hb : w.heap.size ≤ b) : But w.heap.size c w z := h.trans (But.of_below ((hz.mono h.size).below hb) c)
/-- the loop of cutSpot: box b3 holds the spot so far. -/
def cspL (w w7 : World) (S : Nat → Prop) (c b3 : Nat) (kc vc : Value) (l : List Int) (b : Bool) (q : Nat) (wr : World) : Prop :=
  But w.heap.size c w wr ∧ (w7.heap.size ≤ wr.heap.size ∧ ∀ j, j < w7.heap.size → j ≠ c → j ≠ b3 → wr.heap[j]? = w7.heap[j]?) ∧ cutS wr S c (sp5 l b q).1 (sp5 l b q).2 ∧
    ∃ pa pc, wr.rowIs b3 41 4 (spG (sp1 l b).1 kc vc (.slice pa q pc)) ∧ newSums wr w7.heap.size (.slice pa q pc) (sumsL (sp4 l b).2.1 (sp4 l b).2.2 q)
set_option maxHeartbeats 8000000 in
set_option maxRecDepth 100000 in
theorem cutspot_s (c : Nat) (S : Nat → Prop) (l : List Int) (b : Bool) (w : World) (h : cutS w S c l b) (hS : ∀ k, S k → k < w.heap.size) (hl : l.length ≤ 200000000) :
    Calls Tryd.prog 84 #[.pointer (some ⟨c, 0, none⟩)] w fun e w' => ∃ kc vc pc, e = .returned (.agg (rowV 4 (spG (sp1 l b).1 kc vc pc))) ∧ newBytes w' w.heap.size kc (sp2 l b).1 ∧ newBytes w' w.heap.size vc (sp3 l b).1 ∧ newSums w' w.heap.size pc (spotR l b).path ∧ cutS w' S c (spotE l b).1 (spotE l b).2 ∧ But w.heap.size c w w' := by
  have hzsp := zero_sp
  have hbs := build_sp1
  have hby : byL l := h.byte
  have hc := h.lt
  obtain ⟨x1i, x1j⟩ := sp1_in (b := b) hby
  obtain ⟨x4i, x4j⟩ := sp4_in (b := b) hby
  obtain ⟨x1, hx1⟩ : ∃ x, x = (sp1 l b).1 := ⟨_, rfl⟩
  obtain ⟨n4, hn4⟩ : ∃ n : Nat, n = (sp4 l b).1.toNat := ⟨_, rfl⟩
  have e4 : (sp4 l b).1 = (n4 : Int) := by omega
  have HE : Hid ((sp4 l b).1 = (n4 : Int) ∧ x1 = (sp1 l b).1 ∧ n4 = (sp4 l b).1.toNat ∧ n4 ≤ 32) := (show _ from ⟨e4, hx1, hn4, by omega⟩)
  have hwi : IntKind.wrap .i64 x1 = x1 := IntWalk.i64_in _ ⟨by omega, by omega⟩
  have k1i : 0 ≤ x1 := by omega
  have k1j : x1 ≤ 2147483647 := by omega
  have n4i : (n4 : Int) ≤ 32 := by omega
  have n40 : (0 : Int) ≤ (n4 : Int) := by omega
  obtain ⟨w1, hw1⟩ : ∃ w1, w1 = w.alloc (.cells (rowV 4 spZ) 41) := ⟨_, rfl⟩
  have b1 : Below w.heap.size w w1 := by rw [hw1]; exact (Below.refl _ _).alloc (Nat.le_refl _) _
  have r1 : w1.rowIs w.heap.size 41 4 spZ := by rw [hw1]; exact rowIs_box _ _ _ _
  have X1 : Calls Tryd.prog 83 #[.pointer (some ⟨c, 0, none⟩), .int .u64 2147483647] w1 fun e w' => e = .returned (.int .u64 x1) ∧ cutS w' S c (sp1 l b).2.1 (sp1 l b).2.2 ∧ But w1.heap.size c w1 w' := by
    rw [hx1]; exact cnum_s c S l b 2147483647 (by omega) w1 (h.below b1 (Nat.le_refl _))
  have H0 : Hid (Below w.heap.size w w1 ∧ w1.rowIs w.heap.size 41 4 spZ ∧ c < w.heap.size ∧ (∀ k, S k → k < w.heap.size) ∧ byL l ∧ l.length ≤ 200000000) := (show _ from ⟨b1, r1, hc, hS, hby, hl⟩)
  clear h hS hl hby hc hx1 hn4 e4 x1i x1j x4i x4j b1 r1
  go_enter Tryd.func84, Tryd.ntmps84
  go_upto_region 1 with fail
  rw [← hw1]
  clear hw1
  go_wp2_with fail
  refine X1.mono ?_
  rintro e w2 ⟨rfl, c2, b2⟩
  clear X1
  have B2 : Hid (But w.heap.size c w w2 ∧ w2.rowIs w.heap.size 41 4 spZ ∧ cutS w2 S c (sp1 l b).2.1 (sp1 l b).2.2) := (show _ from by
    obtain ⟨g1, g2, g3, g4, g5, g6⟩ := H0.out
    exact ⟨(But.of_below g1 c).trans (b2.mono g1.size), World.rowIs.of_block g2 (b2.block _ g2.lt (by omega)), c2⟩)
  clear c2 b2
  obtain ⟨wq, hwq⟩ : ∃ wq, wq = w2.alloc (.cells (rowV 4 spZ) 41) := ⟨_, rfl⟩
  have bq : Below w2.heap.size w2 wq := by rw [hwq]; exact (Below.refl _ _).alloc (Nat.le_refl _) _
  have rq : wq.rowIs w2.heap.size 41 4 spZ := by rw [hwq]; exact rowIs_box _ _ _ _
  have RQ : Hid (wq.rowIs w2.heap.size 41 4 spZ ∧ Below w2.heap.size w2 wq) := (show _ ∧ _ from ⟨rq, bq⟩)
  clear rq bq
  go_upto_region 2 with (first | (rw [← hwq]; clear hwq; refine wpList_store_row rfl 41 _ _ rfl rfl w2.heap.size 0 4 (spG x1 (.slice none 0 0) (.slice none 0 0) (.slice none 0 0)) rfl rfl hiSp (spG_one _ _ _ _ _ _ _ _ _ _) _ _ _ RQ.out.1 (by omega) ?_; intro w4 r4 z4 b4))
  have r4' : w4.rowIs w2.heap.size 41 4 (spG x1 (.slice none 0 0) (.slice none 0 0) (.slice none 0 0)) := r4.congr (fun i hi => by rw [if_pos (by omega), Nat.sub_zero])
  obtain ⟨b3, hb3⟩ : ∃ b3, b3 = w2.heap.size := ⟨_, rfl⟩
  rw [← hb3] at r4' b4 ⊢
  have B4 : Hid (But w.heap.size c w w4 ∧ w4.rowIs w.heap.size 41 4 spZ ∧ cutS w4 S c (sp1 l b).2.1 (sp1 l b).2.2 ∧ w.heap.size < b3 ∧ b3 < w4.heap.size ∧ w4.rowIs b3 41 4 (spG x1 (.slice none 0 0) (.slice none 0 0) (.slice none 0 0))) := (show _ from by
    obtain ⟨g1, g2, g3, g4, g5, g6⟩ := H0.out
    obtain ⟨p1, p2, p3⟩ := B2.out
    obtain ⟨q1, q2⟩ := RQ.out
    have s1 := p2.lt
    have s2 := q1.lt
    have bw : But w.heap.size c w wq := p1.trans (But.of_below (q2.mono p1.size) c)
    refine ⟨bw.box b4 (by omega), World.rowIs.of_block (q2.row p2 p2.lt) (b4.block _ (by omega) (by omega)), (p3.below q2 (Nat.le_refl _)).far (fun k hk hs => b4.block k hk (by have := g4 k hs; omega)) b4.size, by omega, by have := b4.size; omega, r4'⟩)
  clear r4 r4' z4 b4 B2 RQ hb3
  have X2 : Calls Tryd.prog 100 #[.pointer (some ⟨c, 0, none⟩), .int .i64 256] w4 fun e w' => ∃ v, e = .returned v ∧ newBytes w' w4.heap.size v (sp2 l b).1 ∧ cutS w' S c (sp2 l b).2.1 (sp2 l b).2.2 ∧ But w4.heap.size c w4 w' :=
    cblob_s c S (sp1 l b).2.1 (sp1 l b).2.2 256 (by omega) w4 B4.out.2.2.1 (by have := sp1_le l b; have := H0.out.2.2.2.2.2; omega)
  go_wp2_with fail
  refine X2.mono ?_
  rintro e w5 ⟨kc, rfl, n5, c5, b5⟩
  clear X2
  have X3 : Calls Tryd.prog 100 #[.pointer (some ⟨c, 0, none⟩), .int .i64 1048576] w5 fun e w' => ∃ v, e = .returned v ∧ newBytes w' w5.heap.size v (sp3 l b).1 ∧ cutS w' S c (sp3 l b).2.1 (sp3 l b).2.2 ∧ But w5.heap.size c w5 w' :=
    cblob_s c S (sp2 l b).2.1 (sp2 l b).2.2 1048576 (by omega) w5 c5 (by have := sp2_le l b; have := H0.out.2.2.2.2.2; omega)
  obtain ⟨ka, kcap, rfl⟩ := n5.slen
  have N5 : Hid (newBytes w5 w4.heap.size (.slice ka (sp2 l b).1.length kcap) (sp2 l b).1 ∧ But w4.heap.size c w4 w5) := (show _ ∧ _ from ⟨n5, b5⟩)
  clear n5 c5 b5
  go_wp2_with fail
  refine X3.mono ?_
  rintro e w6 ⟨vc, rfl, n6, c6, b6⟩
  clear X3
  obtain ⟨va, vcap, rfl⟩ := n6.slen
  have N6 : Hid (newBytes w6 w5.heap.size (.slice va (sp3 l b).1.length vcap) (sp3 l b).1 ∧ But w5.heap.size c w5 w6 ∧ cutS w6 S c (sp3 l b).2.1 (sp3 l b).2.2) := (show _ ∧ _ ∧ _ from ⟨n6, b6, c6⟩)
  have B6 : Hid (But w4.heap.size c w4 w6 ∧ But w.heap.size c w w6 ∧ w6.rowIs w.heap.size 41 4 spZ ∧ w6.rowIs b3 41 4 (spG x1 (.slice none 0 0) (.slice none 0 0) (.slice none 0 0))) := (show _ from by
    obtain ⟨g1, g2, g3, g4, g5, g6⟩ := H0.out
    obtain ⟨p1, p2, p3, p4, p5, p6⟩ := B4.out
    obtain ⟨q1, q2⟩ := N5.out
    have b46 : But w4.heap.size c w4 w6 := q2.later b6
    exact ⟨b46, p1.later b46, World.rowIs.of_block p2 (b46.block _ (by omega) (by omega)), World.rowIs.of_block p6 (b46.block _ (by omega) (by omega))⟩)
  clear n6 c6 b6
  have d1 : w6.cell? ⟨b3, 1, none⟩ = some (.slice none 0 0) := B6.out.2.2.2.cell (i := 1) (by omega)
  have d2 : w6.cell? ⟨b3, 2, none⟩ = some (.slice none 0 0) := B6.out.2.2.2.cell (i := 2) (by omega)
  have f1 := B6.out.2.2.2.frozen 1
  have f2 := B6.out.2.2.2.frozen 2
  go_upto_region 3 with fail
  obtain ⟨w7, hw7⟩ : ∃ w7, w7 = (w6.setCell ⟨b3, 1, none⟩ (.slice ka (sp2 l b).1.length kcap)).setCell ⟨b3, 2, none⟩ (.slice va (sp3 l b).1.length vcap) := ⟨_, rfl⟩
  rw [← hw7]
  have r7 : w7.rowIs b3 41 4 (spG x1 (.slice ka (sp2 l b).1.length kcap) (.slice va (sp3 l b).1.length vcap) (.slice none 0 0)) := by
    rw [hw7]
    refine ((World.rowIs.set B6.out.2.2.2 1 (.slice ka (sp2 l b).1.length kcap)).set 2 (.slice va (sp3 l b).1.length vcap)).congr fun i hi => ?_
    have : i = 0 ∨ i = 1 ∨ i = 2 ∨ i = 3 := by omega
    rcases this with rfl | rfl | rfl | rfl <;> rfl
  have b67 : But w6.heap.size b3 w6 w7 := by rw [hw7]; exact ((But.refl _ _ _).set 1 _).set 2 _
  have c7 : cutS w7 S c (sp3 l b).2.1 (sp3 l b).2.2 := N6.out.2.2.far (fun k hk hs => b67.block k hk (by have := H0.out.2.2.2.1 k hs; have := B4.out.2.2.2.1; omega)) b67.size
  have X4 : Calls Tryd.prog 83 #[.pointer (some ⟨c, 0, none⟩), .int .u64 32] w7 fun e w' => e = .returned (.int .u64 (n4 : Int)) ∧ cutS w' S c (sp4 l b).2.1 (sp4 l b).2.2 ∧ But w7.heap.size c w7 w' := by
    rw [← HE.out.1]; exact cnum_s c S (sp3 l b).2.1 (sp3 l b).2.2 32 (by omega) w7 c7
  have R7 : Hid (w7.rowIs b3 41 4 (spG x1 (.slice ka (sp2 l b).1.length kcap) (.slice va (sp3 l b).1.length vcap) (.slice none 0 0)) ∧ But w6.heap.size b3 w6 w7) := (show _ ∧ _ from ⟨r7, b67⟩)
  clear hw7 r7 b67 c7 d1 d2 f1 f2
  go_wp2_with fail
  refine X4.mono ?_
  rintro e w8 ⟨rfl, c8, b8⟩
  clear X4
  have N8 : Hid (newBytes w8 w4.heap.size (.slice ka (sp2 l b).1.length kcap) (sp2 l b).1 ∧ newBytes w8 w5.heap.size (.slice va (sp3 l b).1.length vcap) (sp3 l b).1 ∧ But w.heap.size c w w8 ∧ w8.rowIs w.heap.size 41 4 spZ ∧ w.heap.size < b3 ∧ b3 < w4.heap.size ∧ w4.heap.size ≤ w5.heap.size ∧ c < w.heap.size) := (show _ from by
    obtain ⟨g1, g2, g3, g4, g5, g6⟩ := H0.out
    obtain ⟨p1, p2, p3, p4, p5, p6⟩ := B4.out
    obtain ⟨q1, q2⟩ := N5.out
    obtain ⟨n1, n2, n3⟩ := N6.out
    obtain ⟨m1, m2, m3, m4⟩ := B6.out
    obtain ⟨t1, t2⟩ := R7.out
    have s45 := q2.size
    have s56 := n2.size
    have s67 := t2.size
    have s78 := b8.size
    refine ⟨q1.apart fun k hk => ?_, n1.apart fun k hk => ?_, ?_, ?_, p4, p5, s45, g3⟩
    · obtain ⟨y1, y2⟩ := q1.block k hk
      rw [b8.block k (by omega) (by omega), t2.block k (by omega) (by omega), n2.block k (by omega) (by omega)]
    · obtain ⟨y1, y2⟩ := n1.block k hk
      rw [b8.block k (by omega) (by omega), t2.block k (by omega) (by omega)]
    · exact (m2.box t2 (by omega)).later b8
    · have s2 := m3.lt
      exact World.rowIs.of_block m3 ((b8.block _ (by omega) (by omega)).trans (t2.block _ (by omega) (by omega))))
  have HL0 : Hid (cspL w w8 S c b3 (.slice ka (sp2 l b).1.length kcap) (.slice va (sp3 l b).1.length vcap) l b 0 w8) := (show _ from by
    obtain ⟨t1, t2⟩ := R7.out
    have s1 := t1.lt
    have s78 := b8.size
    obtain ⟨m1, m2, m3, m4, m5, m6, m7, m8⟩ := N8.out
    refine ⟨m3, ⟨Nat.le_refl _, fun _ _ _ _ => rfl⟩, c8, none, 0, ?_, newSums.nil _ _⟩
    rw [← HE.out.2.1]
    exact World.rowIs.of_block t1 (b8.block _ s1 (by omega)))
  clear c8 b8 N5 N6 B6 R7 B4
  go_wp2_with fail
  go_loopw [18] (fun i wr => ∃ q : Nat, q ≤ n4 ∧ i = .int .u64 (q : Int) ∧ cspL w w8 S c b3 (.slice ka (sp2 l b).1.length kcap) (.slice va (sp3 l b).1.length vcap) l b q wr) (fun i _ => n4 - (intOf i).toNat)
  case atStart => exact ⟨0, by omega, rfl, HL0.out⟩
  case round =>
    obtain ⟨q, hqm, rfl, hL⟩ := hrel
    have q0 : (0 : Int) ≤ (q : Int) := by omega
    have HL : Hid (cspL w w8 S c b3 (.slice ka (sp2 l b).1.length kcap) (.slice va (sp3 l b).1.length vcap) l b q wr) := (show _ from hL)
    clear hL
    by_cases hlt : q < n4
    · have q1 : (q : Int) < (n4 : Int) := by omega
      obtain ⟨hbw, ⟨hsz, hfr⟩, hcut, pa, pc, r3, hns⟩ := HL.out
      have HW : Hid (cutS wr S c (sp5 l b q).1 (sp5 l b q).2 ∧ newSums wr w8.heap.size (.slice pa q pc) (sumsL (sp4 l b).2.1 (sp4 l b).2.2 q) ∧ w8.heap.size ≤ wr.heap.size ∧ wr.rowIs b3 41 4 (spG (sp1 l b).1 (.slice ka (sp2 l b).1.length kcap) (.slice va (sp3 l b).1.length vcap) (.slice pa q pc)) ∧ But w.heap.size c w wr ∧ ∀ j, j < w8.heap.size → j ≠ c → j ≠ b3 → wr.heap[j]? = w8.heap[j]?) := (show _ from ⟨hcut, hns, hsz, r3, hbw, hfr⟩)
      have hc3 : wr.cell? ⟨b3, 3, none⟩ = some (.slice pa q pc) := r3.cell (i := 3) (by omega)
      clear hbw hsz hfr hcut r3 hns
      have HJ : Hid (∀ s, JJ 7 (fun w' : World => w'.cell? ⟨b3, 3, none⟩ = some (.slice pa q pc)) 7 (fun w' : World => w'.cell? ⟨b3, 3, none⟩ = some (.slice pa q pc)) s wr.drew) := (show ∀ s, JJ 7 (fun w' : World => w'.cell? ⟨b3, 3, none⟩ = some (.slice pa q pc)) 7 (fun w' : World => w'.cell? ⟨b3, 3, none⟩ = some (.slice pa q pc)) s wr.drew from JJ_all hc3 hc3)
      clear hc3
      go_upto_region 5 with fail
      refine wp_region_noPanic ?_
      refine wp_region_T (JJ 7 (fun w' : World => w'.cell? ⟨b3, 3, none⟩ = some (.slice pa q pc)) 7 (fun w' : World => w'.cell? ⟨b3, 3, none⟩ = some (.slice pa q pc))) (by kernel_rfl) ?_
      obtain ⟨V0, hV0⟩ : ∃ V0, V0 = wr.drew := ⟨_, rfl⟩
      rw [← hV0] at HJ ⊢
      have D0 : Hid (Below wr.heap.size wr V0 ∧ V0.heap.size = wr.heap.size) := (show _ ∧ _ from by rw [hV0]; exact ⟨(Below.refl _ _).drew, rfl⟩)
      clear hV0
      refine take_opT (i := 0) (v := ?vu0) 7 rfl (by kernel_rfl) (by kernel_rfl) (by kernel_rfl) (by kernel_rfl) (by kernel_rfl) (JJ_free rfl rfl) (fun _ _ _ h => h) rfl HJ.out ?yu0 ?ru0
      case yu0 => (intro wz hz0; have hz := hz0.1 rfl; go_simp; first | done | with_reducible rfl)
      try simp only [Act.put, List.setIfInBounds_toArray, List.set_cons_zero, List.set_cons_succ]
      refine take_opT (i := 1) (v := ?vu1) 7 rfl (by kernel_rfl) (by kernel_rfl) (by kernel_rfl) (by kernel_rfl) (by kernel_rfl) (JJ_free rfl rfl) (fun _ _ _ h => h) rfl HJ.out ?yu1 ?ru1
      case yu1 => (intro wz hz0; have hz := hz0.1 rfl; go_simp; first | done | with_reducible rfl)
      try simp only [Act.put, List.setIfInBounds_toArray, List.set_cons_zero, List.set_cons_succ]
      refine take_opT (i := 2) (v := ?vu2) 7 rfl (by kernel_rfl) (by kernel_rfl) (by kernel_rfl) (by kernel_rfl) (by kernel_rfl) (JJ_free rfl rfl) (fun _ _ _ h => h) rfl HJ.out ?yu2 ?ru2
      case yu2 => (intro wz hz0; have hz := hz0.1 rfl; go_simp; first | done | with_reducible rfl)
      try simp only [Act.put, List.setIfInBounds_toArray, List.set_cons_zero, List.set_cons_succ]
      have X5 : Calls Tryd.prog 101 #[.pointer (some ⟨c, 0, none⟩)] V0 fun e w' => e = .returned (.agg (rowV 32 (arrV (sumsEl (sp4 l b).2.1 (sp4 l b).2.2 q)))) ∧ cutS w' S c (sp5 l b (q + 1)).1 (sp5 l b (q + 1)).2 ∧ But V0.heap.size c V0 w' :=
        csum_s c S (sp5 l b q).1 (sp5 l b q).2 V0 (HW.out.1.below D0.out.1 (Nat.le_refl _))
      refine take_oneT (i := 3) rfl (by kernel_rfl) rfl (fun K hK => ?_)
      go_simp
      refine Calls.mono X5 ?_
      rintro e V1 ⟨rfl, cV1, bV1⟩
      clear X5
      have F1 : Hid (newSums V1 w8.heap.size (.slice pa q pc) (sumsL (sp4 l b).2.1 (sp4 l b).2.2 q) ∧ V1.rowIs b3 41 4 (spG (sp1 l b).1 (.slice ka (sp2 l b).1.length kcap) (.slice va (sp3 l b).1.length vcap) (.slice pa q pc)) ∧ But w.heap.size c w V1 ∧ (∀ j, j < w8.heap.size → j ≠ c → j ≠ b3 → V1.heap[j]? = w8.heap[j]?) ∧ wr.heap.size ≤ V1.heap.size ∧ cutS V1 S c (sp5 l b (q + 1)).1 (sp5 l b (q + 1)).2) := (show _ from by
        obtain ⟨m1, m2, m3, m4, m5, m6, m7, m8⟩ := N8.out
        obtain ⟨g1, g2, g3, g4, g5, g6⟩ := HW.out
        obtain ⟨d1, d2⟩ := D0.out
        have s1 := bV1.size
        have s8 := m3.size
        have sw := g5.size
        have hlt3 := g4.lt
        have same : ∀ j, j < wr.heap.size → j ≠ c → V1.heap[j]? = wr.heap[j]? := fun j hj hn => (bV1.block j (by omega) hn).trans (d1.block j hj)
        refine ⟨g2.far fun k hk => same k (g2.block k hk).2 (by have := (g2.block k hk).1; omega), World.rowIs.of_block g4 (same _ hlt3 (by omega)), g5.trans ⟨bV1.os.trans d1.os, bV1.tape.trans d1.tape, bV1.output.trans d1.output, by omega, fun j hj hn => same j (by omega) hn⟩, fun j hj h1 h2 => (same j (by omega) h1).trans (g6 j hj h1 h2), by omega, cV1⟩)
      refine hK.out _ _ (heldJ_all (F1.out.2.1.cell (i := 3) (by omega)) (F1.out.2.1.cell (i := 3) (by omega))) ?_
      clear hK K cV1 bV1
      try simp only [Act.put, List.setIfInBounds_toArray, List.set_cons_zero, List.set_cons_succ]
      have hsum : isSum (sumsEl (sp4 l b).2.1 (sp4 l b).2.2 q) := sumR_sum (sumsSt_by (sp4_by H0.out.2.2.2.2.1) q)
      obtain ⟨a4, k4, V3, hr, n3, hg, hat⟩ := sums_one_more V1 w8.heap.size (.slice pa q pc) _ (sumsEl (sp4 l b).2.1 (sp4 l b).2.2 q) hsum F1.out.1 (by have := HW.out.2.2.1; have := F1.out.2.2.2.2.1; omega) (by rw [sumsL_len]; have := HE.out.2.2.2; omega)
      rw [sumsL_len] at hr n3 hat
      rw [← sumsL_succ] at n3
      obtain ⟨V2, hV2⟩ : ∃ V2, V2 = V1.alloc (.cells (rowV 32 (arrV (sumsEl (sp4 l b).2.1 (sp4 l b).2.2 q))) 32) := ⟨_, rfl⟩
      have bV2 : Below V1.heap.size V1 V2 := by rw [hV2]; exact (Below.refl _ _).alloc (Nat.le_refl _) _
      have r2' : V2.rowIs b3 41 4 (spG (sp1 l b).1 (.slice ka (sp2 l b).1.length kcap) (.slice va (sp3 l b).1.length vcap) (.slice pa q pc)) := bV2.row F1.out.2.1 F1.out.2.1.lt
      refine take_oneT (i := 4) rfl (by kernel_rfl) rfl (fun K hK => ?_)
      refine wp_of_run (exec_bslice1' 39 1 0 (.tmp 23) (.agg (rowV 32 (arrV (sumsEl (sp4 l b).2.1 (sp4 l b).2.2 q)))) rfl rfl (build_one (arrV (sumsEl (sp4 l b).2.1 (sp4 l b).2.2 q)) V1)) ?_
      rw [← hV2] at hr ⊢
      refine hK.out _ _ (heldJ_all (r2'.cell (i := 3) (by omega)) (r2'.cell (i := 3) (by omega))) ?_
      clear hK K hV2 bV2 r2'
      try simp only [Act.put, List.setIfInBounds_toArray, List.set_cons_zero, List.set_cons_succ]
      have F3 : Hid (newSums V3 w8.heap.size (.slice a4 (q + 1) k4) (sumsL (sp4 l b).2.1 (sp4 l b).2.2 (q + 1)) ∧ V3.rowIs b3 41 4 (spG (sp1 l b).1 (.slice ka (sp2 l b).1.length kcap) (.slice va (sp3 l b).1.length vcap) (.slice pa q pc)) ∧ But w.heap.size c w V3 ∧ (∀ j, j < w8.heap.size → j ≠ c → j ≠ b3 → V3.heap[j]? = w8.heap[j]?) ∧ w8.heap.size ≤ V3.heap.size ∧ cutS V3 S c (sp5 l b (q + 1)).1 (sp5 l b (q + 1)).2) := (show _ from by
        obtain ⟨m1, m2, m3, m4, m5, m6, m7, m8⟩ := N8.out
        obtain ⟨g1, g2, g3, g4, g5, g6⟩ := F1.out
        obtain ⟨_, _, h3, _⟩ := HW.out
        have s8 := m3.size
        have sg := hg.size
        have sw := m4.lt
        have hown : ∀ j, (Value.slice pa q pc).ownBlock = some j → w8.heap.size ≤ j := fun j hj => (g1.block j hj).1
        have same : ∀ j, j < w8.heap.size → V3.heap[j]? = V1.heap[j]? := fun j hj => hg.block j (by omega) (fun e => by have := hown j e.symm; omega)
        have hlt3 : b3 < w8.heap.size := by
          obtain ⟨_, _, r, _⟩ := HL0.out.2.2.2
          exact r.lt
        refine ⟨n3, World.rowIs.of_block g2 (same _ hlt3), g3.trans ⟨hg.os, hg.tape, hg.output, hg.size, fun j hj hn => same j (by omega)⟩, fun j hj h1 h2 => (same j hj).trans (g4 j hj h1 h2), by omega, g6.far (fun k hk hs => same k (by have := H0.out.2.2.2.1 k hs; omega)) hg.size⟩)
      refine take_oneT (i := 5) rfl (by kernel_rfl) rfl (fun K hK => ?_)
      refine wp_append_run (.tmp 21) (.tmp 24) 39 rfl rfl rfl hr ?_
      refine hK.out _ _ (heldJ_all (F3.out.2.1.cell (i := 3) (by omega)) (F3.out.2.1.cell (i := 3) (by omega))) ?_
      clear hK K hr n3 hg hat F1
      try simp only [Act.put, List.setIfInBounds_toArray, List.set_cons_zero, List.set_cons_succ]
      have c3 := F3.out.2.1.cell (i := 3) (by omega)
      have f3 := F3.out.2.1.frozen 3
      refine take_oneT (i := 6) rfl (by kernel_rfl) rfl (fun K hK => ?_)
      go_simp
      refine hK.out _ _ (heldJ_all c3 c3) ?_
      clear hK K
      try simp only [Act.put, List.setIfInBounds_toArray, List.set_cons_zero, List.set_cons_succ]
      refine take_oneT (i := 7) rfl (by kernel_rfl) rfl (fun K hK => ?_)
      go_simp
      refine hK.out _ _ (heldJ_none rfl rfl) ?_
      clear hK K c3 f3
      try simp only [Act.put, List.setIfInBounds_toArray, List.set_cons_zero, List.set_cons_succ]
      refine doneT (by kernel_rfl) ?_ _
      refine NoPanic.normal ?_
      obtain ⟨V4, hV4⟩ : ∃ V4, V4 = V3.setCell ⟨b3, 3, none⟩ (.slice a4 (q + 1) k4) := ⟨_, rfl⟩
      rw [← hV4]
      have NX : Hid (cspL w w8 S c b3 (.slice ka (sp2 l b).1.length kcap) (.slice va (sp3 l b).1.length vcap) l b (q + 1) V4) := (show _ from by
        obtain ⟨m1, m2, m3, m4, m5, m6, m7, m8⟩ := N8.out
        obtain ⟨g1, g2, g3, g4, g5, g6⟩ := F3.out
        have bt : But V3.heap.size b3 V3 V4 := by rw [hV4]; exact (But.refl _ _ _).set 3 _
        have s4 := bt.size
        have hlt3 := g2.lt
        have hb8 : b3 < w8.heap.size := by
          obtain ⟨_, _, r, _⟩ := HL0.out.2.2.2
          exact r.lt
        have r4 : V4.rowIs b3 41 4 (spG (sp1 l b).1 (.slice ka (sp2 l b).1.length kcap) (.slice va (sp3 l b).1.length vcap) (.slice a4 (q + 1) k4)) := by
          rw [hV4]
          refine (World.rowIs.set g2 3 _).congr fun i hi => ?_
          have : i = 0 ∨ i = 1 ∨ i = 2 ∨ i = 3 := by omega
          rcases this with rfl | rfl | rfl | rfl <;> rfl
        refine ⟨g3.box bt (by omega), ⟨by omega, fun j hj h1 h2 => (bt.block j (by omega) h2).trans (g4 j hj h1 h2)⟩, g6.far (fun k hk hs => bt.block k hk (by have := H0.out.2.2.2.1 k hs; omega)) s4, a4, k4, r4, g1.far fun k hk => ?_⟩
        obtain ⟨y1, y2⟩ := g1.block k hk
        exact bt.block k y2 (by omega))
      clear hV4 F3 HW D0 HJ
      go_wp2_with fail
      go_light
      exact ⟨⟨q + 1, by omega, by go_num, NX.out⟩, by simp [intOf]; omega⟩
    · obtain rfl : q = n4 := by omega
      have q1 : ¬ (q : Int) < (q : Int) := by omega
      obtain ⟨hbw, ⟨hsz, hfr⟩, hcut, pa, pc, r3, hns⟩ := HL.out
      obtain ⟨m1, m2, m3, m4, m5, m6, m7, m8⟩ := N8.out
      have hlt0 := m4.lt
      have r0 : wr.rowIs w.heap.size 41 4 spZ := World.rowIs.of_block m4 (hfr _ hlt0 (by omega) (by omega))
      have l3 : ∀ j, j < 4 → wr.cell? ⟨b3, 0 + j, none⟩ = some (spG (sp1 l b).1 (.slice ka (sp2 l b).1.length kcap) (.slice va (sp3 l b).1.length vcap) (.slice pa q pc) j) := fun j hj => by rw [Nat.zero_add]; exact r3.cell hj
      have FI : Hid (∀ V, But wr.heap.size w.heap.size wr V → newBytes V w.heap.size (.slice ka (sp2 l b).1.length kcap) (sp2 l b).1 ∧ newBytes V w.heap.size (.slice va (sp3 l b).1.length vcap) (sp3 l b).1 ∧ newSums V w.heap.size (.slice pa q pc) (spotR l b).path ∧ cutS V S c (spotE l b).1 (spotE l b).2 ∧ But w.heap.size c w V) := (show _ from fun V hV => by
        have hq := HE.out.2.2.1
        have s8 := m3.size
        have sV := hV.size
        have hpath : (spotR l b).path = sumsL (sp4 l b).2.1 (sp4 l b).2.2 q := by rw [hq]; rfl
        have hE : spotE l b = sp5 l b q := by rw [hq]; rfl
        have hb8 : b3 < w8.heap.size := by
          obtain ⟨_, _, r, _⟩ := HL0.out.2.2.2
          exact r.lt
        rw [hpath, hE]
        refine ⟨(m1.apart fun k hk => ?_).mono (by omega), (m2.apart fun k hk => ?_).mono (by omega), (hns.far fun k hk => ?_).lower (by omega), hcut.far (fun k hk hs => hV.block k hk (by have := H0.out.2.2.2.1 k hs; omega)) sV, hbw.box hV (Nat.le_refl _)⟩
        · obtain ⟨y1, y2⟩ := m1.block k hk
          exact (hV.block k (by omega) (by omega)).trans (hfr k y2 (by omega) (by omega))
        · obtain ⟨y1, y2⟩ := m2.block k hk
          exact (hV.block k (by omega) (by omega)).trans (hfr k y2 (by omega) (by omega))
        · obtain ⟨y1, y2⟩ := hns.block k hk
          exact hV.block k y2 (by omega))
      clear hbw hsz hfr hcut r3 hns m1 m2 m3 m4 m5 m6 m7 m8 hlt0
      go_wp2_with (first | (refine wpList_load_w 41 (.tmp 3) rfl rfl b3 0 4 (spG (sp1 l b).1 (.slice ka (sp2 l b).1.length kcap) (.slice va (sp3 l b).1.length vcap) (.slice pa q pc)) rfl _ Tryd.underlying41 rfl hiSp l3 ?_) | (refine wpList_store_row rfl 41 _ _ rfl rfl w.heap.size 0 4 (spG (sp1 l b).1 (.slice ka (sp2 l b).1.length kcap) (.slice va (sp3 l b).1.length vcap) (.slice pa q pc)) rfl rfl hiSp (spG_one _ _ _ _ _ _ _ _ _ _) _ _ _ r0 (by omega) ?_; intro w9 r9 hz9 hb9))
      exact bodyPost_ret (results_cell_seg rfl _ _ w.heap.size 41 4 (spG (sp1 l b).1 (.slice ka (sp2 l b).1.length kcap) (.slice va (sp3 l b).1.length vcap) (.slice pa q pc)) _ rfl Tryd.underlying41 rfl hiSp (r9.congr fun i hi => by rw [if_pos (by omega), Nat.sub_zero])) rfl (by exact ⟨_, _, _, rfl, FI.out w9 hb9⟩)
end Go.Proofs.YtkgegihkhdgdoaaDoor

/- keyed.cutSeen. -/
namespace Go.Proofs.YtkgegihkhdgdoaaDoor
set_option linter.unusedSimpArgs false
set_option linter.unusedVariables false
open Go.RowKit Go.Deep

/-- the loop of cutSeen: box b3 holds what is shown so far. -/
def cseL (w w8 : World) (S : Nat → Prop) (c b3 : Nat) (x1 : Int) (l : List Int) (q : Nat) (wr : World) : Prop :=
  But w.heap.size c w wr ∧ (w8.heap.size ≤ wr.heap.size ∧ ∀ j, j < w8.heap.size → j ≠ c → j ≠ b3 → wr.heap[j]? = w8.heap[j]?) ∧ cutS wr S c (seSt l q).1 (seSt l q).2 ∧
    ∃ sa sc, wr.rowIs b3 29 2 (seG x1 (.slice sa q sc)) ∧ ownSpots wr w8.heap.size b3 (.slice sa q sc) q (seY l)
set_option maxHeartbeats 8000000 in
set_option maxRecDepth 100000 in
theorem cutseen_s (c : Nat) (S : Nat → Prop) (l : List Int) (w : World) (h : cutS w S c l false) (hS : ∀ k, S k → k < w.heap.size) (hl : l.length ≤ 200000000) :
    Calls Tryd.prog 58 #[.pointer (some ⟨c, 0, none⟩)] w fun e w' => ∃ sv, e = .returned (.agg (rowV 2 (seG (seC l) sv))) ∧ (∃ B b, w.heap.size ≤ b ∧ b < B ∧ ownSpots w' B b sv (seM l) (seY l)) ∧ cutS w' S c (seE l).1 (seE l).2 ∧ But w.heap.size c w w' := by
  have hzse := zero_se
  have hbs := build_se1
  have hby : byL l := h.byte
  have hc := h.lt
  obtain ⟨x1i, x1j⟩ := se1_in hby
  obtain ⟨x2i, x2j⟩ := se2_in hby
  obtain ⟨x1, hx1⟩ : ∃ x, x = (se1 l).1 := ⟨_, rfl⟩
  obtain ⟨n2, hn2⟩ : ∃ n : Nat, n = (se2 l).1.toNat := ⟨_, rfl⟩
  have e2 : (se2 l).1 = (n2 : Int) := by omega
  have HE : Hid ((se2 l).1 = (n2 : Int) ∧ x1 = (se1 l).1 ∧ n2 = (se2 l).1.toNat ∧ n2 ≤ 2) := (show _ from ⟨e2, hx1, hn2, by omega⟩)
  have hwi : IntKind.wrap .i64 x1 = x1 := IntWalk.i64_in _ ⟨by omega, by omega⟩
  have k1i : 0 ≤ x1 := by omega
  have k1j : x1 ≤ 2147483647 := by omega
  have n2i : (n2 : Int) ≤ 2 := by omega
  have n20 : (0 : Int) ≤ (n2 : Int) := by omega
  obtain ⟨w1, hw1⟩ : ∃ w1, w1 = w.alloc (.cells (rowV 2 (seG 0 (.slice none 0 0))) 29) := ⟨_, rfl⟩
  have b1 : Below w.heap.size w w1 := by rw [hw1]; exact (Below.refl _ _).alloc (Nat.le_refl _) _
  have r1 : w1.rowIs w.heap.size 29 2 (seG 0 (.slice none 0 0)) := by rw [hw1]; exact rowIs_box _ _ _ _
  have X1 : Calls Tryd.prog 83 #[.pointer (some ⟨c, 0, none⟩), .int .u64 2147483647] w1 fun e w' => e = .returned (.int .u64 x1) ∧ cutS w' S c (se1 l).2.1 (se1 l).2.2 ∧ But w1.heap.size c w1 w' := by
    rw [hx1]; exact cnum_s c S l false 2147483647 (by omega) w1 (h.below b1 (Nat.le_refl _))
  have H0 : Hid (Below w.heap.size w w1 ∧ w1.rowIs w.heap.size 29 2 (seG 0 (.slice none 0 0)) ∧ c < w.heap.size ∧ (∀ k, S k → k < w.heap.size) ∧ byL l ∧ l.length ≤ 200000000) := (show _ from ⟨b1, r1, hc, hS, hby, hl⟩)
  clear h hS hl hby hc hx1 hn2 e2 x1i x1j x2i x2j b1 r1
  go_enter Tryd.func58, Tryd.ntmps58
  go_upto_region 1 with fail
  rw [← hw1]
  clear hw1
  go_wp2_with fail
  refine X1.mono ?_
  rintro e w2 ⟨rfl, c2, b2⟩
  clear X1
  have B2 : Hid (But w.heap.size c w w2 ∧ w2.rowIs w.heap.size 29 2 (seG 0 (.slice none 0 0)) ∧ cutS w2 S c (se1 l).2.1 (se1 l).2.2) := (show _ from by
    obtain ⟨g1, g2, g3, g4, g5, g6⟩ := H0.out
    exact ⟨(But.of_below g1 c).trans (b2.mono g1.size), World.rowIs.of_block g2 (b2.block _ g2.lt (by omega)), c2⟩)
  clear c2 b2
  obtain ⟨wq, hwq⟩ : ∃ wq, wq = w2.alloc (.cells (rowV 2 (seG 0 (.slice none 0 0))) 29) := ⟨_, rfl⟩
  have bq : Below w2.heap.size w2 wq := by rw [hwq]; exact (Below.refl _ _).alloc (Nat.le_refl _) _
  have rq : wq.rowIs w2.heap.size 29 2 (seG 0 (.slice none 0 0)) := by rw [hwq]; exact rowIs_box _ _ _ _
  have RQ : Hid (wq.rowIs w2.heap.size 29 2 (seG 0 (.slice none 0 0)) ∧ Below w2.heap.size w2 wq) := (show _ ∧ _ from ⟨rq, bq⟩)
  clear rq bq
  go_upto_region 2 with (first | (rw [← hwq]; clear hwq; refine wpList_store_row rfl 29 _ _ rfl rfl w2.heap.size 0 2 (seG x1 (.slice none 0 0)) rfl rfl hiSe (seG_one _ _ _ _) _ _ _ RQ.out.1 (by omega) ?_; intro w4 r4 z4 b4))
  have r4' : w4.rowIs w2.heap.size 29 2 (seG x1 (.slice none 0 0)) := r4.congr (fun i hi => by rw [if_pos (by omega), Nat.sub_zero])
  obtain ⟨b3, hb3⟩ : ∃ b3, b3 = w2.heap.size := ⟨_, rfl⟩
  rw [← hb3] at r4' b4 ⊢
  have B4 : Hid (But w.heap.size c w w4 ∧ w4.rowIs w.heap.size 29 2 (seG 0 (.slice none 0 0)) ∧ cutS w4 S c (se1 l).2.1 (se1 l).2.2 ∧ w.heap.size < b3 ∧ b3 < w4.heap.size ∧ w4.rowIs b3 29 2 (seG x1 (.slice none 0 0))) := (show _ from by
    obtain ⟨g1, g2, g3, g4, g5, g6⟩ := H0.out
    obtain ⟨p1, p2, p3⟩ := B2.out
    obtain ⟨q1, q2⟩ := RQ.out
    have s1 := p2.lt
    have s2 := q1.lt
    have bw : But w.heap.size c w wq := p1.trans (But.of_below (q2.mono p1.size) c)
    refine ⟨bw.box b4 (by omega), World.rowIs.of_block (q2.row p2 p2.lt) (b4.block _ (by omega) (by omega)), (p3.below q2 (Nat.le_refl _)).far (fun k hk hs => b4.block k hk (by have := g4 k hs; omega)) b4.size, by omega, by have := b4.size; omega, r4'⟩)
  clear r4 r4' z4 b4 B2 RQ hb3
  have X4 : Calls Tryd.prog 83 #[.pointer (some ⟨c, 0, none⟩), .int .u64 2] w4 fun e w' => e = .returned (.int .u64 (n2 : Int)) ∧ cutS w' S c (se2 l).2.1 (se2 l).2.2 ∧ But w4.heap.size c w4 w' := by
    rw [← HE.out.1]; exact cnum_s c S (se1 l).2.1 (se1 l).2.2 2 (by omega) w4 B4.out.2.2.1
  go_wp2_with fail
  refine X4.mono ?_
  rintro e w8 ⟨rfl, c8, b8⟩
  clear X4
  have N8 : Hid (But w.heap.size c w w8 ∧ w8.rowIs w.heap.size 29 2 (seG 0 (.slice none 0 0)) ∧ w.heap.size < b3 ∧ b3 < w8.heap.size ∧ c < w.heap.size) := (show _ from by
    obtain ⟨g1, g2, g3, g4, g5, g6⟩ := H0.out
    obtain ⟨p1, p2, p3, p4, p5, p6⟩ := B4.out
    have s78 := b8.size
    exact ⟨p1.later b8, World.rowIs.of_block p2 (b8.block _ (by omega) (by omega)), p4, by omega, g3⟩)
  have HL0 : Hid (cseL w w8 S c b3 x1 l 0 w8) := (show _ from by
    obtain ⟨p1, p2, p3, p4, p5, p6⟩ := B4.out
    obtain ⟨m1, m2, m3, m4, m5⟩ := N8.out
    exact ⟨m1, ⟨Nat.le_refl _, fun _ _ _ _ => rfl⟩, c8, none, 0, World.rowIs.of_block p6 (b8.block _ p5 (by omega)), ownSpots.nil _ _ _ _⟩)
  clear c8 b8 B4
  go_wp2_with fail
  go_loopw [10] (fun i wr => ∃ q : Nat, q ≤ n2 ∧ i = .int .u64 (q : Int) ∧ cseL w w8 S c b3 x1 l q wr) (fun i _ => n2 - (intOf i).toNat)
  case atStart => exact ⟨0, by omega, rfl, HL0.out⟩
  case round =>
    obtain ⟨q, hqm, rfl, hL⟩ := hrel
    have q0 : (0 : Int) ≤ (q : Int) := by omega
    have HL : Hid (cseL w w8 S c b3 x1 l q wr) := (show _ from hL)
    clear hL
    by_cases hlt : q < n2
    · have q1 : (q : Int) < (n2 : Int) := by omega
      obtain ⟨hbw, ⟨hsz, hfr⟩, hcut, sa, sc, r3, hos⟩ := HL.out
      have HW : Hid (cutS wr S c (seSt l q).1 (seSt l q).2 ∧ ownSpots wr w8.heap.size b3 (.slice sa q sc) q (seY l) ∧ w8.heap.size ≤ wr.heap.size ∧ wr.rowIs b3 29 2 (seG x1 (.slice sa q sc)) ∧ But w.heap.size c w wr ∧ ∀ j, j < w8.heap.size → j ≠ c → j ≠ b3 → wr.heap[j]? = w8.heap[j]?) := (show _ from ⟨hcut, hos, hsz, r3, hbw, hfr⟩)
      have hc3 : wr.cell? ⟨b3, 1, none⟩ = some (.slice sa q sc) := r3.cell (i := 1) (by omega)
      clear hbw hsz hfr hcut r3 hos
      have HJ : Hid (∀ s, JJ 7 (fun w' : World => w'.cell? ⟨b3, 1, none⟩ = some (.slice sa q sc)) 7 (fun w' : World => w'.cell? ⟨b3, 1, none⟩ = some (.slice sa q sc)) s wr.drew) := (show ∀ s, JJ 7 (fun w' : World => w'.cell? ⟨b3, 1, none⟩ = some (.slice sa q sc)) 7 (fun w' : World => w'.cell? ⟨b3, 1, none⟩ = some (.slice sa q sc)) s wr.drew from JJ_all hc3 hc3)
      clear hc3
      go_upto_region 4 with fail
      refine wp_region_noPanic ?_
      refine wp_region_T (JJ 7 (fun w' : World => w'.cell? ⟨b3, 1, none⟩ = some (.slice sa q sc)) 7 (fun w' : World => w'.cell? ⟨b3, 1, none⟩ = some (.slice sa q sc))) (by kernel_rfl) ?_
      obtain ⟨V0, hV0⟩ : ∃ V0, V0 = wr.drew := ⟨_, rfl⟩
      rw [← hV0] at HJ ⊢
      have D0 : Hid (Below wr.heap.size wr V0 ∧ V0.heap.size = wr.heap.size) := (show _ ∧ _ from by rw [hV0]; exact ⟨(Below.refl _ _).drew, rfl⟩)
      clear hV0
      refine take_opT (i := 0) (v := ?vu0) 7 rfl (by kernel_rfl) (by kernel_rfl) (by kernel_rfl) (by kernel_rfl) (by kernel_rfl) (JJ_free rfl rfl) (fun _ _ _ h => h) rfl HJ.out ?yu0 ?ru0
      case yu0 => (intro wz hz0; have hz := hz0.1 rfl; go_simp; first | done | with_reducible rfl)
      try simp only [Act.put, List.setIfInBounds_toArray, List.set_cons_zero, List.set_cons_succ]
      refine take_opT (i := 1) (v := ?vu1) 7 rfl (by kernel_rfl) (by kernel_rfl) (by kernel_rfl) (by kernel_rfl) (by kernel_rfl) (JJ_free rfl rfl) (fun _ _ _ h => h) rfl HJ.out ?yu1 ?ru1
      case yu1 => (intro wz hz0; have hz := hz0.1 rfl; go_simp; first | done | with_reducible rfl)
      try simp only [Act.put, List.setIfInBounds_toArray, List.set_cons_zero, List.set_cons_succ]
      refine take_opT (i := 2) (v := ?vu2) 7 rfl (by kernel_rfl) (by kernel_rfl) (by kernel_rfl) (by kernel_rfl) (by kernel_rfl) (JJ_free rfl rfl) (fun _ _ _ h => h) rfl HJ.out ?yu2 ?ru2
      case yu2 => (intro wz hz0; have hz := hz0.1 rfl; go_simp; first | done | with_reducible rfl)
      try simp only [Act.put, List.setIfInBounds_toArray, List.set_cons_zero, List.set_cons_succ]
      have X5 := cutspot_s c S (seSt l q).1 (seSt l q).2 V0 (HW.out.1.below D0.out.1 (Nat.le_refl _)) (fun k hk => by
        have := H0.out.2.2.2.1 k hk; have := HW.out.2.2.2.2.1.size; have := D0.out.2; omega) (Nat.le_trans (seSt_le l q) H0.out.2.2.2.2.2)
      refine take_oneT (i := 3) rfl (by kernel_rfl) rfl (fun K hK => ?_)
      go_simp
      refine Calls.mono X5 ?_
      rintro e V1 ⟨kc, vc, pc, rfl, nk, nv, ns, cV1, bV1⟩
      clear X5
      obtain ⟨ka, kcap, rfl⟩ := nk.slen
      obtain ⟨va, vcap, rfl⟩ := nv.slen
      obtain ⟨pa, pcap, rfl⟩ : ∃ a c, pc = .slice a (spotR (seSt l q).1 (seSt l q).2).path.length c := by obtain ⟨a, c, e, _⟩ := ownsRow_slice ns.2; exact ⟨a, c, e⟩
      have F1 : Hid (ownSpots V1 w8.heap.size b3 (.slice sa q sc) q (seY l) ∧ V1.rowIs b3 29 2 (seG x1 (.slice sa q sc)) ∧ But w.heap.size c w V1 ∧ (∀ j, j < w8.heap.size → j ≠ c → j ≠ b3 → V1.heap[j]? = w8.heap[j]?) ∧ wr.heap.size ≤ V1.heap.size ∧ cutS V1 S c (seSt l (q + 1)).1 (seSt l (q + 1)).2 ∧ (newBytes V1 V0.heap.size (.slice ka (sp2 (seSt l q).1 (seSt l q).2).1.length kcap) (sp2 (seSt l q).1 (seSt l q).2).1 ∧ newBytes V1 V0.heap.size (.slice va (sp3 (seSt l q).1 (seSt l q).2).1.length vcap) (sp3 (seSt l q).1 (seSt l q).2).1 ∧ newSums V1 V0.heap.size (.slice pa (spotR (seSt l q).1 (seSt l q).2).path.length pcap) (spotR (seSt l q).1 (seSt l q).2).path)) := (show _ from by
        obtain ⟨m3, m4, m5, m6, m8⟩ := N8.out
        obtain ⟨g1, g2, g3, g4, g5, g6⟩ := HW.out
        obtain ⟨d1, d2⟩ := D0.out
        have s1 := bV1.size
        have s8 := m3.size
        have sw := g5.size
        have hlt3 := g4.lt
        have same : ∀ j, j < wr.heap.size → j ≠ c → V1.heap[j]? = wr.heap[j]? := fun j hj hn => (bV1.block j (by omega) hn).trans (d1.block j hj)
        refine ⟨g2.same (by omega) (by omega) (fun j hj hn => same j hj (by omega)), World.rowIs.of_block g4 (same _ hlt3 (by omega)), g5.trans ⟨bV1.os.trans d1.os, bV1.tape.trans d1.tape, bV1.output.trans d1.output, by omega, fun j hj hn => same j (by omega) hn⟩, fun j hj h1 h2 => (same j (by omega) h1).trans (g6 j hj h1 h2), by omega, cV1, nk, nv, ns⟩)
      refine hK.out _ _ (heldJ_all (F1.out.2.1.cell (i := 1) (by omega)) (F1.out.2.1.cell (i := 1) (by omega))) ?_
      clear hK K cV1 bV1 nk nv ns
      try simp only [Act.put, List.setIfInBounds_toArray, List.set_cons_zero, List.set_cons_succ]
      obtain ⟨V2, hV2⟩ : ∃ V2, V2 = V1.alloc (.cells (rowV 4 (spG (sp1 (seSt l q).1 (seSt l q).2).1 (.slice ka (sp2 (seSt l q).1 (seSt l q).2).1.length kcap) (.slice va (sp3 (seSt l q).1 (seSt l q).2).1.length vcap) (.slice pa (spotR (seSt l q).1 (seSt l q).2).path.length pcap))) 41) := ⟨_, rfl⟩
      have bV2 : Below V1.heap.size V1 V2 := by rw [hV2]; exact (Below.refl _ _).alloc (Nat.le_refl _) _
      have rN : V2.rowIs V1.heap.size 41 4 (spG (sp1 (seSt l q).1 (seSt l q).2).1 (.slice ka (sp2 (seSt l q).1 (seSt l q).2).1.length kcap) (.slice va (sp3 (seSt l q).1 (seSt l q).2).1.length vcap) (.slice pa (spotR (seSt l q).1 (seSt l q).2).path.length pcap)) := by rw [hV2]; exact rowIs_box _ _ _ _
      have r2' : V2.rowIs b3 29 2 (seG x1 (.slice sa q sc)) := bV2.row F1.out.2.1 F1.out.2.1.lt
      refine take_oneT (i := 4) rfl (by kernel_rfl) rfl (fun K hK => ?_)
      refine wp_of_run (exec_bslice1' 27 1 0 (.tmp 15) (.agg (rowV 4 (spG (sp1 (seSt l q).1 (seSt l q).2).1 (.slice ka (sp2 (seSt l q).1 (seSt l q).2).1.length kcap) (.slice va (sp3 (seSt l q).1 (seSt l q).2).1.length vcap) (.slice pa (spotR (seSt l q).1 (seSt l q).2).path.length pcap)))) rfl rfl (build_sps (spG (sp1 (seSt l q).1 (seSt l q).2).1 (.slice ka (sp2 (seSt l q).1 (seSt l q).2).1.length kcap) (.slice va (sp3 (seSt l q).1 (seSt l q).2).1.length vcap) (.slice pa (spotR (seSt l q).1 (seSt l q).2).path.length pcap)) V1)) ?_
      rw [← hV2]
      refine hK.out _ _ (heldJ_all (r2'.cell (i := 1) (by omega)) (r2'.cell (i := 1) (by omega))) ?_
      clear hK K hV2
      try simp only [Act.put, List.setIfInBounds_toArray, List.set_cons_zero, List.set_cons_succ]
      have hO2 : ownSpots V2 w8.heap.size b3 (.slice sa q sc) q (seY l) := F1.out.1.below bV2 (Nat.le_refl _)
      have SF : spotFar V2 b3 (.slice sa q sc) (spG (sp1 (seSt l q).1 (seSt l q).2).1 (.slice ka (sp2 (seSt l q).1 (seSt l q).2).1.length kcap) (.slice va (sp3 (seSt l q).1 (seSt l q).2).1.length vcap) (.slice pa (spotR (seSt l q).1 (seSt l q).2).path.length pcap)) (seY l q) := fun z hz => by
        obtain ⟨g1, g2, g3, g4, g5, g6, nk, nv, ns⟩ := F1.out
        obtain ⟨m3, m4, m5, m6, m8⟩ := N8.out
        have d2 := D0.out.2
        have h3 := HW.out.2.2.1
        have hob := HW.out.2.1.block
        have s2 := bV2.size
        have far : ∀ j, V0.heap.size ≤ j → j < V1.heap.size → z.heap[j]? = V1.heap[j]? := fun j h1 h2 => (hz.2 j (by omega) (fun e => by have := (hob j e).2; omega) (by omega)).trans (bV2.block j h2)
        have hin := sp1_in (b := (seSt l q).2) (seSt_by H0.out.2.2.2.2.1 q)
        refine ⟨_, _, _, rfl, Or.inl (nk.apart fun k hk => far k (nk.block k hk).1 (nk.block k hk).2).is, Or.inl (nv.apart fun k hk => far k (nv.block k hk).1 (nv.block k hk).2).is, (ns.far fun k hk => far k (ns.block k hk).1 (ns.block k hk).2).is, ?_⟩
        show inI64 (sp1 (seSt l q).1 (seSt l q).2).1
        unfold inI64
        omega
      obtain ⟨v', V3, hr, ho4, hg, hat⟩ := spots_append V2 w8.heap.size b3 (.slice sa q sc) q (seY l) hO2 V1.heap.size (spG (sp1 (seSt l q).1 (seSt l q).2).1 (.slice ka (sp2 (seSt l q).1 (seSt l q).2).1.length kcap) (.slice va (sp3 (seSt l q).1 (seSt l q).2).1.length vcap) (.slice pa (spotR (seSt l q).1 (seSt l q).2).path.length pcap)) rN SF (by have := HE.out.2.2.2; omega) (by have := HW.out.2.2.1; have := F1.out.2.2.2.2.1; have := bV2.size; omega)
      have hsv : ∃ na nc, v' = .slice na (q + 1) nc := by
        obtain ⟨na, nc, e, _⟩ := ho4.is
        exact ⟨na, nc, e⟩
      obtain ⟨a4, k4, rfl⟩ := hsv
      have F3 : Hid (ownSpots V3 w8.heap.size b3 (.slice a4 (q + 1) k4) (q + 1) (seY l) ∧ V3.rowIs b3 29 2 (seG x1 (.slice sa q sc)) ∧ But w.heap.size c w V3 ∧ (∀ j, j < w8.heap.size → j ≠ c → j ≠ b3 → V3.heap[j]? = w8.heap[j]?) ∧ w8.heap.size ≤ V3.heap.size ∧ cutS V3 S c (seSt l (q + 1)).1 (seSt l (q + 1)).2) := (show _ from by
        obtain ⟨m3, m4, m5, m6, m8⟩ := N8.out
        obtain ⟨g1, g2, g3, g4, g5, g6, _⟩ := F1.out
        obtain ⟨_, hos, h3, _⟩ := HW.out
        have s8 := m3.size
        have sg := hg.size
        have s2 := bV2.size
        have hown : ∀ j, (Value.slice sa q sc).ownBlock = some j → w8.heap.size ≤ j := fun j hj => (hos.block j hj).1
        have same : ∀ j, j < w8.heap.size → V3.heap[j]? = V1.heap[j]? := fun j hj => (hg.block j (by omega) (fun e => by have := hown j e.symm; omega)).trans (bV2.block j (by omega))
        refine ⟨ho4, World.rowIs.of_block g2 (same _ m6), g3.trans ⟨hg.os.trans bV2.os, hg.tape.trans bV2.tape, hg.output.trans bV2.output, by omega, fun j hj hn => same j (by omega)⟩, fun j hj h1 h2 => (same j hj).trans (g4 j hj h1 h2), by omega, g6.far (fun k hk hs => same k (by have := H0.out.2.2.2.1 k hs; omega)) (by omega)⟩)
      refine take_oneT (i := 5) rfl (by kernel_rfl) rfl (fun K hK => ?_)
      refine wp_append_run (.tmp 13) (.tmp 16) 27 rfl rfl rfl hr ?_
      refine hK.out _ _ (heldJ_all (F3.out.2.1.cell (i := 1) (by omega)) (F3.out.2.1.cell (i := 1) (by omega))) ?_
      clear hK K hr hg hat F1 SF hO2 ho4 rN bV2 r2'
      try simp only [Act.put, List.setIfInBounds_toArray, List.set_cons_zero, List.set_cons_succ]
      have c3 := F3.out.2.1.cell (i := 1) (by omega)
      have f3 := F3.out.2.1.frozen 1
      refine take_oneT (i := 6) rfl (by kernel_rfl) rfl (fun K hK => ?_)
      go_simp
      refine hK.out _ _ (heldJ_all c3 c3) ?_
      clear hK K
      try simp only [Act.put, List.setIfInBounds_toArray, List.set_cons_zero, List.set_cons_succ]
      refine take_oneT (i := 7) rfl (by kernel_rfl) rfl (fun K hK => ?_)
      go_simp
      refine hK.out _ _ (heldJ_none rfl rfl) ?_
      clear hK K c3 f3
      try simp only [Act.put, List.setIfInBounds_toArray, List.set_cons_zero, List.set_cons_succ]
      refine doneT (by kernel_rfl) ?_ _
      refine NoPanic.normal ?_
      obtain ⟨V4, hV4⟩ : ∃ V4, V4 = V3.setCell ⟨b3, 1, none⟩ (.slice a4 (q + 1) k4) := ⟨_, rfl⟩
      rw [← hV4]
      have NX : Hid (cseL w w8 S c b3 x1 l (q + 1) V4) := (show _ from by
        obtain ⟨m3, m4, m5, m6, m8⟩ := N8.out
        obtain ⟨g1, g2, g3, g4, g5, g6⟩ := F3.out
        have bt : But V3.heap.size b3 V3 V4 := by rw [hV4]; exact (But.refl _ _ _).set 1 _
        have s4 := bt.size
        have hlt3 := g2.lt
        have r4 : V4.rowIs b3 29 2 (seG x1 (.slice a4 (q + 1) k4)) := by
          rw [hV4]
          refine (World.rowIs.set g2 1 _).congr fun i hi => ?_
          have : i = 0 ∨ i = 1 := by omega
          rcases this with rfl | rfl <;> rfl
        exact ⟨g3.box bt (by omega), ⟨by omega, fun j hj h1 h2 => (bt.block j (by omega) h2).trans (g4 j hj h1 h2)⟩, g6.far (fun k hk hs => bt.block k hk (by have := H0.out.2.2.2.1 k hs; omega)) s4, a4, k4, r4, g1.same (by omega) s4 (fun j hj hn => bt.block j hj (by omega))⟩)
      clear hV4 F3 HW D0 HJ
      go_wp2_with fail
      go_light
      exact ⟨⟨q + 1, by omega, by go_num, NX.out⟩, by simp [intOf]; omega⟩
    · obtain rfl : q = n2 := by omega
      have q1 : ¬ (q : Int) < (q : Int) := by omega
      obtain ⟨hbw, ⟨hsz, hfr⟩, hcut, sa, sc, r3, hos⟩ := HL.out
      obtain ⟨m3, m4, m5, m6, m8⟩ := N8.out
      have hlt0 := m4.lt
      have r0 : wr.rowIs w.heap.size 29 2 (seG 0 (.slice none 0 0)) := World.rowIs.of_block m4 (hfr _ hlt0 (by omega) (by omega))
      have l3 : ∀ j, j < 2 → wr.cell? ⟨b3, 0 + j, none⟩ = some ((seG x1 (.slice sa q sc)) j) := fun j hj => by rw [Nat.zero_add]; exact r3.cell hj
      have FI : Hid (seC l = x1 ∧ ∀ V, But wr.heap.size w.heap.size wr V → (∃ B b, w.heap.size ≤ b ∧ b < B ∧ ownSpots V B b (.slice sa q sc) (seM l) (seY l)) ∧ cutS V S c (seE l).1 (seE l).2 ∧ But w.heap.size c w V) := (show _ from ⟨HE.out.2.1.symm, fun V hV => by
        have hq : seM l = q := HE.out.2.2.1.symm
        have s8 := m3.size
        have sV := hV.size
        have hE : seE l = seSt l q := by unfold seE; rw [hq]
        rw [hq, hE]
        exact ⟨⟨w8.heap.size, b3, by omega, by omega, hos.same (w' := V) (by omega) sV (fun j hj hn => hV.block j hj (by omega))⟩, hcut.far (fun k hk hs => hV.block k hk (by have := H0.out.2.2.2.1 k hs; omega)) sV, hbw.box hV (Nat.le_refl _)⟩⟩)
      clear hbw hsz hfr hcut r3 hos m3 m4 m5 m6 m8 hlt0
      go_wp2_with (first | (refine wpList_load_w 29 (.tmp 3) rfl rfl b3 0 2 (seG x1 (.slice sa q sc)) rfl _ Tryd.underlying29 rfl hiSe l3 ?_) | (refine wpList_store_row rfl 29 _ _ rfl rfl w.heap.size 0 2 (seG x1 (.slice sa q sc)) rfl rfl hiSe (seG_one _ _ _ _) _ _ _ r0 (by omega) ?_; intro w9 r9 hz9 hb9))
      exact bodyPost_ret (results_cell_seg rfl _ _ w.heap.size 29 2 (seG x1 (.slice sa q sc)) _ rfl Tryd.underlying29 rfl hiSe (r9.congr fun i hi => by rw [if_pos (by omega), Nat.sub_zero])) rfl (by rw [FI.out.1]; exact ⟨_, rfl, FI.out.2 w9 hb9⟩)
end Go.Proofs.YtkgegihkhdgdoaaDoor

/- keyed.Read. -/
namespace Go.Proofs.YtkgegihkhdgdoaaDoor
set_option linter.unusedSimpArgs false
set_option linter.unusedVariables false
open Go.RowKit Go.Deep

theorem zero_cut : ∀ w : World, (zeroValue 100).run Tryd.prog w = .ok (.agg (rowV 2 (cutV (.slice none 0 0) false))) w := fun w => by kernel_rfl
theorem hiCut : (Tryd.prog.info? 100).map (·.size) = some 2 := by kernel_rfl
theorem cutV_one (a : Option Addr) (i j : Nat) (b : Bool) : ∀ t, t < 2 → (cutV (.slice a i j) b t).oneCell' = true := fun t ht => by
  match t, ht with
  | 0, _ => rfl
  | 1, _ => rfl
theorem cutS.slice {w : World} {S : Nat → Prop} {c : Nat} {l : List Int} {b : Bool} (h : cutS w S c l b) : ∃ a n, cutIs w c (.slice a l.length n) b ∧ isBytes w (.slice a l.length n) l ∧ S c ∧ ∀ k, (Value.slice a l.length n).ownBlock = some k → S k ∧ k ≠ c := by
  obtain ⟨v, h1, h2, h3, h4⟩ := h
  obtain ⟨a, n, rfl, _⟩ := h2.slice
  exact ⟨a, n, h1, h2, h3, h4⟩
/-- what Read answers, what is left. -/
def readP (w : World) (S : Nat → Prop) (c : Nat) (l : List Int) (e : Ending) (w' : World) : Prop :=
  But w.heap.size c w w' ∧ (((seE l).2 = true ∧ e = .returned (.agg (rowV 2 (seG 0 (.slice none 0 0)))) ∧ cutS w' S c l true) ∨
    ((seE l).2 = false ∧ ∃ sv, e = .returned (.agg (rowV 2 (seG (seC l) sv))) ∧ spotsAt w' sv (seM l) (seY l) ∧ cutS w' S c (seE l).1 false))
set_option maxHeartbeats 8000000 in
set_option maxRecDepth 100000 in
theorem kread_s (c : Nat) (S : Nat → Prop) (l : List Int) (w : World) (h : cutS w S c l false) (hS : ∀ k, S k → k < w.heap.size) (hl : l.length ≤ 200000000) :
    Calls Tryd.prog 27 #[.pointer (some ⟨c, 0, none⟩)] w (readP w S c l) := by
  have hzse := zero_se
  have hzc := zero_cut
  have hb0 := build_se0
  have hc := h.lt
  obtain ⟨w1, hw1⟩ : ∃ w1, w1 = w.alloc (.cells (rowV 2 (seG 0 (.slice none 0 0))) 29) := ⟨_, rfl⟩
  have b1 : Below w.heap.size w w1 := by rw [hw1]; exact (Below.refl _ _).alloc (Nat.le_refl _) _
  have r1 : w1.rowIs w.heap.size 29 2 (seG 0 (.slice none 0 0)) := by rw [hw1]; exact rowIs_box _ _ _ _
  have h1 : cutS w1 S c l false := h.below b1 (Nat.le_refl _)
  have X1 := err_s c S l false w1 h1
  obtain ⟨va, vn, k1, k2, k3, k4⟩ := h1.slice
  have lc : ∀ j, j < 2 → w1.cell? ⟨c, 0 + j, none⟩ = some (cutV (.slice va l.length vn) false j) := fun j hj => by rw [Nat.zero_add]; exact k1.cell hj
  obtain ⟨wq, hwq⟩ : ∃ wq, wq = w1.alloc (.cells (rowV 2 (cutV (.slice none 0 0) false)) 100) := ⟨_, rfl⟩
  have bq : Below w1.heap.size w1 wq := by rw [hwq]; exact (Below.refl _ _).alloc (Nat.le_refl _) _
  have rq : wq.rowIs w1.heap.size 100 2 (cutV (.slice none 0 0) false) := by rw [hwq]; exact rowIs_box _ _ _ _
  have H0 : Hid (Below w.heap.size w w1 ∧ w1.rowIs w.heap.size 29 2 (seG 0 (.slice none 0 0)) ∧ cutS w1 S c l false ∧ isBytes w1 (.slice va l.length vn) l ∧ (∀ k, (Value.slice va l.length vn).ownBlock = some k → S k ∧ k ≠ c) ∧ (∀ k, S k → k < w.heap.size) ∧ l.length ≤ 200000000 ∧ wq.rowIs w1.heap.size 100 2 (cutV (.slice none 0 0) false) ∧ Below w1.heap.size w1 wq ∧ S c ∧ c < w.heap.size) := (show _ from ⟨b1, r1, h1, k2, k4, hS, hl, rq, bq, k3, hc⟩)
  clear h hS hl hc h1 k1 k2 k3 k4 b1 r1 rq bq
  go_enter Tryd.func27, Tryd.ntmps27
  go_upto_region 1 with fail
  rw [← hw1]
  clear hw1
  go_wp2_with fail
  refine X1.mono ?_
  rintro e w' ⟨rfl, hw⟩
  obtain rfl := hw.symm
  clear hw X1
  rw [show errI false = 0 from rfl]
  go_upto_region 3 with fail
  go_upto_region 4 with (first | (refine wpList_load_seg rfl 100 _ rfl c 0 2 (cutV (.slice va l.length vn) false) rfl _ Tryd.underlying100 rfl hiCut lc ?_) | (rw [← hwq]; clear hwq; refine wpList_store_row rfl 100 _ _ rfl rfl w1.heap.size 0 2 (cutV (.slice va l.length vn) false) rfl rfl hiCut (cutV_one _ _ _ _) _ _ _ H0.out.2.2.2.2.2.2.2.1 (by omega) ?_; intro w4 r4 z4 b4))
  have r4' : w4.rowIs w1.heap.size 100 2 (cutV (.slice va l.length vn) false) := r4.congr (fun i hi => by rw [if_pos (by omega), Nat.sub_zero])
  obtain ⟨d, hd⟩ : ∃ d, d = w1.heap.size := ⟨_, rfl⟩
  rw [← hd] at r4' b4 ⊢
  have B4 : Hid (But w.heap.size c w w4 ∧ w4.rowIs w.heap.size 29 2 (seG 0 (.slice none 0 0)) ∧ cutS w4 S c l false ∧ w.heap.size < d ∧ d < w4.heap.size ∧ cutS w4 (fun k => (S k ∧ k ≠ c) ∨ k = d) d l false) := (show _ from by
    obtain ⟨g1, g2, g3, g4, g5, g6, g7, g8, g9, g10, g11⟩ := H0.out
    have s1 := g2.lt
    have s2 := g8.lt
    have s4 := b4.size
    have hdw : ∀ k, S k → k ≠ d := fun k hk => by have := g6 k hk; omega
    refine ⟨(But.of_below (g1.trans (g9.mono g1.size)) c).box b4 (by omega), World.rowIs.of_block (g9.row g2 g2.lt) (b4.block _ (by omega) (by omega)), (g3.below g9 (Nat.le_refl _)).far (fun k hk hs => b4.block k hk (hdw k hs)) s4, by omega, by omega, _, r4', (g4.below g9 (Nat.le_refl _)).far (fun k hk => b4.block k (by have := g6 k (g5 k hk).1; omega) (hdw k (g5 k hk).1)) s4, Or.inr rfl, fun k hk => ⟨Or.inl (g5 k hk), hdw k (g5 k hk).1⟩⟩)
  clear r4 r4' z4 b4 lc hd
  have X4 := cutseen_s d (fun k => (S k ∧ k ≠ c) ∨ k = d) l w4 B4.out.2.2.2.2.2 (fun k hk => by
    obtain ⟨g1, g2, g3, g4, g5, g6, g7, g8, g9, g10, g11⟩ := H0.out
    obtain ⟨p1, p2, p3, p4, p5, p6⟩ := B4.out
    rcases hk with h | h
    · have := g6 k h.1; omega
    · omega) H0.out.2.2.2.2.2.2.1
  go_wp2_with fail
  refine X4.mono ?_
  rintro e w5 ⟨sv, rfl, ⟨oB, ob, hob1, hob2, hos⟩, c5, b5⟩
  clear X4
  have hsp := hos.is
  obtain ⟨sa, sn, hse, _⟩ := (id hsp : spotsAt w5 sv (seM l) (seY l))
  subst hse
  obtain ⟨wp, hwp⟩ : ∃ wp, wp = w5.alloc (.cells (rowV 2 (seG 0 (.slice none 0 0))) 29) := ⟨_, rfl⟩
  have bp : Below w5.heap.size w5 wp := by rw [hwp]; exact (Below.refl _ _).alloc (Nat.le_refl _) _
  have rp : wp.rowIs w5.heap.size 29 2 (seG 0 (.slice none 0 0)) := by rw [hwp]; exact rowIs_box _ _ _ _
  have B5 : Hid (But w.heap.size c w w5 ∧ w5.rowIs w.heap.size 29 2 (seG 0 (.slice none 0 0)) ∧ cutS w5 S c l false ∧ cutS w5 (fun k => (S k ∧ k ≠ c) ∨ k = d) d (seE l).1 (seE l).2 ∧ ownSpots w5 oB ob (.slice sa (seM l) sn) (seM l) (seY l) ∧ wp.rowIs w5.heap.size 29 2 (seG 0 (.slice none 0 0)) ∧ Below w5.heap.size w5 wp ∧ w.heap.size < d ∧ d < w5.heap.size) := (show _ from by
    obtain ⟨g1, g2, g3, g4, g5, g6, g7, g8, g9, g10, g11⟩ := H0.out
    obtain ⟨p1, p2, p3, p4, p5, p6⟩ := B4.out
    have s5 := b5.size
    exact ⟨p1.box b5 (by omega), World.rowIs.of_block p2 (b5.block _ (by omega) (by omega)), p3.far (fun k hk hs => b5.block k hk (by have := g6 k hs; omega)) s5, c5, hos, rp, bp, p4, by omega⟩)
  have OB : Hid (w4.heap.size ≤ ob ∧ ob < oB ∧ w.heap.size < w4.heap.size) := (show _ ∧ _ ∧ _ from ⟨hob1, hob2, by have := B4.out.2.1.lt; exact this⟩)
  clear hsp hos hob1 hob2 c5 b5 rp bp B4
  go_upto_region 5 with (first | (rw [← hwp]; clear hwp; refine wpList_store_row rfl 29 _ _ rfl rfl w5.heap.size 0 2 (seG (seC l) (.slice sa (seM l) sn)) rfl rfl hiSe (seG_one _ _ _ _) _ _ _ B5.out.2.2.2.2.2.1 (by omega) ?_; intro w7 r7 z7 b7))
  have r7' : w7.rowIs w5.heap.size 29 2 (seG (seC l) (.slice sa (seM l) sn)) := r7.congr (fun i hi => by rw [if_pos (by omega), Nat.sub_zero])
  obtain ⟨b4, hb4⟩ : ∃ b4, b4 = w5.heap.size := ⟨_, rfl⟩
  rw [← hb4] at r7' b7 ⊢
  have B7 : Hid (But w.heap.size c w w7 ∧ w7.rowIs w.heap.size 29 2 (seG 0 (.slice none 0 0)) ∧ cutS w7 S c l false ∧ cutS w7 (fun k => (S k ∧ k ≠ c) ∨ k = d) d (seE l).1 (seE l).2 ∧ (∀ V, But w7.heap.size b4 w7 V → True) ∧ w.heap.size < d ∧ d < b4 ∧ b4 < w7.heap.size ∧ Below w5.heap.size w5 w7 ∧ b4 = w5.heap.size) := (show _ from by
    obtain ⟨g1, g2, g3, g4, g5, g6, g7, g8, g9, g10, g11⟩ := H0.out
    obtain ⟨p1, p2, p3, p4, p5, p6, p7, p8, p9⟩ := B5.out
    have s7 := b7.size
    have sp := p6.lt
    have bb : Below w5.heap.size w5 w7 := p7.trans ((b7.mono (by omega)).below (by omega))
    have hl0 := p2.lt
    refine ⟨p1.trans (But.of_below (bb.mono p1.size) c), bb.row p2 hl0, p3.below bb (Nat.le_refl _), p4.below bb (Nat.le_refl _), fun _ _ => trivial, p8, by omega, by omega, bb, hb4⟩)
  have R7 : Hid (w7.rowIs b4 29 2 (seG (seC l) (.slice sa (seM l) sn)) ∧ ownSpots w7 oB ob (.slice sa (seM l) sn) (seM l) (seY l)) := (show _ ∧ _ from ⟨r7', B5.out.2.2.2.2.1.below B7.out.2.2.2.2.2.2.2.2.1 (Nat.le_refl _)⟩)
  clear r7 r7' z7 b7 hb4
  have X7 := err_s d (fun k => (S k ∧ k ≠ c) ∨ k = d) (seE l).1 (seE l).2 w7 B7.out.2.2.2.1
  go_wp2_with fail
  refine X7.mono ?_
  rintro e w' ⟨rfl, hw⟩
  obtain rfl := hw.symm
  clear hw X7
  cases hf : (seE l).2 with
  | true =>
    have HF : Hid ((seE l).2 = true) := hf
    rw [show errI true = 2 from rfl]
    have X8 := fail_s c S l false w7 B7.out.2.2.1
    clear hf
    go_wp2_with fail
    refine X8.mono ?_
    rintro e w8 ⟨rfl, c8, b8⟩
    clear X8
    have r8 : w8.rowIs w.heap.size 29 2 (seG 0 (.slice none 0 0)) := by
      obtain ⟨p1, p2, _⟩ := B7.out
      have := H0.out.2.2.2.2.2.2.2.2.2.2
      exact World.rowIs.of_block p2 (b8.block _ p2.lt (by omega))
    have FI : Hid (∀ V, But w8.heap.size w.heap.size w8 V → cutS V S c l true ∧ But w.heap.size c w V) := (show _ from fun V hV => ⟨c8.far (fun k hk hs => hV.block k hk (by have := H0.out.2.2.2.2.2.1 k hs; omega)) hV.size, (B7.out.1.later b8).box hV (Nat.le_refl _)⟩)
    clear c8 b8
    go_wp2_with (first | (refine wpList_store_row rfl 29 _ _ rfl rfl w.heap.size 0 2 (seG 0 (.slice none 0 0)) rfl rfl hiSe (seG_one _ _ _ _) _ _ _ r8 (by omega) ?_; intro w9 r9 hz9 hb9))
    exact bodyPost_ret (results_cell_seg rfl _ _ w.heap.size 29 2 (seG 0 (.slice none 0 0)) _ rfl Tryd.underlying29 rfl hiSe (r9.congr fun i hi => by rw [if_pos (by omega), Nat.sub_zero])) rfl (by exact ⟨(FI.out w9 hb9).2, Or.inl ⟨HF.out, rfl, (FI.out w9 hb9).1⟩⟩)
  | false =>
    have HF : Hid ((seE l).2 = false) := hf
    rw [show errI false = 0 from rfl]
    have hcd := B7.out.2.2.2.1
    rw [hf] at hcd
    obtain ⟨ea, en, k1, k2, k3, k4⟩ := hcd.slice
    obtain ⟨ga, gn, j1, _, _, _⟩ := B7.out.2.2.1.slice
    have lc : ∀ j, j < 2 → w7.cell? ⟨d, 0 + j, none⟩ = some (cutV (.slice ea (seE l).1.length en) false j) := fun j hj => by rw [Nat.zero_add]; exact k1.cell hj
    have K : Hid (isBytes w7 (.slice ea (seE l).1.length en) (seE l).1 ∧ ∀ k, (Value.slice ea (seE l).1.length en).ownBlock = some k → ((S k ∧ k ≠ c) ∨ k = d) ∧ k ≠ d) := (show _ ∧ _ from ⟨k2, k4⟩)
    have J1 : Hid (cutIs w7 c (.slice ga l.length gn) false) := (show _ from j1)
    clear hf hcd k1 k2 k3 k4 j1
    go_upto_region 8 with fail
    go_upto_region 9 with (first | (refine wpList_load_w 100 (.tmp 3) rfl rfl d 0 2 (cutV (.slice ea (seE l).1.length en) false) rfl _ Tryd.underlying100 rfl hiCut lc ?_) | (refine wpList_store_row rfl 100 _ _ rfl rfl c 0 2 (cutV (.slice ea (seE l).1.length en) false) rfl rfl hiCut (cutV_one _ _ _ _) _ _ _ J1.out (by omega) ?_; intro w8 r8 z8 b8))
    have r8' : cutIs w8 c (.slice ea (seE l).1.length en) false := r8.congr (fun i hi => by rw [if_pos (by omega), Nat.sub_zero])
    have Q8 : Hid (cutS w8 S c (seE l).1 false ∧ But w.heap.size c w w8 ∧ w8.rowIs w.heap.size 29 2 (seG 0 (.slice none 0 0)) ∧ w8.rowIs b4 29 2 (seG (seC l) (.slice sa (seM l) sn))) := (show _ from by
      obtain ⟨g1, g2, g3, g4, g5, g6, g7, g8, g9, g10, g11⟩ := H0.out
      obtain ⟨p1, p2, p3, p4, p5, p6, p7, p8, p9, p10⟩ := B7.out
      obtain ⟨q1, q2⟩ := K.out
      obtain ⟨t1, t2⟩ := R7.out
      have ho : ∀ k, (Value.slice ea (seE l).1.length en).ownBlock = some k → S k ∧ k ≠ c := fun k hk => by
        obtain ⟨h | h, h'⟩ := q2 k hk
        · exact h
        · exact absurd h h'
      exact ⟨⟨_, r8', q1.far (fun k hk => b8.block k (q1.block k hk) (ho k hk).2) b8.size, g10, ho⟩, p1.later b8, World.rowIs.of_block p2 (b8.block _ p2.lt (by omega)), World.rowIs.of_block t1 (b8.block _ t1.lt (by omega))⟩)
    have FI : Hid (∀ V, But w8.heap.size w.heap.size w8 V → spotsAt V (.slice sa (seM l) sn) (seM l) (seY l) ∧ cutS V S c (seE l).1 false ∧ But w.heap.size c w V) := (show _ from fun V hV => by
      obtain ⟨g1, g2, g3, g4, g5, g6, g7, g8, g9, g10, g11⟩ := H0.out
      obtain ⟨t1, t2⟩ := R7.out
      obtain ⟨o1, o2, o3⟩ := OB.out
      obtain ⟨q1, q2, q3, q4⟩ := Q8.out
      have s8 := b8.size
      have sV := hV.size
      exact ⟨(t2.same (w' := V) o2 (by omega) (fun j hj hn => (hV.block j (by omega) (by omega)).trans (b8.block j hj (by omega)))).is, q1.far (fun k hk hs => hV.block k hk (by have := g6 k hs; omega)) sV, q2.box hV (Nat.le_refl _)⟩)
    have r82 := Q8.out.2.2.1
    have l8 : ∀ j, j < 2 → w8.cell? ⟨b4, 0 + j, none⟩ = some (seG (seC l) (.slice sa (seM l) sn) j) := fun j hj => by rw [Nat.zero_add]; exact Q8.out.2.2.2.cell hj
    clear r8 r8' z8 b8 lc
    go_wp2_with (first | (refine wpList_load_w 29 (.tmp 4) rfl rfl b4 0 2 (seG (seC l) (.slice sa (seM l) sn)) rfl _ Tryd.underlying29 rfl hiSe l8 ?_) | (refine wpList_store_row rfl 29 _ _ rfl rfl w.heap.size 0 2 (seG (seC l) (.slice sa (seM l) sn)) rfl rfl hiSe (seG_one _ _ _ _) _ _ _ r82 (by omega) ?_; intro w9 r9 hz9 hb9))
    exact bodyPost_ret (results_cell_seg rfl _ _ w.heap.size 29 2 (seG (seC l) (.slice sa (seM l) sn)) _ rfl Tryd.underlying29 rfl hiSe (r9.congr fun i hi => by rw [if_pos (by omega), Nat.sub_zero])) rfl (by exact ⟨(FI.out w9 hb9).2.2, Or.inr ⟨HF.out, _, rfl, (FI.out w9 hb9).1, (FI.out w9 hb9).2.1⟩⟩)
end Go.Proofs.YtkgegihkhdgdoaaDoor

/- what is shown is looked at, and tells: the pure part. -/
namespace Go.Proofs.YtkgegihkhdgdoaaDoor
set_option linter.unusedSimpArgs false
set_option linter.unusedVariables false
open Go.RowKit Go.Deep

theorem leavesTo_getD (x : Nat → Pr) (n q : Nat) (hq : q < n) : (leavesTo x n).getD q [] = leafS (x q) := by
  rw [List.getD_eq_getElem?_getD, leavesTo, List.getElem?_map, List.getElem?_range hq]; rfl
theorem show_toA (x : Nat → Pr) (n q : Nat) (hq : q < n) : toA (n : Int) ⟨(q : Int), x q, pathI (leavesTo x n) (q : Int)⟩ = some (rootS (leavesTo x n)) := by
  have hl := leavesTo_len x n
  have ht : thereB (n : Int) (q : Int) = true := by simp [thereB]; omega
  have hp : pathI (leavesTo x n) (q : Int) = pathS (leavesTo x n) q := pathI_there (by rw [hl]; exact hq)
  have hw : wayI (n : Int) (q : Int) = wayL n q := by unfold wayI; rw [if_pos ht, Int.toNat_natCast, Int.toNat_natCast]
  have hk : okLead (n : Int) (q : Int) (pathS (leavesTo x n) q) = true := by
    unfold okLead
    rw [ht, hw, pathS_len, hl]; simp
  unfold toA
  simp only
  rw [hp, if_pos hk, hw]
  have h := lead_path n (leavesTo x n) q (by omega) (by rw [hl]; exact hq)
  rw [leavesTo_getD x n q hq, hl] at h
  rw [← h]; rfl
theorem may_lt_key {x : Nat → Pr} {n : Nat} (hm : mayP x n) : ∀ (d i : Nat), i + d + 1 < n → cmpI (x i).1 (x (i + d + 1)).1 < 0
  | 0, i, h => hm i h
  | d + 1, i, h => cmpI_trans _ _ _ (may_lt_key hm d i (by omega)) (hm (i + d + 1) (by omega))
theorem pos_key {x : Nat → Pr} {n p : Nat} {key : List Int} (hm : mayP x n) (hp : posAt x n key p) (i : Nat) (hi : i < n) (hk : (x i).1 = key) : i = p ∧ isAt x n key p = true := by
  obtain ⟨h1, h2, h3⟩ := hp
  have hz : cmpI (x i).1 key = 0 := by rw [hk]; exact cmpI_self key
  have hge : p ≤ i := by
    by_cases e : p ≤ i
    · exact e
    · have := h2 i (by omega); omega
  have hle : i ≤ p := by
    by_cases e : i ≤ p
    · exact e
    · have h := may_lt_key hm (i - p - 1) p (by omega)
      rw [show p + (i - p - 1) + 1 = i by omega, hk] at h
      have := h3 p (Nat.le_refl _) (by omega); omega
  obtain rfl : i = p := by omega
  exact ⟨rfl, by simp [isAt, hi, hz]⟩
/-- how many are shown, from where. -/
theorem show_cases {x : Nat → Pr} {n p : Nat} {key : List Int} (hp : posAt x n key p) :
    (isAt x n key p = true ∧ p < n ∧ shF x n key p = p ∧ shM x n key p = 1) ∨ (isAt x n key p = false ∧ ((n = 0 ∧ shM x n key p = 0) ∨ (p = 0 ∧ 0 < n ∧ shF x n key p = 0 ∧ shM x n key p = 1) ∨ (0 < p ∧ p < n ∧ shF x n key p = p - 1 ∧ shM x n key p = 2) ∨ (0 < p ∧ p = n ∧ shF x n key p = n - 1 ∧ shM x n key p = 1))) := by
  have h1 := hp.1
  cases hA : isAt x n key p with
  | true =>
    have hpn : p < n := by
      simp only [isAt, Bool.and_eq_true, decide_eq_true_eq] at hA; exact hA.1
    refine Or.inl ⟨rfl, hpn, ?_, ?_⟩
    · unfold shF; rw [if_pos hA]
    · unfold shM shF arL; rw [if_pos hA, if_pos hA]; omega
  | false =>
    have hf : shF x n key p = p - 1 := by unfold shF; rw [if_neg (by rw [hA]; decide)]
    have hl : arL x n key p = min (p : Int) ((n : Int) - 1) := by unfold arL; rw [if_neg (by rw [hA]; decide)]
    refine Or.inr ⟨rfl, ?_⟩
    unfold shM
    rw [hf, hl]
    by_cases e0 : n = 0
    · exact Or.inl ⟨e0, by omega⟩
    · by_cases e1 : p = 0
      · exact Or.inr (Or.inl ⟨e1, by omega, by omega, by omega⟩)
      · by_cases e2 : p < n
        · exact Or.inr (Or.inr (Or.inl ⟨by omega, e2, rfl, by omega⟩))
        · exact Or.inr (Or.inr (Or.inr ⟨by omega, by omega, by omega, by omega⟩))
theorem isAt_not {x : Nat → Pr} {n p : Nat} {key : List Int} (h : isAt x n key p = false) (hp : p < n) : ¬ cmpI (x p).1 key = 0 := fun e => by
  simp [isAt, hp, e] at h
/-- what is shown is not refused. -/
theorem show_ok {x : Nat → Pr} {n p : Nat} {key : List Int} (hm : mayP x n) (hp : posAt x n key p) : lookOk (n : Int) (shM x n key p) (shY x n key p) key (keyS x n) := by
  have hq : ∀ i, i < shM x n key p → shF x n key p + i < n := fun i hi => by
    have h1 := (shM_lt x n key p i).1 hi
    have h2 := (arL_lt x n key p).1
    omega
  have hto : ∀ i, i < shM x n key p → toA (n : Int) (shY x n key p i) = some (rootS (leavesTo x n)) := fun i hi => show_toA x n _ (hq i hi)
  have hY : ∀ i, (shY x n key p i).pr = x (shF x n key p + i) ∧ (shY x n key p i).at_ = ((shF x n key p + i : Nat) : Int) := fun i => ⟨rfl, rfl⟩
  refine ⟨by omega, ?_, rootS (leavesTo x n), ?_, rfl⟩
  · unfold saysB
    rw [(hY 0).1, (hY 0).2, (hY 1).1, (hY 1).2]
    obtain ⟨h1, h2, h3⟩ := hp
    rcases show_cases ⟨h1, h2, h3⟩ with ⟨hA, hpn, hf, hM⟩ | ⟨hA, ⟨h0, hM⟩ | ⟨hp0, h0, hf, hM⟩ | ⟨hp0, hpn, hf, hM⟩ | ⟨hp0, hpn, hf, hM⟩⟩
    · rw [hM, hf, if_neg (by omega), if_pos rfl]
      have hz : cmpI (x p).1 key = 0 := by
        simp only [isAt, Bool.and_eq_true, decide_eq_true_eq] at hA; exact hA.2
      exact decide_eq_true (Or.inl hz)
    · rw [hM, if_pos rfl]; exact decide_eq_true (by omega)
    · rw [hM, hf, if_neg (by omega), if_pos rfl]
      have hne := isAt_not hA (by omega)
      have := h3 p (Nat.le_refl _) (by omega)
      rw [hp0] at hne this
      exact decide_eq_true (Or.inr (Or.inl ⟨by rw [Nat.add_zero]; omega, by omega⟩))
    · rw [hM, hf, if_neg (by omega), if_neg (by omega), if_pos rfl, Nat.add_zero, show p - 1 + 1 = p by omega]
      have hne := isAt_not hA hpn
      have a1 := h3 p (Nat.le_refl _) hpn
      have a2 := h2 (p - 1) (by omega)
      exact decide_eq_true ⟨a2, by omega, by omega, by omega⟩
    · rw [hM, hf, if_neg (by omega), if_pos rfl, Nat.add_zero]
      have a2 := h2 (n - 1) (by omega)
      exact decide_eq_true (Or.inr (Or.inr ⟨a2, by omega⟩))
  · by_cases h0 : shM x n key p = 0
    · refine Or.inl ⟨h0, ?_⟩
      rcases show_cases hp with ⟨hA, hpn, hf, hM⟩ | ⟨hA, ⟨hn, hM⟩ | ⟨hp0, hn, hf, hM⟩ | ⟨hp0, hpn, hf, hM⟩ | ⟨hp0, hpn, hf, hM⟩⟩
      · omega
      · rw [hn]; rfl
      · omega
      · omega
      · omega
    · exact Or.inr ⟨by omega, hto⟩
/-- what is shown tells what stands there. -/
theorem show_there {x : Nat → Pr} {n p : Nat} {key : List Int} (hm : mayP x n) (hp : posAt x n key p) (k : Nat) (hk : k < shM x n key p) (he : (shY x n key p k).pr.1 = key) : shF x n key p + k < n ∧ (x (shF x n key p + k)).1 = key ∧ (shY x n key p k).pr.2 = (x (shF x n key p + k)).2 := by
  have h1 := (shM_lt x n key p k).1 hk
  have h2 := (arL_lt x n key p).1
  exact ⟨by omega, he, rfl⟩
theorem show_none {x : Nat → Pr} {n p : Nat} {key : List Int} (hm : mayP x n) (hp : posAt x n key p) (h : ∀ j, j < shM x n key p → ¬ (shY x n key p j).pr.1 = key) (i : Nat) (hi : i < n) : ¬ (x i).1 = key := fun e => by
  obtain ⟨rfl, hA⟩ := pos_key hm hp i hi e
  rcases show_cases hp with ⟨_, _, hf, hM⟩ | ⟨hA', _⟩
  · refine h 0 (by omega) ?_
    show (x (shF x n key i + 0)).1 = key
    rw [hf]; exact e
  · rw [hA] at hA'; cases hA'
end Go.Proofs.YtkgegihkhdgdoaaDoor

/- the laws' stands. -/
namespace Go.Proofs.YtkgegihkhdgdoaaDoor
set_option linter.unusedSimpArgs false
set_option linter.unusedVariables false
open Go.RowKit Go.Deep

def standP (n : Nat) (x : Nat → Pr) (key : List Int) (e : Ending) : Prop :=
  (∃ i, i < n ∧ (x i).1 = key ∧ (∀ j, j < i → ¬ (x j).1 = key) ∧ e = .returned (.tuple #[.string (strOf (x i).2), .bool true])) ∨ ((∀ j, j < n → ¬ (x j).1 = key) ∧ e = .returned (.tuple #[.string { data := #[] }, .bool false]))
end Go.Proofs.YtkgegihkhdgdoaaDoor

/- the laws' wide. -/
namespace Go.Proofs.YtkgegihkhdgdoaaDoor
set_option linter.unusedSimpArgs false
set_option linter.unusedVariables false
open Go.RowKit Go.Deep

def wideP (m : Nat) (y : Nat → Sp) (e : Ending) : Prop := ∃ b, e = .returned (.bool b) ∧ (b = false → m ≤ 10 ∧ ∀ i, i < m → (y i).pr.1.length + (y i).pr.2.length ≤ 100000 ∧ (y i).path.length ≤ 100)
set_option maxHeartbeats 4000000 in
set_option maxRecDepth 100000 in
theorem kwide_any (m : Nat) (cnt : Int) (sv : Value) (y : Nat → Sp) (w : World) (hp : spotsAt w sv m y) :
    Calls Tryd.prog 20 #[.agg #[.int .i64 cnt, sv]] w fun e w' => wideP m y e ∧ Below w.heap.size w w' := by
  obtain ⟨a, cap, hv, hmc, hcm, _⟩ := (id hp : spotsAt w sv m y)
  have hmm : (m : Int) ≤ 9223372036854775807 := by unfold maxLen at hcm; omega
  have hzsp := zero_sp
  subst hv
  obtain ⟨w1, hw1⟩ : ∃ w1, w1 = w.alloc (.cells #[.int .i64 cnt, .slice a m cap] 29) := ⟨_, rfl⟩
  have b1 : Below w.heap.size w w1 := by rw [hw1]; exact (Below.refl _ _).alloc (Nat.le_refl _) _
  have hbk : w1.heap[w.heap.size]? = some (.cells #[.int .i64 cnt, .slice a m cap] 29) := by rw [hw1, blk_alloc_new]
  obtain ⟨bs, hbs⟩ : ∃ bs, bs = w.heap.size := ⟨_, rfl⟩
  rw [← hbs] at hbk
  have hc1 : w1.cell? ⟨bs, 1, none⟩ = some (.slice a m cap) := by rw [cell_of_row _ _ _ _ _ _ hbk]; rfl
  have C1 : Hid (∀ wz, Below w1.heap.size w1 wz → wz.cell? ⟨bs, 1, none⟩ = some (.slice a m cap)) := (show _ from fun wz hz => (hz.cell (p := ⟨bs, 1, none⟩) (block_lt_of_cell hc1)).trans hc1)
  have HP : Hid (spotsAt w1 (.slice a m cap) m y) := (show spotsAt w1 (.slice a m cap) m y from hp.below b1 (Nat.le_refl _))
  have B1 : Hid (Below w.heap.size w w1) := (show Below w.heap.size w w1 from b1)
  have hm0 : (0 : Int) ≤ (m : Int) := by omega
  clear hp hmc hcm b1 hbk hc1
  go_enter Tryd.func20, Tryd.ntmps20
  go_upto_region 1 with fail
  rw [← hw1, ← hbs]
  clear hw1 hbs
  go_wp2_with fail
  go_loopw [3, 4] (fun l i wr => ∃ (k : Nat) (left : Int), k ≤ m ∧ k ≤ 11 ∧ l = .int .i64 left ∧ i = .int .i64 (k : Int) ∧ left ≤ 100000 ∧ -600000 ≤ left ∧ (0 ≤ left → ∀ j, j < k → (y j).pr.1.length + (y j).pr.2.length ≤ 100000 ∧ (y j).path.length ≤ 100) ∧ Below w1.heap.size w1 wr) (fun _ i _ => m - (intOf i).toNat)
  case atStart => exact ⟨0, 100000, by omega, by omega, rfl, rfl, by omega, by omega, fun _ j hj => by omega, Below.refl _ _⟩
  case round =>
    obtain ⟨k, left, hkm, hk1, rfl, rfl, hl1, hl2, hall, hbr⟩ := hrel
    have p0 : (0 : Int) ≤ (k : Int) := by omega
    have HAL : Hid (0 ≤ left → ∀ j, j < k → (y j).pr.1.length + (y j).pr.2.length ≤ 100000 ∧ (y j).path.length ≤ 100) := (show _ from hall)
    have HBR : Hid (Below w1.heap.size w1 wr) := (show Below w1.heap.size w1 wr from hbr)
    have c1 := C1.out wr hbr
    clear hall
    by_cases hlt : k < m ∧ k ≤ 10 ∧ 0 ≤ left
    · obtain ⟨hlt, hk2, hl0⟩ := hlt
      have p1 : (k : Int) < (m : Int) := by omega
      have p2 : (k : Int) ≤ 10 := by omega
      obtain ⟨g, o, cap', e, hg, hcell⟩ := HP.out.at (by omega)
      injection e with e1 e2 e3
      subst e1
      subst e3
      obtain ⟨ka, kcap, va, vcap, pa, pcap, _, H⟩ := hcell k hlt
      have hc4 : ∀ i, i < 4 → wr.cell? ⟨g, o + k * 4 + i, none⟩ = some (spG (y k).at_ (.slice ka (y k).pr.1.length kcap) (.slice va (y k).pr.2.length vcap) (.slice pa (y k).path.length pcap) i) := fun i hi => by
        obtain ⟨q0, q1, q2, q3, _⟩ := H wr hbr
        have : i = 0 ∨ i = 1 ∨ i = 2 ∨ i = 3 := by omega
        rcases this with rfl | rfl | rfl | rfl
        · exact q0
        · exact q1
        · exact q2
        · exact q3
      obtain ⟨wq, hwq⟩ : ∃ wq, wq = wr.alloc (.cells (rowV 4 spZ) 41) := ⟨_, rfl⟩
      have bq : Below wr.heap.size wr wq := by rw [hwq]; exact (Below.refl _ _).alloc (Nat.le_refl _) _
      have rq : wq.rowIs wr.heap.size 41 4 spZ := by rw [hwq]; exact rowIs_box _ _ _ _
      have RQ : Hid (wq.rowIs wr.heap.size 41 4 spZ ∧ Below wr.heap.size wr wq) := (show _ ∧ _ from ⟨rq, bq⟩)
      obtain ⟨A, hA⟩ : ∃ A : Int, A = if (200000 : Int) < ((y k).pr.1.length : Int) then 200000 else ((y k).pr.1.length : Int) := ⟨_, rfl⟩
      obtain ⟨B, hB⟩ : ∃ B : Int, B = if (200000 : Int) < ((y k).pr.2.length : Int) then 200000 else ((y k).pr.2.length : Int) := ⟨_, rfl⟩
      obtain ⟨C, hC⟩ : ∃ C : Int, C = if (200 : Int) < ((y k).path.length : Int) then 200 else ((y k).path.length : Int) := ⟨_, rfl⟩
      have hA2 : 0 ≤ A ∧ A ≤ 200000 ∧ (A < 200000 → A = ((y k).pr.1.length : Int)) := by rw [hA]; split <;> omega
      have hB2 : 0 ≤ B ∧ B ≤ 200000 ∧ (B < 200000 → B = ((y k).pr.2.length : Int)) := by rw [hB]; split <;> omega
      have hC2 : 0 ≤ C ∧ C ≤ 200 ∧ (C < 200 → C = ((y k).path.length : Int)) := by rw [hC]; split <;> omega
      clear hcell H hbr bq rq
      go_upto_region 6 with (first | (refine wpList_load_seg rfl 41 _ rfl g (o + k * 4) 4 (spG (y k).at_ (.slice ka (y k).pr.1.length kcap) (.slice va (y k).pr.2.length vcap) (.slice pa (y k).path.length pcap)) rfl _ Tryd.underlying41 rfl hiSp hc4 ?_) | (rw [← hwq]; clear hwq; refine wpList_store_row rfl 41 _ _ rfl rfl wr.heap.size 0 4 (spG (y k).at_ (.slice ka (y k).pr.1.length kcap) (.slice va (y k).pr.2.length vcap) (.slice pa (y k).path.length pcap)) rfl rfl hiSp (spG_one _ _ _ _ _ _ _ _ _ _) _ _ _ RQ.out.1 (by omega) ?_; intro w2 r2 z2 b2))
      have r2' : w2.rowIs wr.heap.size 41 4 (spG (y k).at_ (.slice ka (y k).pr.1.length kcap) (.slice va (y k).pr.2.length vcap) (.slice pa (y k).path.length pcap)) := r2.congr (fun i hi => by rw [if_pos (by omega), Nat.sub_zero])
      have d1 : w2.cell? ⟨wr.heap.size, 1, none⟩ = some (.slice ka (y k).pr.1.length kcap) := r2'.cell (i := 1) (by omega)
      have d2 : w2.cell? ⟨wr.heap.size, 2, none⟩ = some (.slice va (y k).pr.2.length vcap) := r2'.cell (i := 2) (by omega)
      have d3 : w2.cell? ⟨wr.heap.size, 3, none⟩ = some (.slice pa (y k).path.length pcap) := r2'.cell (i := 3) (by omega)
      have B2 : Hid (Below w1.heap.size w1 w2) := (show Below w1.heap.size w1 w2 from HBR.out.trans ((RQ.out.2.trans (b2.below' (Nat.le_refl _) RQ.out.2.size)).mono HBR.out.size))
      have hA' := hA.symm
      have hB' := hB.symm
      have hC' := hC.symm
      have NX : Hid (0 ≤ left - (A + B + 1000 * C) → ∀ j, j < k + 1 → (y j).pr.1.length + (y j).pr.2.length ≤ 100000 ∧ (y j).path.length ≤ 100) := (show _ from fun h j hj => by
        by_cases e : j = k
        · subst e
          have h1 := hA2.2.2 (by omega)
          have h2 := hB2.2.2 (by omega)
          have h3 := hC2.2.2 (by omega)
          omega
        · exact HAL.out hl0 j (by omega))
      have w1' : IntKind.wrap .i64 (A + B) = A + B := IntWalk.i64_in _ ⟨by omega, by omega⟩
      have w2' : IntKind.wrap .i64 (1000 * C) = 1000 * C := IntWalk.i64_in _ ⟨by omega, by omega⟩
      have w3' : IntKind.wrap .i64 (A + B + 1000 * C) = A + B + 1000 * C := IntWalk.i64_in _ ⟨by omega, by omega⟩
      have w4' : IntKind.wrap .i64 (left - (A + B + 1000 * C)) = left - (A + B + 1000 * C) := IntWalk.i64_in _ ⟨by omega, by omega⟩
      have RNG : Hid (left - (A + B + 1000 * C) ≤ 100000 ∧ -600000 ≤ left - (A + B + 1000 * C)) := (show _ ∧ _ from by omega)
      clear r2 r2' b2 z2 hc4 c1 hA hB hC hA2 hB2 hC2 RQ
      generalize (y k).pr.1.length = na at d1 hA' ⊢
      generalize (y k).pr.2.length = nb at d2 hB' ⊢
      generalize (y k).path.length = nc at d3 hC' ⊢
      go_wp2
      exact ⟨⟨k + 1, left - (A + B + 1000 * C), by omega, by omega, rfl, by go_num, RNG.out.1, RNG.out.2, NX.out, B2.out⟩, by simp [intOf]; omega⟩
    · have BR : Hid (Below w.heap.size w wr) := (show Below w.heap.size w wr from B1.out.trans (HBR.out.mono B1.out.size))
      clear hbr
      by_cases q1 : k < m
      · have p1 : (k : Int) < (m : Int) := by omega
        by_cases q2 : k ≤ 10
        · have p2 : (k : Int) ≤ 10 := by omega
          have p3 : ¬ 0 ≤ left := by omega
          have p4 : left < 0 := by omega
          clear hlt
          by_cases q3 : m > 10
          · have p5 : (m : Int) > 10 := by omega
            go_wp2
            go_ret
            exact ⟨⟨_, rfl, fun h => by cases h⟩, BR.out⟩
          · have p5 : ¬ (m : Int) > 10 := by omega
            go_wp2
            go_ret
            exact ⟨⟨_, rfl, fun h => by cases h⟩, BR.out⟩
        · have p2 : ¬ (k : Int) ≤ 10 := by omega
          have p5 : (m : Int) > 10 := by omega
          clear hlt
          go_wp2
          go_ret
          exact ⟨⟨_, rfl, fun h => by cases h⟩, BR.out⟩
      · obtain rfl : k = m := by omega
        have p1 : ¬ (k : Int) < (k : Int) := by omega
        clear hlt
        by_cases q3 : k > 10
        · have p5 : (k : Int) > 10 := by omega
          go_wp2
          go_ret
          exact ⟨⟨_, rfl, fun h => by cases h⟩, BR.out⟩
        · have p5 : ¬ (k : Int) > 10 := by omega
          by_cases q4 : left < 0
          · go_wp2
            go_ret
            exact ⟨⟨_, rfl, fun h => by cases h⟩, BR.out⟩
          · have FI : Hid (k ≤ 10 ∧ ∀ i, i < k → (y i).pr.1.length + (y i).pr.2.length ≤ 100000 ∧ (y i).path.length ≤ 100) := (show _ ∧ _ from ⟨by omega, HAL.out (by omega)⟩)
            go_wp2
            go_ret
            exact ⟨⟨_, rfl, fun _ => FI.out⟩, BR.out⟩
end Go.Proofs.YtkgegihkhdgdoaaDoor

/- The document's Fit. -/
namespace Go.Proofs.YtkgegihkhdgdoaaDoor
set_option linter.unusedSimpArgs false
set_option linter.unusedVariables false
open Go.RowKit Go.Deep

def fitOne (s : Sp) : Prop := 0 ≤ s.at_ ∧ s.at_ ≤ 2147483647 ∧ s.pr.1.length ≤ 256 ∧ s.pr.2.length ≤ 1048576 ∧ s.path.length ≤ 32
def fitS (cnt : Int) (m : Nat) (y : Nat → Sp) : Prop := 0 ≤ cnt ∧ cnt ≤ 2147483647 ∧ m ≤ 2 ∧ ∀ i, i < m → fitOne (y i)
def fitP (cnt : Int) (m : Nat) (y : Nat → Sp) (e : Ending) : Prop := ∃ b, e = .returned (.bool b) ∧ (b = true ↔ fitS cnt m y)
set_option maxHeartbeats 4000000 in
set_option maxRecDepth 100000 in
theorem rfit_any (m : Nat) (cnt : Int) (sv : Value) (y : Nat → Sp) (w : World) (hp : spotsAt w sv m y) :
    Calls Tryd.prog 28 #[.agg #[.int .i64 cnt, sv]] w fun e w' => fitP cnt m y e ∧ Below w.heap.size w w' := by
  obtain ⟨a, cap, hv, hmc, hcm, _⟩ := (id hp : spotsAt w sv m y)
  have hmm : (m : Int) ≤ 9223372036854775807 := by unfold maxLen at hcm; omega
  have hzsp := zero_sp
  subst hv
  obtain ⟨w1, hw1⟩ : ∃ w1, w1 = w.alloc (.cells #[.int .i64 cnt, .slice a m cap] 29) := ⟨_, rfl⟩
  have b1 : Below w.heap.size w w1 := by rw [hw1]; exact (Below.refl _ _).alloc (Nat.le_refl _) _
  have hbk : w1.heap[w.heap.size]? = some (.cells #[.int .i64 cnt, .slice a m cap] 29) := by rw [hw1, blk_alloc_new]
  obtain ⟨bs, hbs⟩ : ∃ bs, bs = w.heap.size := ⟨_, rfl⟩
  rw [← hbs] at hbk
  have hc0 : w1.cell? ⟨bs, 0, none⟩ = some (.int .i64 cnt) := by rw [cell_of_row _ _ _ _ _ _ hbk]; rfl
  have hc1 : w1.cell? ⟨bs, 1, none⟩ = some (.slice a m cap) := by rw [cell_of_row _ _ _ _ _ _ hbk]; rfl
  have C1 : Hid (∀ wz, Below w1.heap.size w1 wz → wz.cell? ⟨bs, 1, none⟩ = some (.slice a m cap)) := (show _ from fun wz hz => (hz.cell (p := ⟨bs, 1, none⟩) (block_lt_of_cell hc1)).trans hc1)
  have HP : Hid (spotsAt w1 (.slice a m cap) m y) := (show spotsAt w1 (.slice a m cap) m y from hp.below b1 (Nat.le_refl _))
  have B1 : Hid (Below w.heap.size w w1) := (show Below w.heap.size w w1 from b1)
  have hm0 : (0 : Int) ≤ (m : Int) := by omega
  clear hp hmc hcm b1 hbk
  go_enter Tryd.func28, Tryd.ntmps28
  go_upto_region 1 with fail
  rw [← hw1, ← hbs]
  clear hw1 hbs
  by_cases k0 : cnt < 0
  · have FI : Hid (fitP cnt m y (.returned (.bool false))) := (show fitP cnt m y (.returned (.bool false)) from ⟨false, rfl, fun e => (by cases e), fun e => absurd e.1 (by omega)⟩)
    go_wp2
    go_ret
    exact ⟨FI.out, B1.out⟩
  by_cases k1 : cnt > 2147483647
  · have FI : Hid (fitP cnt m y (.returned (.bool false))) := (show fitP cnt m y (.returned (.bool false)) from ⟨false, rfl, fun e => (by cases e), fun e => absurd e.2.1 (by omega)⟩)
    go_wp2
    go_ret
    exact ⟨FI.out, B1.out⟩
  by_cases k2 : (m : Int) > 2
  · have FI : Hid (fitP cnt m y (.returned (.bool false))) := (show fitP cnt m y (.returned (.bool false)) from ⟨false, rfl, fun e => (by cases e), fun e => absurd e.2.2.1 (by omega)⟩)
    go_wp2
    go_ret
    exact ⟨FI.out, B1.out⟩
  have HCM : Hid (0 ≤ cnt ∧ cnt ≤ 2147483647 ∧ m ≤ 2) := (show _ ∧ _ ∧ _ from by omega)
  go_wp2_with fail
  clear k0 k1 k2 hc0 hc1
  go_loopw [3] (fun i wr => ∃ k : Nat, k ≤ m ∧ i = .int .i64 (k : Int) ∧ (∀ j, j < k → fitOne (y j)) ∧ Below w1.heap.size w1 wr) (fun i _ => m - (intOf i).toNat)
  case atStart => exact ⟨0, by omega, rfl, fun j hj => by omega, Below.refl _ _⟩
  case round =>
    obtain ⟨k, hkm, rfl, hall, hbr⟩ := hrel
    have p0 : (0 : Int) ≤ (k : Int) := by omega
    have HAL : Hid (∀ j, j < k → fitOne (y j)) := (show _ from hall)
    have HBR : Hid (Below w1.heap.size w1 wr) := (show Below w1.heap.size w1 wr from hbr)
    have c1 := C1.out wr hbr
    clear hall
    by_cases hlt : k < m
    · have p1 : (k : Int) < (m : Int) := by omega
      obtain ⟨g, o, cap', e, hg, hcell⟩ := HP.out.at (by omega)
      injection e with e1 e2 e3
      subst e1
      subst e3
      obtain ⟨ka, kcap, va, vcap, pa, pcap, _, H⟩ := hcell k hlt
      have hc4 : ∀ i, i < 4 → wr.cell? ⟨g, o + k * 4 + i, none⟩ = some (spG (y k).at_ (.slice ka (y k).pr.1.length kcap) (.slice va (y k).pr.2.length vcap) (.slice pa (y k).path.length pcap) i) := fun i hi => by
        obtain ⟨q0, q1, q2, q3, _⟩ := H wr hbr
        have : i = 0 ∨ i = 1 ∨ i = 2 ∨ i = 3 := by omega
        rcases this with rfl | rfl | rfl | rfl
        · exact q0
        · exact q1
        · exact q2
        · exact q3
      obtain ⟨wq, hwq⟩ : ∃ wq, wq = wr.alloc (.cells (rowV 4 spZ) 41) := ⟨_, rfl⟩
      have bq : Below wr.heap.size wr wq := by rw [hwq]; exact (Below.refl _ _).alloc (Nat.le_refl _) _
      have rq : wq.rowIs wr.heap.size 41 4 spZ := by rw [hwq]; exact rowIs_box _ _ _ _
      have RQ : Hid (wq.rowIs wr.heap.size 41 4 spZ ∧ Below wr.heap.size wr wq) := (show _ ∧ _ from ⟨rq, bq⟩)
      clear hcell H hbr bq rq
      go_upto_region 7 with (first | (refine wpList_load_seg rfl 41 _ rfl g (o + k * 4) 4 (spG (y k).at_ (.slice ka (y k).pr.1.length kcap) (.slice va (y k).pr.2.length vcap) (.slice pa (y k).path.length pcap)) rfl _ Tryd.underlying41 rfl hiSp hc4 ?_) | (rw [← hwq]; clear hwq; refine wpList_store_row rfl 41 _ _ rfl rfl wr.heap.size 0 4 (spG (y k).at_ (.slice ka (y k).pr.1.length kcap) (.slice va (y k).pr.2.length vcap) (.slice pa (y k).path.length pcap)) rfl rfl hiSp (spG_one _ _ _ _ _ _ _ _ _ _) _ _ _ RQ.out.1 (by omega) ?_; intro w2 r2 z2 b2))
      have r2' : w2.rowIs wr.heap.size 41 4 (spG (y k).at_ (.slice ka (y k).pr.1.length kcap) (.slice va (y k).pr.2.length vcap) (.slice pa (y k).path.length pcap)) := r2.congr (fun i hi => by rw [if_pos (by omega), Nat.sub_zero])
      have d0 : w2.cell? ⟨wr.heap.size, 0, none⟩ = some (.int .i64 (y k).at_) := r2'.cell (i := 0) (by omega)
      have d1 : w2.cell? ⟨wr.heap.size, 1, none⟩ = some (.slice ka (y k).pr.1.length kcap) := r2'.cell (i := 1) (by omega)
      have d2 : w2.cell? ⟨wr.heap.size, 2, none⟩ = some (.slice va (y k).pr.2.length vcap) := r2'.cell (i := 2) (by omega)
      have d3 : w2.cell? ⟨wr.heap.size, 3, none⟩ = some (.slice pa (y k).path.length pcap) := r2'.cell (i := 3) (by omega)
      have B2 : Hid (Below w1.heap.size w1 w2) := (show Below w1.heap.size w1 w2 from HBR.out.trans ((RQ.out.2.trans (b2.below' (Nat.le_refl _) RQ.out.2.size)).mono HBR.out.size))
      have BW : Hid (Below w.heap.size w w2) := (show Below w.heap.size w w2 from B1.out.trans (B2.out.mono B1.out.size))
      have NOT : Hid (¬ fitOne (y k) → fitP cnt m y (.returned (.bool false))) := (show ¬ fitOne (y k) → fitP cnt m y (.returned (.bool false)) from fun h => ⟨false, rfl, fun e => (by cases e), fun e => absurd (e.2.2.2 k hlt) h⟩)
      have NXT : Hid (fitOne (y k) → ∀ j, j < k + 1 → fitOne (y j)) := (show fitOne (y k) → ∀ j, j < k + 1 → fitOne (y j) from fun h j hj => by
        by_cases e : j = k
        · rw [e]; exact h
        · exact HAL.out j (by omega))
      have DF : Hid (fitOne (y k) ↔ (0 ≤ (y k).at_ ∧ (y k).at_ ≤ 2147483647 ∧ (y k).pr.1.length ≤ 256 ∧ (y k).pr.2.length ≤ 1048576 ∧ (y k).path.length ≤ 32)) := (show fitOne (y k) ↔ (0 ≤ (y k).at_ ∧ (y k).at_ ≤ 2147483647 ∧ (y k).pr.1.length ≤ 256 ∧ (y k).pr.2.length ≤ 1048576 ∧ (y k).path.length ≤ 32) from Iff.rfl)
      clear r2 r2' b2 z2 hc4 c1 RQ HAL
      generalize (y k).at_ = ta at d0 DF ⊢
      generalize (y k).pr.1.length = na at d1 DF ⊢
      generalize (y k).pr.2.length = nb at d2 DF ⊢
      generalize (y k).path.length = nc at d3 DF ⊢
      by_cases k0 : ta < 0
      · have FI : Hid (fitP cnt m y (.returned (.bool false))) := (show fitP cnt m y (.returned (.bool false)) from NOT.out (fun h => by have := DF.out.1 h; omega))
        go_wp2
        go_ret
        exact ⟨FI.out, BW.out⟩
      by_cases k1 : ta > 2147483647
      · have FI : Hid (fitP cnt m y (.returned (.bool false))) := (show fitP cnt m y (.returned (.bool false)) from NOT.out (fun h => by have := DF.out.1 h; omega))
        go_wp2
        go_ret
        exact ⟨FI.out, BW.out⟩
      by_cases k2 : (na : Int) > 256
      · have FI : Hid (fitP cnt m y (.returned (.bool false))) := (show fitP cnt m y (.returned (.bool false)) from NOT.out (fun h => by have := DF.out.1 h; omega))
        go_wp2
        go_ret
        exact ⟨FI.out, BW.out⟩
      by_cases k3 : (nb : Int) > 1048576
      · have FI : Hid (fitP cnt m y (.returned (.bool false))) := (show fitP cnt m y (.returned (.bool false)) from NOT.out (fun h => by have := DF.out.1 h; omega))
        go_wp2
        go_ret
        exact ⟨FI.out, BW.out⟩
      by_cases k4 : (nc : Int) > 32
      · have FI : Hid (fitP cnt m y (.returned (.bool false))) := (show fitP cnt m y (.returned (.bool false)) from NOT.out (fun h => by have := DF.out.1 h; omega))
        go_wp2
        go_ret
        exact ⟨FI.out, BW.out⟩
      have NX : Hid (∀ j, j < k + 1 → fitOne (y j)) := (show ∀ j, j < k + 1 → fitOne (y j) from NXT.out (DF.out.2 (by omega)))
      go_wp2
      exact ⟨⟨k + 1, by omega, by go_num, NX.out, B2.out⟩, by simp [intOf]; omega⟩
    · obtain rfl : k = m := by omega
      have p1 : ¬ (k : Int) < (k : Int) := by omega
      have FI : Hid (fitP cnt k y (.returned (.bool true)) ∧ Below w.heap.size w wr) := (show _ ∧ _ from ⟨⟨true, rfl, fun _ => ⟨HCM.out.1, HCM.out.2.1, HCM.out.2.2, HAL.out⟩, fun _ => rfl⟩, B1.out.trans (hbr.mono B1.out.size)⟩)
      clear hbr
      go_wp2
      go_ret
      exact FI.out
end Go.Proofs.YtkgegihkhdgdoaaDoor

/- What is read of bytes as what is shown: more behind it; and there and back. -/
namespace Go.Proofs.YtkgegihkhdgdoaaDoor
set_option linter.unusedSimpArgs false
set_option linter.unusedVariables false
open Go.RowKit Go.Deep

theorem seenB_two (cnt : Int) (m : Nat) (y : Nat → Sp) : 2 ≤ (seenB cnt m y).length := by
  unfold seenB
  simp only [List.length_append, numB_length]
  omega
theorem sp_ext (s t : Sp) (h1 : s.at_ = t.at_) (h2 : s.pr = t.pr) (h3 : s.path = t.path) : s = t := by
  cases s; cases t; simp only at h1 h2 h3; subst h1; subst h2; subst h3; rfl
theorem spot_back (s : Sp) (hf : fitOne s) (hp : ∀ q ∈ s.path, isSum q) (hl : s.pr.1.length + s.pr.2.length ≤ 1000000) (r : List Int) : spotR (spotB s ++ r) false = s ∧ spotE (spotB s ++ r) false = (r, false) := by
  obtain ⟨f1, f2, f3, f4, f5⟩ := hf
  have hu : u64I s.at_ = s.at_ := u64I_id f1 f2
  obtain ⟨t5, ht5⟩ : ∃ t, t = flatTo (gP s) s.path.length ++ r := ⟨_, rfl⟩
  obtain ⟨t4, ht4⟩ : ∃ t, t = numB (s.path.length : Int) ++ t5 := ⟨_, rfl⟩
  obtain ⟨t3, ht3⟩ : ∃ t, t = blobB s.pr.2 ++ t4 := ⟨_, rfl⟩
  obtain ⟨t2, ht2⟩ : ∃ t, t = blobB s.pr.1 ++ t3 := ⟨_, rfl⟩
  have hb2 : flatTo (blobsB (prPs s.pr)) 2 = blobB s.pr.1 ++ blobB s.pr.2 := by simp [flatTo, blobsB, prPs]
  have h0 : spotB s ++ r = numB s.at_ ++ t2 := by
    unfold spotB
    rw [hu, hb2, ht2, ht3, ht4, ht5]
    simp only [List.append_assoc]
  rw [h0]
  have e1 : sp1 (numB s.at_ ++ t2) false = (s.at_, t2, false) := num_back s.at_ ⟨f1, by omega⟩ t2 _ f2
  have e2 : sp2 (numB s.at_ ++ t2) false = (s.pr.1, t3, false) := by unfold sp2; rw [e1, ht2]; exact part_back _ _ (by omega) _ (by omega)
  have e3 : sp3 (numB s.at_ ++ t2) false = (s.pr.2, t4, false) := by unfold sp3; rw [e2, ht3]; exact part_back _ _ (by omega) _ (by omega)
  have e4 : sp4 (numB s.at_ ++ t2) false = ((s.path.length : Int), t5, false) := by unfold sp4; rw [e3, ht4]; exact num_back _ ⟨by omega, by omega⟩ _ _ (by omega)
  have hg : ∀ i, i < s.path.length → (gP s i).length = 32 := fun i hi => by
    unfold gP; rw [List.getD_eq_getElem?_getD, List.getElem?_eq_getElem hi]; exact (hp _ (List.getElem_mem hi)).1
  obtain ⟨q, h1, h2, h3⟩ := sums_back (gP s) r s.path.length hg s.path.length (Nat.le_refl _)
  have hq : q = [] := List.append_cancel_left (show flatTo (gP s) s.path.length ++ q = flatTo (gP s) s.path.length ++ [] by rw [List.append_nil]; exact h1.symm)
  rw [hq, List.nil_append, ← ht5] at h2
  rw [← ht5] at h3
  refine ⟨sp_ext _ _ ?_ ?_ ?_, ?_⟩
  · show (sp1 _ _).1 = _; rw [e1]
  · show ((sp2 _ _).1, (sp3 _ _).1) = _; rw [e2, e3]
  · show sumsL (sp4 _ _).2.1 (sp4 _ _).2.2 (sp4 _ _).1.toNat = _
    rw [e4]
    simp only [Int.toNat_natCast]
    refine List.ext_getElem (sumsL_len _ _ _) fun i h4 h5 => ?_
    have : (sumsL t5 false s.path.length)[i] = sumsEl t5 false i := by simp [sumsL]
    rw [this, h3 i h5]
    unfold gP
    rw [List.getD_eq_getElem?_getD, List.getElem?_eq_getElem h5]
    rfl
  · show sp5 _ _ _ = _
    unfold sp5
    rw [e4]
    simp only [Int.toNat_natCast]
    exact h2
theorem spotE_bad1 {l : List Int} {b : Bool} (h : (sp1 l b).2.2 = true) : (spotE l b).2 = true := by
  have h2 : (sp2 l b).2.2 = true := by unfold sp2; rw [h]; rfl
  have h3 : (sp3 l b).2.2 = true := by unfold sp3; rw [h2]; rfl
  have h4 : (sp4 l b).2.2 = true := by unfold sp4; rw [h3]; rfl
  unfold spotE sp5; rw [h4, sumsSt_bad]
theorem spotE_bad2 {l : List Int} {b : Bool} (h2 : (sp2 l b).2.2 = true) : (spotE l b).2 = true := by
  have h3 : (sp3 l b).2.2 = true := by unfold sp3; rw [h2]; rfl
  have h4 : (sp4 l b).2.2 = true := by unfold sp4; rw [h3]; rfl
  unfold spotE sp5; rw [h4, sumsSt_bad]
theorem spotE_bad4 {l : List Int} {b : Bool} (h4 : (sp4 l b).2.2 = true) : (spotE l b).2 = true := by
  unfold spotE sp5; rw [h4, sumsSt_bad]
theorem spot_over (s : Sp) (hf : ¬ fitOne s) (hin : inI64 s.at_) (hl : s.pr.1.length + s.pr.2.length ≤ 1000000) (hpl : s.path.length ≤ 1000) (r : List Int) : (spotE (spotB s ++ r) false).2 = true := by
  have hui := u64I_in s.at_
  obtain ⟨t5, ht5⟩ : ∃ t, t = flatTo (gP s) s.path.length ++ r := ⟨_, rfl⟩
  obtain ⟨t4, ht4⟩ : ∃ t, t = numB (s.path.length : Int) ++ t5 := ⟨_, rfl⟩
  obtain ⟨t3, ht3⟩ : ∃ t, t = blobB s.pr.2 ++ t4 := ⟨_, rfl⟩
  obtain ⟨t2, ht2⟩ : ∃ t, t = blobB s.pr.1 ++ t3 := ⟨_, rfl⟩
  have hb2 : flatTo (blobsB (prPs s.pr)) 2 = blobB s.pr.1 ++ blobB s.pr.2 := by simp [flatTo, blobsB, prPs]
  have h0 : spotB s ++ r = numB (u64I s.at_) ++ t2 := by
    unfold spotB
    rw [hb2, ht2, ht3, ht4, ht5]
    simp only [List.append_assoc]
  rw [h0]
  by_cases c1 : 2147483647 < u64I s.at_
  · exact spotE_bad1 (num_over _ hui _ _ c1)
  have e1 : sp1 (numB (u64I s.at_) ++ t2) false = (u64I s.at_, t2, false) := num_back _ hui t2 _ (by omega)
  by_cases c2 : 256 < (s.pr.1.length : Int)
  · refine spotE_bad2 ?_
    unfold sp2; rw [e1, ht2]; exact part_over _ _ (by omega) _ c2
  have e2 : sp2 (numB (u64I s.at_) ++ t2) false = (s.pr.1, t3, false) := by unfold sp2; rw [e1, ht2]; exact part_back _ _ (by omega) _ (by omega)
  have e3 : sp3 (numB (u64I s.at_) ++ t2) false = (s.pr.2, t4, false) := by unfold sp3; rw [e2, ht3]; exact part_back _ _ (by omega) _ (by omega)
  by_cases c4 : 32 < (s.path.length : Int)
  · refine spotE_bad4 ?_
    unfold sp4; rw [e3, ht4]; exact num_over _ ⟨by omega, by omega⟩ _ _ c4
  · exfalso
    refine hf ⟨?_, ?_, by omega, by omega, by omega⟩
    · unfold inI64 at hin; unfold u64I at c1; omega
    · unfold inI64 at hin; unfold u64I at c1; omega
theorem flat_split (it : Nat → List Int) : ∀ n k, k < n → ∃ r, flatTo it n = flatTo it k ++ (it k ++ r)
  | 0, k, h => by omega
  | n + 1, k, h => by
    by_cases e : k = n
    · subst e; exact ⟨[], by rw [flatTo, List.append_nil]⟩
    · obtain ⟨r, hr⟩ := flat_split it n k (by omega)
      exact ⟨r ++ it n, by rw [flatTo, hr, List.append_assoc, List.append_assoc]⟩
theorem spotsSt_bad {l : List Int} {b : Bool} : ∀ d k, (spotsSt l b k).2 = true → (spotsSt l b (k + d)).2 = true
  | 0, k, h => h
  | d + 1, k, h => by
    have h1 := spotsSt_bad d k h
    show (spotE (spotsSt l b (k + d)).1 (spotsSt l b (k + d)).2).2 = true
    rw [h1]
    exact spotE_bad1 rfl
/-- spots that may be read: k of them are read, the rest is left. -/
theorem spots_back (y : Nat → Sp) (m : Nat) (r : List Int) (hp : ∀ i, i < m → ∀ q ∈ (y i).path, isSum q) (hl : ∀ i, i < m → (y i).pr.1.length + (y i).pr.2.length ≤ 1000000) : ∀ k, k ≤ m → (∀ i, i < k → fitOne (y i)) → ∃ q, flatTo (spsB y) m = flatTo (spsB y) k ++ q ∧ spotsSt (flatTo (spsB y) m ++ r) false k = (q ++ r, false) ∧ ∀ i, i < k → spotsEl (flatTo (spsB y) m ++ r) false i = y i
  | 0, _, _ => ⟨flatTo (spsB y) m, by rw [flatTo, List.nil_append], rfl, fun i hi => by omega⟩
  | k + 1, hk, hf => by
    obtain ⟨q, h1, h2, h3⟩ := spots_back y m r hp hl k (by omega) (fun i hi => hf i (by omega))
    obtain ⟨q', hq'⟩ := flat_split (spsB y) m k (by omega)
    rw [hq'] at h1
    have hq : q = spotB (y k) ++ q' := (List.append_cancel_left h1).symm
    obtain ⟨b1, b2⟩ := spot_back (y k) (hf k (by omega)) (hp k (by omega)) (hl k (by omega)) (q' ++ r)
    have e : (spotsSt (flatTo (spsB y) m ++ r) false k).1 = spotB (y k) ++ (q' ++ r) := by rw [h2, hq, List.append_assoc]
    have e' : (spotsSt (flatTo (spsB y) m ++ r) false k).2 = false := by rw [h2]
    refine ⟨q', by rw [hq', flatTo, List.append_assoc], ?_, fun i hi => ?_⟩
    · show spotE (spotsSt (flatTo (spsB y) m ++ r) false k).1 (spotsSt (flatTo (spsB y) m ++ r) false k).2 = _
      rw [e, e', b2]
    · by_cases hik : i < k
      · exact h3 i hik
      · obtain rfl : i = k := by omega
        show spotR (spotsSt (flatTo (spsB y) m ++ r) false i).1 (spotsSt (flatTo (spsB y) m ++ r) false i).2 = _
        rw [e, e', b1]
/-- WHAT WAS WRITTEN IS READ AS IT WAS, if it may be; else there is a fault. -/
theorem seen_back (cnt : Int) (m : Nat) (y : Nat → Sp) (r : List Int) (hm : m ≤ 10) (hin : inI64 cnt) (hp : ∀ i, i < m → ∀ q ∈ (y i).path, isSum q) (hl : ∀ i, i < m → (y i).pr.1.length + (y i).pr.2.length ≤ 1000000) (hy : ∀ i, i < m → inI64 (y i).at_ ∧ (y i).path.length ≤ 1000) :
    (fitS cnt m y ∧ (seE (seenB cnt m y ++ r)) = (r, false) ∧ seC (seenB cnt m y ++ r) = cnt ∧ seM (seenB cnt m y ++ r) = m ∧ ∀ i, i < m → seY (seenB cnt m y ++ r) i = y i) ∨
    (¬ fitS cnt m y ∧ (seE (seenB cnt m y ++ r)).2 = true) := by
  have hui := u64I_in cnt
  obtain ⟨t3, ht3⟩ : ∃ t, t = flatTo (spsB y) m ++ r := ⟨_, rfl⟩
  obtain ⟨t2, ht2⟩ : ∃ t, t = numB (m : Int) ++ t3 := ⟨_, rfl⟩
  have h0 : seenB cnt m y ++ r = numB (u64I cnt) ++ t2 := by
    unfold seenB; rw [ht2, ht3]; simp only [List.append_assoc]
  rw [h0]
  have bad2 : (se2 (numB (u64I cnt) ++ t2)).2.2 = true → (seE (numB (u64I cnt) ++ t2)).2 = true := fun h => by
    have := spotsSt_bad (l := (se2 (numB (u64I cnt) ++ t2)).2.1) (b := (se2 (numB (u64I cnt) ++ t2)).2.2) (seM (numB (u64I cnt) ++ t2)) 0 h
    rw [Nat.zero_add] at this
    exact this
  by_cases c1 : 2147483647 < u64I cnt
  · refine Or.inr ⟨fun hf => ?_, bad2 ?_⟩
    · obtain ⟨f1, f2, _⟩ := hf; unfold u64I at c1; omega
    · unfold se2 se1; rw [show (numR (numB (u64I cnt) ++ t2) false 2147483647).2.2 = true from num_over _ hui _ _ c1]; rfl
  have e1 : se1 (numB (u64I cnt) ++ t2) = (u64I cnt, t2, false) := num_back _ hui _ _ (by omega)
  have hc0 : 0 ≤ cnt ∧ cnt ≤ 2147483647 ∧ u64I cnt = cnt := by unfold inI64 at hin; unfold u64I at c1 ⊢; omega
  by_cases c2 : 2 < (m : Int)
  · refine Or.inr ⟨fun hf => ?_, bad2 ?_⟩
    · obtain ⟨f1, f2, f3, _⟩ := hf; omega
    · unfold se2; rw [e1, ht2]; exact num_over _ ⟨by omega, by omega⟩ _ _ c2
  have e2 : se2 (numB (u64I cnt) ++ t2) = ((m : Int), t3, false) := by unfold se2; rw [e1, ht2]; exact num_back _ ⟨by omega, by omega⟩ _ _ (by omega)
  have eM : seM (numB (u64I cnt) ++ t2) = m := by unfold seM; rw [e2]; simp only [Int.toNat_natCast]
  have eC : seC (numB (u64I cnt) ++ t2) = cnt := by unfold seC; rw [e1]; exact hc0.2.2
  by_cases c3 : ∀ i, i < m → fitOne (y i)
  · obtain ⟨q, h1, h2, h3⟩ := spots_back y m r hp hl m (Nat.le_refl _) c3
    have hq : q = [] := List.append_cancel_left (show flatTo (spsB y) m ++ q = flatTo (spsB y) m ++ [] by rw [List.append_nil]; exact h1.symm)
    refine Or.inl ⟨⟨hc0.1, hc0.2.1, by omega, c3⟩, ?_, eC, eM, fun i hi => ?_⟩
    · unfold seE seSt; rw [eM, e2, ht3]; simp only; rw [h2, hq, List.nil_append]
    · unfold seY; rw [e2, ht3]; exact h3 i hi
  · refine Or.inr ⟨fun hf => c3 hf.2.2.2, ?_⟩
    obtain ⟨j, hj, hbad, hfirst⟩ : ∃ j, j < m ∧ ¬ fitOne (y j) ∧ ∀ i, i < j → fitOne (y i) := by
      have : m = 0 ∨ m = 1 ∨ m = 2 := by omega
      rcases this with rfl | rfl | rfl
      · exact absurd (fun i hi => by omega) c3
      · refine ⟨0, by omega, fun h => c3 fun i hi => ?_, fun i hi => by omega⟩
        obtain rfl : i = 0 := by omega
        exact h
      · by_cases g : fitOne (y 0)
        · refine ⟨1, by omega, fun h => c3 fun i hi => ?_, fun i hi => ?_⟩
          · have : i = 0 ∨ i = 1 := by omega
            rcases this with rfl | rfl
            · exact g
            · exact h
          · obtain rfl : i = 0 := by omega
            exact g
        · exact ⟨0, by omega, g, fun i hi => by omega⟩
    obtain ⟨q, h1, h2, h3⟩ := spots_back y m r hp hl j (by omega) hfirst
    obtain ⟨q', hq'⟩ := flat_split (spsB y) m j hj
    rw [hq'] at h1
    have hq : q = spotB (y j) ++ q' := (List.append_cancel_left h1).symm
    have hb := spot_over (y j) hbad (hy j hj).1 (hl j hj) (hy j hj).2 (q' ++ r)
    have hj1 : (spotsSt t3 false (j + 1)).2 = true := by
      show (spotE (spotsSt t3 false j).1 (spotsSt t3 false j).2).2 = true
      rw [ht3, h2, hq, List.append_assoc]
      exact hb
    unfold seE seSt
    rw [eM, e2]
    simp only
    have := spotsSt_bad (m - (j + 1)) (j + 1) hj1
    rw [show j + 1 + (m - (j + 1)) = m by omega] at this
    exact this
end Go.Proofs.YtkgegihkhdgdoaaDoor

/- The document's writers. -/
namespace Go.Proofs.YtkgegihkhdgdoaaDoor
set_option linter.unusedSimpArgs false
set_option linter.unusedVariables false
open Go.RowKit Go.Deep

set_option maxHeartbeats 1000000 in
theorem rnums_any (l : List Int) (v u : Value) (n : Nat) (f : Nat → Int) (w : World) (hv : isBytes w v l) (hu : isRow w u n (fun i => .int .u64 (f i))) (hf : ∀ i, i < n → 0 ≤ f i ∧ f i < 18446744073709551616) (hs : l.length + 9 * n ≤ 1000000000000) :
    Calls Tryd.prog 55 #[v, u] w fun e w' => ∃ v', e = .returned v' ∧ newBytes w' w.heap.size v' (l ++ flatTo (numsB f) n) ∧ Below w.heap.size w w' := by
  obtain ⟨a, cap, rfl, hnm, hcell⟩ := hu.open
  clear hu
  have hlen := flatTo_len_le (numsB f) 9 (numsB_le f)
  obtain ⟨v1, w1, hr1, hn1, hb1⟩ := bytes_copy_run w v l hv (by omega)
  have HN : Hid _ := hn1
  have HB : Hid _ := hb1
  obtain ⟨va, vc, rfl, _⟩ := hv.slice
  clear hv hn1 hb1
  have q0 : (n : Int) ≤ 1000000000000 := by omega
  go_enter Tryd.func55, Tryd.ntmps55
  go_wp2_with (first | (at_builtin; refine wpList_append_run rfl (.tmp 7) (.tmp 8) _ rfl rfl rfl hr1 ?_))
  clear hr1
  go_loopw [5, 6] (fun z i wr => ∃ j : Nat, j ≤ n ∧ i = .int .i64 j ∧ newBytes wr w.heap.size z (l ++ flatTo (numsB f) j) ∧ Below w.heap.size w wr) (fun _ i _ => n - (intOf i).toNat)
  case atStart => exact ⟨0, by omega, rfl, by rw [flatTo, List.append_nil]; exact HN.out, HB.out⟩
  case round =>
    clear HN HB
    obtain ⟨j, hj, rfl, hn, hb⟩ := hrel
    by_cases hlt2 : j < n
    · obtain ⟨qb, qo, rfl, hq, hc⟩ := hcell j hlt2
      obtain ⟨f0, f1⟩ := hf j hlt2
      have b0 : (0 : Int) ≤ (j : Int) := by omega
      have b1 : (j : Int) < (n : Int) := by omega
      have hlj := hlen j
      rw [← hb.cell (p := ⟨qb, qo + j, none⟩) hq] at hc
      have hs0 := hb.size
      have HN : Hid _ := hn
      have HB : Hid _ := hb
      clear hn hb
      go_wp2_with fail
      refine (rnumber_any (f j) f0 f1 _).mono ?_
      rintro e w2 ⟨v2, rfl, hn2, hb2⟩
      have hn2' := newBytes.below HN.out hb2 (Nat.le_refl _)
      obtain ⟨v3, w3, hr3, hn3, hg3, _⟩ := bytes_append_run w2 w.heap.size u5 v2 _ (numB (f j)) hn2' hn2.is (by rw [List.length_append, numB_length]; have := szI_le (f j); omega) (by have := hb2.size; omega)
      have HN3 : Hid _ := hn3
      have HB3 : Hid _ := HB.out.trans ((hb2.mono hs0).trans (below_grown hg3 (fun q hq2 => (hn2'.block q hq2).1) (by have := hb2.size; omega)))
      clear hn2 hb2 hn3 hg3 hn2' HN HB
      go_wp2_with (first | (at_builtin; refine wpList_append_run rfl (.tmp 16) (.tmp 21) _ rfl rfl rfl hr3 ?_))
      go_light
      exact ⟨⟨j + 1, by omega, by go_num, by rw [flatTo, ← List.append_assoc]; exact HN3.out, HB3.out⟩, by simp [intOf]; omega⟩
    · obtain rfl : j = n := by omega
      have HN : Hid _ := hn
      clear hn
      go_wp2
      go_ret
      exact ⟨_, rfl, HN.out, hb⟩
theorem take_succ_getD (q : List Int) (k : Nat) (h : k < q.length) : q.take (k + 1) = q.take k ++ [q.getD k 0] := by
  rw [List.take_succ_eq_append_getElem h, List.getD_eq_getElem?_getD, List.getElem?_eq_getElem h]; rfl
set_option maxHeartbeats 1000000 in
theorem rsums_any (l : List Int) (v u : Value) (n : Nat) (g : Nat → List Int) (w : World) (hv : isBytes w v l) (hu : isSumsK w u n g) (hs : l.length + 32 * n ≤ 1000000000000) :
    Calls Tryd.prog 57 #[v, u] w fun e w' => ∃ v', e = .returned v' ∧ newBytes w' w.heap.size v' (l ++ flatTo g n) ∧ Below w.heap.size w w' := by
  obtain ⟨a, cap, rfl, hnm, hcell⟩ := hu.open
  have h32 := hu.1
  have hlen := flatTo_32 g n (fun i hi => (h32 i hi).1)
  clear hu
  obtain ⟨v1, w1, hr1, hn1, hb1⟩ := bytes_copy_run w v l hv (by omega)
  have HN : Hid _ := hn1
  have HB : Hid _ := hb1
  obtain ⟨va, vc, rfl, _⟩ := hv.slice
  clear hv hn1 hb1
  have q0 : (n : Int) ≤ 1000000000000 := by omega
  go_enter Tryd.func57, Tryd.ntmps57
  go_wp2_with (first | (at_builtin; refine wpList_append_run rfl (.tmp 8) (.tmp 9) _ rfl rfl rfl hr1 ?_))
  clear hr1
  go_loopw [5, 6] (fun z i wr => ∃ j : Nat, j ≤ n ∧ i = .int .i64 j ∧ newBytes wr w.heap.size z (l ++ flatTo g j) ∧ Below w.heap.size w wr) (fun _ i _ => n - (intOf i).toNat)
  case atStart => exact ⟨0, by omega, rfl, by rw [flatTo, List.append_nil]; exact HN.out, HB.out⟩
  case round =>
    clear HN HB
    obtain ⟨j, hj, rfl, hn, hb⟩ := hrel
    by_cases hlt2 : j < n
    · obtain ⟨qb, qo, rfl, hq, hc⟩ := hcell j hlt2
      obtain ⟨g1, g2⟩ := h32 j hlt2
      have b0 : (0 : Int) ≤ (j : Int) := by omega
      have b1 : (j : Int) < (n : Int) := by omega
      have hlj := hlen j (by omega)
      have HN : Hid _ := hn
      have HB : Hid _ := hb
      have HC : Hid _ := hc
      clear hn hb hc hcell h32 hlen
      go_wp2
      go_loopw [5, 7] (fun z i wq => ∃ k : Nat, k ≤ 32 ∧ i = .int .i64 k ∧ newBytes wq w.heap.size z (l ++ flatTo g j ++ (g j).take k) ∧ Below w.heap.size w wq) (fun _ i _ => 32 - (intOf i).toNat)
      case atStart => exact ⟨0, by omega, rfl, by rw [List.take_zero, List.append_nil]; exact HN.out, HB.out⟩
      case round =>
        clear HN HB
        obtain ⟨k, hk, rfl, hn, hb⟩ := hrel
        by_cases hlt3 : k < 32
        · have c0 : (0 : Int) ≤ (k : Int) := by omega
          have c1 : (k : Int) < 32 := by omega
          have e0 := (hb.cell (p := ⟨qb, qo + j * 32 + k, none⟩) hq).trans (HC.out k hlt3)
          unfold arrV at e0
          obtain ⟨v3, w3, hr3, hn3, hb3⟩ := byte_append_run _ w.heap.size u5 _ ((g j).getD k 0) (g2 k).1 (g2 k).2 hn (by rw [List.length_append, List.length_append, List.length_take]; omega) hb.size
          have HN3 : Hid _ := hn3
          have HB3 : Hid _ := hb.trans hb3
          have HT : Hid _ := take_succ_getD (g j) k (by omega)
          generalize (g j).getD k 0 = x at *
          clear hn hb hn3 hb3
          go_wp2_with (first | (at_builtin; refine wpList_append_run rfl (.tmp 21) (.tmp 28) _ rfl rfl rfl hr3 ?_))
          go_light
          exact ⟨⟨k + 1, by omega, by go_num, by rw [HT.out, ← List.append_assoc]; exact HN3.out, HB3.out⟩, by simp [intOf]; omega⟩
        · obtain rfl : k = 32 := by omega
          have HN : Hid _ := hn
          have HB : Hid _ := hb
          have HT : Hid _ := List.take_of_length_le (show (g j).length ≤ 32 by omega)
          clear hn hb
          go_wp2
          go_light
          exact ⟨⟨j + 1, by omega, by go_num, by rw [flatTo, ← List.append_assoc, ← HT.out]; exact HN.out, HB.out⟩, by simp [intOf]; omega⟩
    · obtain rfl : j = n := by omega
      have HN : Hid _ := hn
      clear hn hcell
      go_wp2
      go_ret
      exact ⟨_, rfl, HN.out, hb⟩
end Go.Proofs.YtkgegihkhdgdoaaDoor

/- The document's bytes of what is shown. -/
namespace Go.Proofs.YtkgegihkhdgdoaaDoor
set_option linter.unusedSimpArgs false
set_option linter.unusedVariables false
open Go.RowKit Go.Deep

set_option maxHeartbeats 8000000 in
set_option maxRecDepth 100000 in
theorem rbytesS_any (cnt : Int) (m : Nat) (sv : Value) (y : Nat → Sp) (w : World) (hp : spotsAt w sv m y) (hm : m ≤ 10) (hx : ∀ i, i < m → (y i).pr.1.length + (y i).pr.2.length ≤ 1000000 ∧ (y i).path.length ≤ 1000) :
    Calls Tryd.prog 25 #[.agg #[.int .i64 cnt, sv]] w fun e w' => ∃ v, e = .returned v ∧ newBytes w' w.heap.size v (seenB cnt m y) ∧ Below w.heap.size w w' := by
  have hzsp := zero_sp
  obtain ⟨a, cap, hsv, hmc, hcm, _⟩ := (id hp : spotsAt w sv m y)
  have hmm : (m : Int) ≤ 10 := by omega
  have hm0 : (0 : Int) ≤ (m : Int) := by omega
  subst hsv
  obtain ⟨w1, hw1⟩ : ∃ w1, w1 = w.alloc (.cells #[.int .i64 cnt, .slice a m cap] 29) := ⟨_, rfl⟩
  have b1 : Below w.heap.size w w1 := by rw [hw1]; exact (Below.refl _ _).alloc (Nat.le_refl _) _
  have hbk : w1.heap[w.heap.size]? = some (.cells #[.int .i64 cnt, .slice a m cap] 29) := by rw [hw1, blk_alloc_new]
  obtain ⟨bs, hbs⟩ : ∃ bs, bs = w.heap.size := ⟨_, rfl⟩
  rw [← hbs] at hbk
  have c0 : w1.cell? ⟨bs, 0, none⟩ = some (.int .i64 cnt) := by rw [cell_of_row _ _ _ _ _ _ hbk]; rfl
  have c1 : w1.cell? ⟨bs, 1, none⟩ = some (.slice a m cap) := by rw [cell_of_row _ _ _ _ _ _ hbk]; rfl
  obtain ⟨x, hxe⟩ : ∃ x, x = u64I cnt := ⟨_, rfl⟩
  have hw : IntKind.wrap .u64 cnt = x := by rw [hxe]; exact wrap_u64I _
  have hwm : IntKind.wrap .u64 (m : Int) = (m : Int) := wrapU63 _ hm0 (by omega)
  have hxi : 0 ≤ x ∧ x < 18446744073709551616 := by rw [hxe]; exact u64I_in _
  have HXE : Hid (x = u64I cnt) := hxe
  obtain ⟨w2, hw2⟩ : ∃ w2, w2 = w1.alloc (.cells #[.int .u64 x, .int .u64 (m : Int)] 94) := ⟨_, rfl⟩
  have b2 : Below w1.heap.size w1 w2 := by rw [hw2]; exact (Below.refl _ _).alloc (Nat.le_refl _) _
  have X1 := rnums_any [] (.slice none 0 0) (.slice (some ⟨w1.heap.size, 0, none⟩) 2 2) 2 (twoN x (m : Int)) w2 (Or.inl ⟨rfl, rfl⟩) (by rw [hw2]; exact row_u64s w1 x _) (fun i hi => by
    unfold twoN; split
    · exact hxi
    · omega) (Nat.le_trans (show ([] : List Int).length + 9 * 2 ≤ 18 from Nat.le_refl 18) (by decide))
  rw [List.nil_append, show flatTo (numsB (twoN x (m : Int))) 2 = numB x ++ numB (m : Int) by simp [flatTo, numsB, twoN]] at X1
  have H12 : Hid (Below w.heap.size w w1 ∧ Below w1.heap.size w1 w2) := (show _ ∧ _ from ⟨b1, b2⟩)
  have HP : Hid (spotsAt w1 (.slice a m cap) m y ∧ (∀ i, i < m → (y i).pr.1.length + (y i).pr.2.length ≤ 1000000 ∧ (y i).path.length ≤ 1000) ∧ m ≤ 10) := (show _ ∧ _ ∧ _ from ⟨hp.below b1 (Nat.le_refl _), hx, hm⟩)
  have C1 : Hid (∀ wz, Below w1.heap.size w1 wz → wz.cell? ⟨bs, 1, none⟩ = some (.slice a m cap)) := (show _ from fun wz hz => (hz.cell (p := ⟨bs, 1, none⟩) (block_lt_of_cell c1)).trans c1)
  clear hp hx hmc hcm b1 b2 hbk hxe
  go_enter Tryd.func25, Tryd.ntmps25
  go_upto_region 1 with fail
  rw [← hw1, ← hbs]
  clear hw1 hbs
  go_wp2_with fail
  rw [← hw2]
  clear hw2
  refine X1.mono ?_
  rintro e w3 ⟨v3, rfl, n3, b3⟩
  clear X1
  obtain ⟨l3, hl3⟩ : ∃ l3, l3 = numB x ++ numB (m : Int) := ⟨_, rfl⟩
  rw [← hl3] at n3
  have HL3 : Hid (l3 = numB x ++ numB (m : Int) ∧ l3.length ≤ 100) := (show _ ∧ _ from ⟨hl3, by
    rw [hl3, List.length_append]
    have e1 := numB_le x
    have e2 := numB_le (m : Int)
    omega⟩)
  have N3 : Hid (newBytes w3 w1.heap.size v3 l3 ∧ Below w1.heap.size w1 w3) := (show _ ∧ _ from ⟨n3.mono H12.out.2.size, H12.out.2.trans (b3.mono H12.out.2.size)⟩)
  clear n3 b3 hl3 c0 c1 hw hwm
  go_wp2_with fail
  go_loopw [3, 4] (fun vv i wr => ∃ (k : Nat) (L : List Int) (va : Option Addr) (vc : Nat), k ≤ m ∧ L = l3 ++ flatTo (spsB y) k ∧ vv = .slice va L.length vc ∧ i = .int .i64 (k : Int) ∧ newBytes wr w1.heap.size (.slice va L.length vc) L ∧ Below w1.heap.size w1 wr) (fun _ i _ => m - (intOf i).toNat)
  case atStart =>
    obtain ⟨va, vc, rfl⟩ := N3.out.1.slen
    exact ⟨0, l3, va, vc, by omega, by rw [flatTo, List.append_nil], rfl, rfl, N3.out.1, N3.out.2⟩
  case round =>
    obtain ⟨k, L, va, vc, hkm, hL, rfl, rfl, hn, hbr⟩ := hrel
    have p0 : (0 : Int) ≤ (k : Int) := by omega
    have HL : Hid (L = l3 ++ flatTo (spsB y) k) := hL
    have HN : Hid (newBytes wr w1.heap.size (.slice va L.length vc) L) := (show _ from hn)
    have HBR : Hid (Below w1.heap.size w1 wr) := (show _ from hbr)
    have c1 := C1.out wr hbr
    clear hn hL
    by_cases hlt : k < m
    · have p1 : (k : Int) < (m : Int) := by omega
      have HLn : Hid (L.length ≤ 20000100) := (show L.length ≤ 20000100 from by
        have e1 := flatTo_most (spsB y) 2000000 k (fun i hi => spotB_le (y i) (HP.out.2.1 i (by omega)).1 (HP.out.2.1 i (by omega)).2 (by
          obtain ⟨g2, o2, _, _, _, hc⟩ := HP.out.1.at (by omega)
          obtain ⟨_, _, _, _, _, _, _, H⟩ := hc i (by omega)
          exact (H w1 (Below.refl _ _)).2.2.2.2.2.2.1))
        have e2 := HL3.out.2
        have e4 := HP.out.2.2
        rw [HL.out, List.length_append]; omega)
      obtain ⟨g, o, cap', e, hg, hcell⟩ := HP.out.1.at (by omega)
      injection e with e1 e2 e3
      subst e1
      subst e3
      obtain ⟨ka, kcap, va2, vcap2, pa, pcap, hin, H⟩ := hcell k hlt
      have hc4 : ∀ i, i < 4 → wr.cell? ⟨g, o + k * 4 + i, none⟩ = some (spG (y k).at_ (.slice ka (y k).pr.1.length kcap) (.slice va2 (y k).pr.2.length vcap2) (.slice pa (y k).path.length pcap) i) := fun i hi => by
        obtain ⟨q0, q1, q2, q3, _⟩ := H wr hbr
        have : i = 0 ∨ i = 1 ∨ i = 2 ∨ i = 3 := by omega
        rcases this with rfl | rfl | rfl | rfl
        · exact q0
        · exact q1
        · exact q2
        · exact q3
      obtain ⟨wq, hwq⟩ : ∃ wq, wq = wr.alloc (.cells (rowV 4 spZ) 41) := ⟨_, rfl⟩
      have bq : Below wr.heap.size wr wq := by rw [hwq]; exact (Below.refl _ _).alloc (Nat.le_refl _) _
      have rq : wq.rowIs wr.heap.size 41 4 spZ := by rw [hwq]; exact rowIs_box _ _ _ _
      have RQ : Hid (wq.rowIs wr.heap.size 41 4 spZ ∧ Below wr.heap.size wr wq) := (show _ ∧ _ from ⟨rq, bq⟩)
      have HF : Hid (∀ wz, Below w1.heap.size w1 wz → anyBytes wz (.slice ka (y k).pr.1.length kcap) (y k).pr.1 ∧ anyBytes wz (.slice va2 (y k).pr.2.length vcap2) (y k).pr.2 ∧ sumsAt wz (.slice pa (y k).path.length pcap) (y k).path) := (show _ from fun wz hz => (H wz hz).2.2.2.2)
      clear hcell H hbr bq rq hg hin
      go_upto_region 6 with (first | (refine wpList_load_seg rfl 41 _ rfl g (o + k * 4) 4 (spG (y k).at_ (.slice ka (y k).pr.1.length kcap) (.slice va2 (y k).pr.2.length vcap2) (.slice pa (y k).path.length pcap)) rfl _ Tryd.underlying41 rfl hiSp hc4 ?_) | (rw [← hwq]; clear hwq; refine wpList_store_row rfl 41 _ _ rfl rfl wr.heap.size 0 4 (spG (y k).at_ (.slice ka (y k).pr.1.length kcap) (.slice va2 (y k).pr.2.length vcap2) (.slice pa (y k).path.length pcap)) rfl rfl hiSp (spG_one _ _ _ _ _ _ _ _ _ _) _ _ _ RQ.out.1 (by omega) ?_; intro w5 r5 z5 b5))
      have r5' : w5.rowIs wr.heap.size 41 4 (spG (y k).at_ (.slice ka (y k).pr.1.length kcap) (.slice va2 (y k).pr.2.length vcap2) (.slice pa (y k).path.length pcap)) := r5.congr (fun i hi => by rw [if_pos (by omega), Nat.sub_zero])
      have bw5 : Below wr.heap.size wr w5 := RQ.out.2.trans (b5.below' (Nat.le_refl _) RQ.out.2.size)
      obtain ⟨b5, hb5⟩ : ∃ b5, b5 = wr.heap.size := ⟨_, rfl⟩
      rw [← hb5] at r5' ⊢
      have FACT : Hid (∀ wz, Below w5.heap.size w5 wz → Below w1.heap.size w1 wz ∧ wz.cell? ⟨b5, 0, none⟩ = some (.int .i64 (y k).at_) ∧ wz.cell? ⟨b5, 1, none⟩ = some (.slice ka (y k).pr.1.length kcap) ∧ wz.cell? ⟨b5, 2, none⟩ = some (.slice va2 (y k).pr.2.length vcap2) ∧ wz.cell? ⟨b5, 3, none⟩ = some (.slice pa (y k).path.length pcap)) := (show _ from fun wz hz => by
        have r := hz.row r5' r5'.lt
        exact ⟨HBR.out.trans ((bw5.trans (hz.mono bw5.size)).mono HBR.out.size), r.cell (i := 0) (by omega), r.cell (i := 1) (by omega), r.cell (i := 2) (by omega), r.cell (i := 3) (by omega)⟩)
      obtain ⟨s, hs⟩ : ∃ s, s = y k := ⟨_, rfl⟩
      have HS : Hid (s = y k ∧ s.pr.1.length + s.pr.2.length ≤ 1000000 ∧ s.path.length ≤ 1000 ∧ Below wr.heap.size wr w5) := (show _ ∧ _ ∧ _ ∧ _ from ⟨hs, by rw [hs]; exact (HP.out.2.1 k hlt).1, by rw [hs]; exact (HP.out.2.1 k hlt).2, bw5⟩)
      rw [← hs] at FACT HF hc4
      clear hs r5 r5' z5 bw5 hc4 hb5
      obtain ⟨xs, hxs⟩ : ∃ z, z = u64I s.at_ := ⟨_, rfl⟩
      have hws : IntKind.wrap .u64 s.at_ = xs := by rw [hxs]; exact wrap_u64I _
      have hxsi : 0 ≤ xs ∧ xs < 18446744073709551616 := by rw [hxs]; exact u64I_in _
      have HXS : Hid (xs = u64I s.at_) := hxs
      have hwp : IntKind.wrap .u64 (s.path.length : Int) = (s.path.length : Int) := wrapU63 _ (by omega) (by have := HS.out.2.2.1; omega)
      obtain ⟨w6, hw6⟩ : ∃ w6, w6 = w5.alloc (.cells #[.int .u64 xs] 94) := ⟨_, rfl⟩
      have b6 : Below w5.heap.size w5 w6 := by rw [hw6]; exact (Below.refl _ _).alloc (Nat.le_refl _) _
      have bw6 : Below wr.heap.size wr w6 := HS.out.2.2.2.trans (b6.mono HS.out.2.2.2.size)
      have Y1 := rnums_any L (.slice va L.length vc) (.slice (some ⟨w5.heap.size, 0, none⟩) 1 1) 1 (fun _ => xs) w6 (HN.out.is.below bw6 (Nat.le_refl _)) (by rw [hw6]; exact row_u64 w5 xs) (fun i hi => hxsi) (by have := HLn.out; omega)
      rw [show L ++ flatTo (numsB fun _ => xs) 1 = L ++ numB xs by simp [flatTo, numsB]] at Y1
      have B6 : Hid (Below w5.heap.size w5 w6) := (show _ from b6)
      obtain ⟨_, d0, _⟩ := FACT.out w5 (Below.refl _ _)
      clear hxs b6 bw6 c1
      go_wp2_with fail
      rw [← hw6]
      clear hw6
      refine Y1.mono ?_
      rintro e w7 ⟨v7, rfl, n7, b7⟩
      clear Y1 d0
      obtain ⟨L7, hL7⟩ : ∃ L7, L7 = L ++ numB xs := ⟨_, rfl⟩
      rw [← hL7] at n7
      have HL7 : Hid (L7 = L ++ numB xs ∧ L7.length ≤ 20000200) := (show _ ∧ _ from ⟨hL7, by rw [hL7, List.length_append]; have e1 := numB_le xs; have := HLn.out; omega⟩)
      obtain ⟨na, nc, rfl⟩ := n7.slen
      have b57 : Below w5.heap.size w5 w7 := B6.out.trans (b7.mono B6.out.size)
      obtain ⟨f7, _, c1, c2, _⟩ := FACT.out w7 b57
      obtain ⟨ak, av, _⟩ := HF.out w7 f7
      obtain ⟨w8, hw8⟩ : ∃ w8, w8 = w7.alloc (.cells #[.slice ka s.pr.1.length kcap, .slice va2 s.pr.2.length vcap2] 23) := ⟨_, rfl⟩
      have b8 : Below w7.heap.size w7 w8 := by rw [hw8]; exact (Below.refl _ _).alloc (Nat.le_refl _) _
      have hp8 : isParts w8 (.slice (some ⟨w7.heap.size, 0, none⟩) 2 2) 2 (prPs s.pr) := by rw [hw8]; exact parts_two w7 _ _ s.pr ak av
      have Y2 := rblobs_any L7 (.slice na L7.length nc) _ 2 (prPs s.pr) w8 (n7.is.below b8 (Nat.le_refl _)) hp8.any (fun i hi => by
        have e1 := HL7.out.2
        have e3 := prPs_light s.pr HS.out.2.1 i hi
        omega)
      have B8 : Hid (Below w5.heap.size w5 w8) := (show _ from b57.trans (b8.mono b57.size))
      clear n7 b7 b57 f7 ak av b8 hp8 hL7 hws hxsi
      go_wp2_with fail
      rw [← hw8]
      clear hw8 c1 c2
      refine Y2.mono ?_
      rintro e w9 ⟨v9, rfl, n9, b9⟩
      clear Y2
      obtain ⟨L9, hL9⟩ : ∃ L9, L9 = L7 ++ flatTo (blobsB (prPs s.pr)) 2 := ⟨_, rfl⟩
      rw [← hL9] at n9
      have HL9 : Hid (L9 = L7 ++ flatTo (blobsB (prPs s.pr)) 2 ∧ L9.length ≤ 200000000) := (show _ ∧ _ from ⟨hL9, by rw [hL9, List.length_append]; have e3 := prPs_light s.pr HS.out.2.1 2 (Nat.le_refl _); have := HL7.out.2; omega⟩)
      obtain ⟨ma, mc, rfl⟩ := n9.slen
      have b59 : Below w5.heap.size w5 w9 := B8.out.trans (b9.mono B8.out.size)
      obtain ⟨f9, _, _, _, c3⟩ := FACT.out w9 b59
      obtain ⟨w10, hw10⟩ : ∃ w10, w10 = w9.alloc (.cells #[.int .u64 (s.path.length : Int)] 94) := ⟨_, rfl⟩
      have b10 : Below w9.heap.size w9 w10 := by rw [hw10]; exact (Below.refl _ _).alloc (Nat.le_refl _) _
      have Y3 := rnums_any L9 (.slice ma L9.length mc) (.slice (some ⟨w9.heap.size, 0, none⟩) 1 1) 1 (fun _ => (s.path.length : Int)) w10 (n9.is.below b10 (Nat.le_refl _)) (by rw [hw10]; exact row_u64 w9 _) (fun i hi => ⟨by omega, by have := HS.out.2.2.1; omega⟩) (by have := HL9.out.2; omega)
      rw [show L9 ++ flatTo (numsB fun _ => (s.path.length : Int)) 1 = L9 ++ numB (s.path.length : Int) by simp [flatTo, numsB]] at Y3
      have B10 : Hid (Below w5.heap.size w5 w10) := (show _ from b59.trans (b10.mono b59.size))
      clear n9 b9 b59 f9 b10 hL9
      go_wp2_with fail
      rw [← hw10]
      clear hw10 c3
      refine Y3.mono ?_
      rintro e w11 ⟨v11, rfl, n11, b11⟩
      clear Y3
      obtain ⟨L11, hL11⟩ : ∃ L11, L11 = L9 ++ numB (s.path.length : Int) := ⟨_, rfl⟩
      rw [← hL11] at n11
      have HL11 : Hid (L11 = L9 ++ numB (s.path.length : Int) ∧ L11.length ≤ 200000100) := (show _ ∧ _ from ⟨hL11, by rw [hL11, List.length_append]; have e3 := numB_le (s.path.length : Int); have := HL9.out.2; omega⟩)
      obtain ⟨qa, qc, rfl⟩ := n11.slen
      have b511 : Below w5.heap.size w5 w11 := B10.out.trans (b11.mono B10.out.size)
      obtain ⟨f11, _, _, _, c3⟩ := FACT.out w11 b511
      obtain ⟨_, _, has⟩ := HF.out w11 f11
      have Y4 := rsums_any L11 (.slice qa L11.length qc) (.slice pa s.path.length pcap) s.path.length (gP s) w11 n11.is (sums_is has) (by
        have e5 := HL11.out.2
        have e6 := HS.out.2.2.1
        omega)
      have B11 : Hid (Below w1.heap.size w1 w11) := (show _ from f11)
      clear n11 b11 b511 f11 has hL11 hwp
      go_wp2_with fail
      refine Y4.mono ?_
      rintro e w13 ⟨v13, rfl, n13, b13⟩
      clear Y4
      obtain ⟨ra, rc, rfl⟩ := n13.slen
      have FI : Hid (Below w1.heap.size w1 w13 ∧ newBytes w13 w1.heap.size (.slice ra (L11 ++ flatTo (gP s) s.path.length).length rc) (L11 ++ flatTo (gP s) s.path.length)) := (show _ ∧ _ from ⟨B11.out.trans (b13.mono B11.out.size), n13.mono B11.out.size⟩)
      have FE : Hid (L11 ++ flatTo (gP s) s.path.length = l3 ++ flatTo (spsB y) (k + 1)) := (show L11 ++ flatTo (gP s) s.path.length = l3 ++ flatTo (spsB y) (k + 1) from by
        rw [HL11.out.1, HL9.out.1, HL7.out.1, HL.out, show flatTo (spsB y) (k + 1) = flatTo (spsB y) k ++ spsB y k from rfl]
        have e : spsB y k = spotB s := by rw [HS.out.1]; rfl
        rw [e]
        unfold spotB
        rw [HXS.out]
        simp only [List.append_assoc])
      generalize L11 ++ flatTo (gP s) s.path.length = L13 at FI FE ⊢
      clear n13 b13 c3
      go_wp2_with fail
      go_light
      exact ⟨⟨k + 1, L13, ra, rc, by omega, FE.out, rfl, by go_num, FI.out.2, FI.out.1⟩, by simp [intOf]; omega⟩
    · obtain rfl : k = m := by omega
      have p1 : ¬ (k : Int) < (k : Int) := by omega
      have FI : Hid (newBytes wr w.heap.size (.slice va L.length vc) (seenB cnt k y) ∧ Below w.heap.size w wr) := (show _ ∧ _ from ⟨by
        have e : seenB cnt k y = L := by rw [HL.out, HL3.out.1, HXE.out]; unfold seenB; simp only [List.append_assoc]
        rw [e]; exact HN.out.mono H12.out.1.size, H12.out.1.trans (hbr.mono H12.out.1.size)⟩)
      clear hbr
      go_wp2
      go_ret
      exact ⟨_, rfl, FI.out.1, FI.out.2⟩
end Go.Proofs.YtkgegihkhdgdoaaDoor
