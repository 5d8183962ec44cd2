import Derived.Lib.SlBytesConst
import Derived.Test.YtkgegihkhdgdoaaDoorOwn1
import Derived.Test.YtkgegihkhdgdoaaDoorOwn3
import Derived.Test.YtkgegihkhdgdoaaDoorOwn4
import Derived.Test.YtkgegihkhdgdoaaDoorOwn5
import Derived.Test.YtkgegihkhdgdoaaDoorOwn6
import Derived.Test.YtkgegihkhdgdoaaDoorOwn7
set_option linter.unusedVariables false
set_option linter.unusedSimpArgs false
/- keyed.cutSpot. -/
namespace Go.Proofs.YtkgegihkhdgdoaaDoor
set_option linter.unusedSimpArgs false
set_option linter.unusedVariables false
open Go.RowKit Go.Deep

theorem build_sp1 (n : Int) (w : World) : (Instr.build 41 #[(0, .int .i64 n)]).run Tryd.prog w = .ok (.agg (rowV 4 (spG n (.slice none 0 0) (.slice none 0 0) (.slice none 0 0)))) w := by
  show (_ : Result Value) = _
  kernel_rfl
theorem But.later {c : Nat} {w v z : World} (h : But w.heap.size c w v) (hz : But v.heap.size c v z) : But w.heap.size c w z := h.trans (hz.mono h.size)
theorem But.box {c b : Nat} {w v z : World} (h : But w.heap.size c w v) (hz : But v.heap.size b v z) (hb : w.heap.size ≤ b) : But w.heap.size c w z := h.trans (But.of_below ((hz.mono h.size).below hb) c)
/-- the loop of cutSpot: box b3 holds the spot so far. -/
def cspL (w w7 : World) (S : Nat → Prop) (c b3 : Nat) (kc vc : Value) (l : List Int) (b : Bool) (q : Nat) (wr : World) : Prop :=
  But w.heap.size c w wr ∧ (w7.heap.size ≤ wr.heap.size ∧ ∀ j, j < w7.heap.size → j ≠ c → j ≠ b3 → wr.heap[j]? = w7.heap[j]?) ∧ cutS wr S c (sp5 l b q).1 (sp5 l b q).2 ∧
    ∃ pa pc, wr.rowIs b3 41 4 (spG (sp1 l b).1 kc vc (.slice pa q pc)) ∧ newSums wr w7.heap.size (.slice pa q pc) (sumsL (sp4 l b).2.1 (sp4 l b).2.2 q)
set_option maxHeartbeats 8000000 in
set_option maxRecDepth 100000 in
theorem cutspot_s (c : Nat) (S : Nat → Prop) (l : List Int) (b : Bool) (w : World) (h : cutS w S c l b) (hS : ∀ k, S k → k < w.heap.size) (hl : l.length ≤ 1000000) :
    Calls Tryd.prog 84 #[.pointer (some ⟨c, 0, none⟩)] w fun e w' => ∃ kc vc pc, e = .returned (.agg (rowV 4 (spG (sp1 l b).1 kc vc pc))) ∧ newBytes w' w.heap.size kc (sp2 l b).1 ∧ newBytes w' w.heap.size vc (sp3 l b).1 ∧ newSums w' w.heap.size pc (spotR l b).path ∧ cutS w' S c (spotE l b).1 (spotE l b).2 ∧ But w.heap.size c w w' := by
  have hzsp := zero_sp
  have hbs := build_sp1
  have hby : byL l := h.byte
  have hc := h.lt
  obtain ⟨x1i, x1j⟩ := sp1_in (b := b) hby
  obtain ⟨x4i, x4j⟩ := sp4_in (b := b) hby
  obtain ⟨x1, hx1⟩ : ∃ x, x = (sp1 l b).1 := ⟨_, rfl⟩
  obtain ⟨n4, hn4⟩ : ∃ n : Nat, n = (sp4 l b).1.toNat := ⟨_, rfl⟩
  have e4 : (sp4 l b).1 = (n4 : Int) := by omega
  have HE : Hid ((sp4 l b).1 = (n4 : Int) ∧ x1 = (sp1 l b).1 ∧ n4 = (sp4 l b).1.toNat ∧ n4 ≤ 32) := (show _ from ⟨e4, hx1, hn4, by omega⟩)
  have hwi : IntKind.wrap .i64 x1 = x1 := IntWalk.i64_in _ ⟨by omega, by omega⟩
  have k1i : 0 ≤ x1 := by omega
  have k1j : x1 ≤ 2147483647 := by omega
  have n4i : (n4 : Int) ≤ 32 := by omega
  have n40 : (0 : Int) ≤ (n4 : Int) := by omega
  obtain ⟨w1, hw1⟩ : ∃ w1, w1 = w.alloc (.cells (rowV 4 spZ) 41) := ⟨_, rfl⟩
  have b1 : Below w.heap.size w w1 := by rw [hw1]; exact (Below.refl _ _).alloc (Nat.le_refl _) _
  have r1 : w1.rowIs w.heap.size 41 4 spZ := by rw [hw1]; exact rowIs_box _ _ _ _
  have X1 : Calls Tryd.prog 83 #[.pointer (some ⟨c, 0, none⟩), .int .u64 2147483647] w1 fun e w' => e = .returned (.int .u64 x1) ∧ cutS w' S c (sp1 l b).2.1 (sp1 l b).2.2 ∧ But w1.heap.size c w1 w' := by
    rw [hx1]; exact cnum_s c S l b 2147483647 (by omega) w1 (h.below b1 (Nat.le_refl _))
  have H0 : Hid (Below w.heap.size w w1 ∧ w1.rowIs w.heap.size 41 4 spZ ∧ c < w.heap.size ∧ (∀ k, S k → k < w.heap.size) ∧ byL l ∧ l.length ≤ 1000000) := (show _ from ⟨b1, r1, hc, hS, hby, hl⟩)
  clear h hS hl hby hc hx1 hn4 e4 x1i x1j x4i x4j b1 r1
  go_enter Tryd.func84, Tryd.ntmps84
  go_upto_region 1 with fail
  rw [← hw1]
  clear hw1
  go_wp2_with fail
  refine X1.mono ?_
  rintro e w2 ⟨rfl, c2, b2⟩
  clear X1
  have B2 : Hid (But w.heap.size c w w2 ∧ w2.rowIs w.heap.size 41 4 spZ ∧ cutS w2 S c (sp1 l b).2.1 (sp1 l b).2.2) := (show _ from by
    obtain ⟨g1, g2, g3, g4, g5, g6⟩ := H0.out
    exact ⟨(But.of_below g1 c).trans (b2.mono g1.size), World.rowIs.of_block g2 (b2.block _ g2.lt (by omega)), c2⟩)
  clear c2 b2
  obtain ⟨wq, hwq⟩ : ∃ wq, wq = w2.alloc (.cells (rowV 4 spZ) 41) := ⟨_, rfl⟩
  have bq : Below w2.heap.size w2 wq := by rw [hwq]; exact (Below.refl _ _).alloc (Nat.le_refl _) _
  have rq : wq.rowIs w2.heap.size 41 4 spZ := by rw [hwq]; exact rowIs_box _ _ _ _
  have RQ : Hid (wq.rowIs w2.heap.size 41 4 spZ ∧ Below w2.heap.size w2 wq) := (show _ ∧ _ from ⟨rq, bq⟩)
  clear rq bq
  go_upto_region 2 with (first | (rw [← hwq]; clear hwq; refine wpList_store_row rfl 41 _ _ rfl rfl w2.heap.size 0 4 (spG x1 (.slice none 0 0) (.slice none 0 0) (.slice none 0 0)) rfl rfl hiSp (spG_one _ _ _ _ _ _ _ _ _ _) _ _ _ RQ.out.1 (by omega) ?_; intro w4 r4 z4 b4))
  have r4' : w4.rowIs w2.heap.size 41 4 (spG x1 (.slice none 0 0) (.slice none 0 0) (.slice none 0 0)) := r4.congr (fun i hi => by rw [if_pos (by omega), Nat.sub_zero])
  obtain ⟨b3, hb3⟩ : ∃ b3, b3 = w2.heap.size := ⟨_, rfl⟩
  rw [← hb3] at r4' b4 ⊢
  have B4 : Hid (But w.heap.size c w w4 ∧ w4.rowIs w.heap.size 41 4 spZ ∧ cutS w4 S c (sp1 l b).2.1 (sp1 l b).2.2 ∧ w.heap.size < b3 ∧ b3 < w4.heap.size ∧ w4.rowIs b3 41 4 (spG x1 (.slice none 0 0) (.slice none 0 0) (.slice none 0 0))) := (show _ from by
    obtain ⟨g1, g2, g3, g4, g5, g6⟩ := H0.out
    obtain ⟨p1, p2, p3⟩ := B2.out
    obtain ⟨q1, q2⟩ := RQ.out
    have s1 := p2.lt
    have s2 := q1.lt
    have bw : But w.heap.size c w wq := p1.trans (But.of_below (q2.mono p1.size) c)
    refine ⟨bw.box b4 (by omega), World.rowIs.of_block (q2.row p2 p2.lt) (b4.block _ (by omega) (by omega)), (p3.below q2 (Nat.le_refl _)).far (fun k hk hs => b4.block k hk (by have := g4 k hs; omega)) b4.size, by omega, by have := b4.size; omega, r4'⟩)
  clear r4 r4' z4 b4 B2 RQ hb3
  have X2 : Calls Tryd.prog 100 #[.pointer (some ⟨c, 0, none⟩), .int .i64 256] w4 fun e w' => ∃ v, e = .returned v ∧ newBytes w' w4.heap.size v (sp2 l b).1 ∧ cutS w' S c (sp2 l b).2.1 (sp2 l b).2.2 ∧ But w4.heap.size c w4 w' :=
    cblob_s c S (sp1 l b).2.1 (sp1 l b).2.2 256 (by omega) w4 B4.out.2.2.1 (by have := sp1_le l b; have := H0.out.2.2.2.2.2; omega)
  go_wp2_with fail
  refine X2.mono ?_
  rintro e w5 ⟨kc, rfl, n5, c5, b5⟩
  clear X2
  have X3 : Calls Tryd.prog 100 #[.pointer (some ⟨c, 0, none⟩), .int .i64 1048576] w5 fun e w' => ∃ v, e = .returned v ∧ newBytes w' w5.heap.size v (sp3 l b).1 ∧ cutS w' S c (sp3 l b).2.1 (sp3 l b).2.2 ∧ But w5.heap.size c w5 w' :=
    cblob_s c S (sp2 l b).2.1 (sp2 l b).2.2 1048576 (by omega) w5 c5 (by have := sp2_le l b; have := H0.out.2.2.2.2.2; omega)
  obtain ⟨ka, kcap, rfl⟩ := n5.slen
  have N5 : Hid (newBytes w5 w4.heap.size (.slice ka (sp2 l b).1.length kcap) (sp2 l b).1 ∧ But w4.heap.size c w4 w5) := (show _ ∧ _ from ⟨n5, b5⟩)
  clear n5 c5 b5
  go_wp2_with fail
  refine X3.mono ?_
  rintro e w6 ⟨vc, rfl, n6, c6, b6⟩
  clear X3
  obtain ⟨va, vcap, rfl⟩ := n6.slen
  have N6 : Hid (newBytes w6 w5.heap.size (.slice va (sp3 l b).1.length vcap) (sp3 l b).1 ∧ But w5.heap.size c w5 w6 ∧ cutS w6 S c (sp3 l b).2.1 (sp3 l b).2.2) := (show _ ∧ _ ∧ _ from ⟨n6, b6, c6⟩)
  have B6 : Hid (But w4.heap.size c w4 w6 ∧ But w.heap.size c w w6 ∧ w6.rowIs w.heap.size 41 4 spZ ∧ w6.rowIs b3 41 4 (spG x1 (.slice none 0 0) (.slice none 0 0) (.slice none 0 0))) := (show _ from by
    obtain ⟨g1, g2, g3, g4, g5, g6⟩ := H0.out
    obtain ⟨p1, p2, p3, p4, p5, p6⟩ := B4.out
    obtain ⟨q1, q2⟩ := N5.out
    have b46 : But w4.heap.size c w4 w6 := q2.later b6
    exact ⟨b46, p1.later b46, World.rowIs.of_block p2 (b46.block _ (by omega) (by omega)), World.rowIs.of_block p6 (b46.block _ (by omega) (by omega))⟩)
  clear n6 c6 b6
  have d1 : w6.cell? ⟨b3, 1, none⟩ = some (.slice none 0 0) := B6.out.2.2.2.cell (i := 1) (by omega)
  have d2 : w6.cell? ⟨b3, 2, none⟩ = some (.slice none 0 0) := B6.out.2.2.2.cell (i := 2) (by omega)
  have f1 := B6.out.2.2.2.frozen 1
  have f2 := B6.out.2.2.2.frozen 2
  go_upto_region 3 with fail
  obtain ⟨w7, hw7⟩ : ∃ w7, w7 = (w6.setCell ⟨b3, 1, none⟩ (.slice ka (sp2 l b).1.length kcap)).setCell ⟨b3, 2, none⟩ (.slice va (sp3 l b).1.length vcap) := ⟨_, rfl⟩
  rw [← hw7]
  have r7 : w7.rowIs b3 41 4 (spG x1 (.slice ka (sp2 l b).1.length kcap) (.slice va (sp3 l b).1.length vcap) (.slice none 0 0)) := by
    rw [hw7]
    refine ((World.rowIs.set B6.out.2.2.2 1 (.slice ka (sp2 l b).1.length kcap)).set 2 (.slice va (sp3 l b).1.length vcap)).congr fun i hi => ?_
    have : i = 0 ∨ i = 1 ∨ i = 2 ∨ i = 3 := by omega
    rcases this with rfl | rfl | rfl | rfl <;> rfl
  have b67 : But w6.heap.size b3 w6 w7 := by rw [hw7]; exact ((But.refl _ _ _).set 1 _).set 2 _
  have c7 : cutS w7 S c (sp3 l b).2.1 (sp3 l b).2.2 := N6.out.2.2.far (fun k hk hs => b67.block k hk (by have := H0.out.2.2.2.1 k hs; have := B4.out.2.2.2.1; omega)) b67.size
  have X4 : Calls Tryd.prog 83 #[.pointer (some ⟨c, 0, none⟩), .int .u64 32] w7 fun e w' => e = .returned (.int .u64 (n4 : Int)) ∧ cutS w' S c (sp4 l b).2.1 (sp4 l b).2.2 ∧ But w7.heap.size c w7 w' := by
    rw [← HE.out.1]; exact cnum_s c S (sp3 l b).2.1 (sp3 l b).2.2 32 (by omega) w7 c7
  have R7 : Hid (w7.rowIs b3 41 4 (spG x1 (.slice ka (sp2 l b).1.length kcap) (.slice va (sp3 l b).1.length vcap) (.slice none 0 0)) ∧ But w6.heap.size b3 w6 w7) := (show _ ∧ _ from ⟨r7, b67⟩)
  clear hw7 r7 b67 c7 d1 d2 f1 f2
  go_wp2_with fail
  refine X4.mono ?_
  rintro e w8 ⟨rfl, c8, b8⟩
  clear X4
  have N8 : Hid (newBytes w8 w4.heap.size (.slice ka (sp2 l b).1.length kcap) (sp2 l b).1 ∧ newBytes w8 w5.heap.size (.slice va (sp3 l b).1.length vcap) (sp3 l b).1 ∧ But w.heap.size c w w8 ∧ w8.rowIs w.heap.size 41 4 spZ ∧ w.heap.size < b3 ∧ b3 < w4.heap.size ∧ w4.heap.size ≤ w5.heap.size ∧ c < w.heap.size) := (show _ from by
    obtain ⟨g1, g2, g3, g4, g5, g6⟩ := H0.out
    obtain ⟨p1, p2, p3, p4, p5, p6⟩ := B4.out
    obtain ⟨q1, q2⟩ := N5.out
    obtain ⟨n1, n2, n3⟩ := N6.out
    obtain ⟨m1, m2, m3, m4⟩ := B6.out
    obtain ⟨t1, t2⟩ := R7.out
    have s45 := q2.size
    have s56 := n2.size
    have s67 := t2.size
    have s78 := b8.size
    refine ⟨q1.apart fun k hk => ?_, n1.apart fun k hk => ?_, ?_, ?_, p4, p5, s45, g3⟩
    · obtain ⟨y1, y2⟩ := q1.block k hk
      rw [b8.block k (by omega) (by omega), t2.block k (by omega) (by omega), n2.block k (by omega) (by omega)]
    · obtain ⟨y1, y2⟩ := n1.block k hk
      rw [b8.block k (by omega) (by omega), t2.block k (by omega) (by omega)]
    · exact (m2.box t2 (by omega)).later b8
    · have s2 := m3.lt
      exact World.rowIs.of_block m3 ((b8.block _ (by omega) (by omega)).trans (t2.block _ (by omega) (by omega))))
  have HL0 : Hid (cspL w w8 S c b3 (.slice ka (sp2 l b).1.length kcap) (.slice va (sp3 l b).1.length vcap) l b 0 w8) := (show _ from by
    obtain ⟨t1, t2⟩ := R7.out
    have s1 := t1.lt
    have s78 := b8.size
    obtain ⟨m1, m2, m3, m4, m5, m6, m7, m8⟩ := N8.out
    refine ⟨m3, ⟨Nat.le_refl _, fun _ _ _ _ => rfl⟩, c8, none, 0, ?_, newSums.nil _ _⟩
    rw [← HE.out.2.1]
    exact World.rowIs.of_block t1 (b8.block _ s1 (by omega)))
  clear c8 b8 N5 N6 B6 R7 B4
  go_wp2_with fail
  go_loopw [18] (fun i wr => ∃ q : Nat, q ≤ n4 ∧ i = .int .u64 (q : Int) ∧ cspL w w8 S c b3 (.slice ka (sp2 l b).1.length kcap) (.slice va (sp3 l b).1.length vcap) l b q wr) (fun i _ => n4 - (intOf i).toNat)
  case atStart => exact ⟨0, by omega, rfl, HL0.out⟩
  case round =>
    obtain ⟨q, hqm, rfl, hL⟩ := hrel
    have q0 : (0 : Int) ≤ (q : Int) := by omega
    have HL : Hid (cspL w w8 S c b3 (.slice ka (sp2 l b).1.length kcap) (.slice va (sp3 l b).1.length vcap) l b q wr) := (show _ from hL)
    clear hL
    by_cases hlt : q < n4
    · have q1 : (q : Int) < (n4 : Int) := by omega
      obtain ⟨hbw, ⟨hsz, hfr⟩, hcut, pa, pc, r3, hns⟩ := HL.out
      have HW : Hid (cutS wr S c (sp5 l b q).1 (sp5 l b q).2 ∧ newSums wr w8.heap.size (.slice pa q pc) (sumsL (sp4 l b).2.1 (sp4 l b).2.2 q) ∧ w8.heap.size ≤ wr.heap.size ∧ wr.rowIs b3 41 4 (spG (sp1 l b).1 (.slice ka (sp2 l b).1.length kcap) (.slice va (sp3 l b).1.length vcap) (.slice pa q pc)) ∧ But w.heap.size c w wr ∧ ∀ j, j < w8.heap.size → j ≠ c → j ≠ b3 → wr.heap[j]? = w8.heap[j]?) := (show _ from ⟨hcut, hns, hsz, r3, hbw, hfr⟩)
      have hc3 : wr.cell? ⟨b3, 3, none⟩ = some (.slice pa q pc) := r3.cell (i := 3) (by omega)
      clear hbw hsz hfr hcut r3 hns
      have HJ : Hid (∀ s, JJ 7 (fun w' : World => w'.cell? ⟨b3, 3, none⟩ = some (.slice pa q pc)) 7 (fun w' : World => w'.cell? ⟨b3, 3, none⟩ = some (.slice pa q pc)) s wr.drew) := (show ∀ s, JJ 7 (fun w' : World => w'.cell? ⟨b3, 3, none⟩ = some (.slice pa q pc)) 7 (fun w' : World => w'.cell? ⟨b3, 3, none⟩ = some (.slice pa q pc)) s wr.drew from JJ_all hc3 hc3)
      clear hc3
      go_upto_region 5 with fail
      refine wp_region_noPanic ?_
      refine wp_region_T (JJ 7 (fun w' : World => w'.cell? ⟨b3, 3, none⟩ = some (.slice pa q pc)) 7 (fun w' : World => w'.cell? ⟨b3, 3, none⟩ = some (.slice pa q pc))) (by kernel_rfl) ?_
      obtain ⟨V0, hV0⟩ : ∃ V0, V0 = wr.drew := ⟨_, rfl⟩
      rw [← hV0] at HJ ⊢
      have D0 : Hid (Below wr.heap.size wr V0 ∧ V0.heap.size = wr.heap.size) := (show _ ∧ _ from by rw [hV0]; exact ⟨(Below.refl _ _).drew, rfl⟩)
      clear hV0
      refine take_opT (i := 0) (v := ?vu0) 7 rfl (by kernel_rfl) (by kernel_rfl) (by kernel_rfl) (by kernel_rfl) (by kernel_rfl) (JJ_free rfl rfl) (fun _ _ _ h => h) rfl HJ.out ?yu0 ?ru0
      case yu0 => (intro wz hz0; have hz := hz0.1 rfl; go_simp; first | done | with_reducible rfl)
      try simp only [Act.put, List.setIfInBounds_toArray, List.set_cons_zero, List.set_cons_succ]
      refine take_opT (i := 1) (v := ?vu1) 7 rfl (by kernel_rfl) (by kernel_rfl) (by kernel_rfl) (by kernel_rfl) (by kernel_rfl) (JJ_free rfl rfl) (fun _ _ _ h => h) rfl HJ.out ?yu1 ?ru1
      case yu1 => (intro wz hz0; have hz := hz0.1 rfl; go_simp; first | done | with_reducible rfl)
      try simp only [Act.put, List.setIfInBounds_toArray, List.set_cons_zero, List.set_cons_succ]
      refine take_opT (i := 2) (v := ?vu2) 7 rfl (by kernel_rfl) (by kernel_rfl) (by kernel_rfl) (by kernel_rfl) (by kernel_rfl) (JJ_free rfl rfl) (fun _ _ _ h => h) rfl HJ.out ?yu2 ?ru2
      case yu2 => (intro wz hz0; have hz := hz0.1 rfl; go_simp; first | done | with_reducible rfl)
      try simp only [Act.put, List.setIfInBounds_toArray, List.set_cons_zero, List.set_cons_succ]
      have X5 : Calls Tryd.prog 101 #[.pointer (some ⟨c, 0, none⟩)] V0 fun e w' => e = .returned (.agg (rowV 32 (arrV (sumsEl (sp4 l b).2.1 (sp4 l b).2.2 q)))) ∧ cutS w' S c (sp5 l b (q + 1)).1 (sp5 l b (q + 1)).2 ∧ But V0.heap.size c V0 w' :=
        csum_s c S (sp5 l b q).1 (sp5 l b q).2 V0 (HW.out.1.below D0.out.1 (Nat.le_refl _))
      refine take_oneT (i := 3) rfl (by kernel_rfl) rfl (fun K hK => ?_)
      go_simp
      refine Calls.mono X5 ?_
      rintro e V1 ⟨rfl, cV1, bV1⟩
      clear X5
      have F1 : Hid (newSums V1 w8.heap.size (.slice pa q pc) (sumsL (sp4 l b).2.1 (sp4 l b).2.2 q) ∧ V1.rowIs b3 41 4 (spG (sp1 l b).1 (.slice ka (sp2 l b).1.length kcap) (.slice va (sp3 l b).1.length vcap) (.slice pa q pc)) ∧ But w.heap.size c w V1 ∧ (∀ j, j < w8.heap.size → j ≠ c → j ≠ b3 → V1.heap[j]? = w8.heap[j]?) ∧ wr.heap.size ≤ V1.heap.size ∧ cutS V1 S c (sp5 l b (q + 1)).1 (sp5 l b (q + 1)).2) := (show _ from by
        obtain ⟨m1, m2, m3, m4, m5, m6, m7, m8⟩ := N8.out
        obtain ⟨g1, g2, g3, g4, g5, g6⟩ := HW.out
        obtain ⟨d1, d2⟩ := D0.out
        have s1 := bV1.size
        have s8 := m3.size
        have sw := g5.size
        have hlt3 := g4.lt
        have same : ∀ j, j < wr.heap.size → j ≠ c → V1.heap[j]? = wr.heap[j]? := fun j hj hn => (bV1.block j (by omega) hn).trans (d1.block j hj)
        refine ⟨g2.far fun k hk => same k (g2.block k hk).2 (by have := (g2.block k hk).1; omega), World.rowIs.of_block g4 (same _ hlt3 (by omega)), g5.trans ⟨bV1.os.trans d1.os, bV1.tape.trans d1.tape, bV1.output.trans d1.output, by omega, fun j hj hn => same j (by omega) hn⟩, fun j hj h1 h2 => (same j (by omega) h1).trans (g6 j hj h1 h2), by omega, cV1⟩)
      refine hK.out _ _ (heldJ_all (F1.out.2.1.cell (i := 3) (by omega)) (F1.out.2.1.cell (i := 3) (by omega))) ?_
      clear hK K cV1 bV1
      try simp only [Act.put, List.setIfInBounds_toArray, List.set_cons_zero, List.set_cons_succ]
      have hsum : isSum (sumsEl (sp4 l b).2.1 (sp4 l b).2.2 q) := sumR_sum (sumsSt_by (sp4_by H0.out.2.2.2.2.1) q)
      obtain ⟨a4, k4, V3, hr, n3, hg, hat⟩ := sums_one_more V1 w8.heap.size (.slice pa q pc) _ (sumsEl (sp4 l b).2.1 (sp4 l b).2.2 q) hsum F1.out.1 (by have := HW.out.2.2.1; have := F1.out.2.2.2.2.1; omega) (by rw [sumsL_len]; have := HE.out.2.2.2; omega)
      rw [sumsL_len] at hr n3 hat
      rw [← sumsL_succ] at n3
      obtain ⟨V2, hV2⟩ : ∃ V2, V2 = V1.alloc (.cells (rowV 32 (arrV (sumsEl (sp4 l b).2.1 (sp4 l b).2.2 q))) 32) := ⟨_, rfl⟩
      have bV2 : Below V1.heap.size V1 V2 := by rw [hV2]; exact (Below.refl _ _).alloc (Nat.le_refl _) _
      have r2' : V2.rowIs b3 41 4 (spG (sp1 l b).1 (.slice ka (sp2 l b).1.length kcap) (.slice va (sp3 l b).1.length vcap) (.slice pa q pc)) := bV2.row F1.out.2.1 F1.out.2.1.lt
      refine take_oneT (i := 4) rfl (by kernel_rfl) rfl (fun K hK => ?_)
      refine wp_of_run (exec_bslice1' 39 1 0 (.tmp 23) (.agg (rowV 32 (arrV (sumsEl (sp4 l b).2.1 (sp4 l b).2.2 q)))) rfl rfl (build_one (arrV (sumsEl (sp4 l b).2.1 (sp4 l b).2.2 q)) V1)) ?_
      rw [← hV2] at hr ⊢
      refine hK.out _ _ (heldJ_all (r2'.cell (i := 3) (by omega)) (r2'.cell (i := 3) (by omega))) ?_
      clear hK K hV2 bV2 r2'
      try simp only [Act.put, List.setIfInBounds_toArray, List.set_cons_zero, List.set_cons_succ]
      have F3 : Hid (newSums V3 w8.heap.size (.slice a4 (q + 1) k4) (sumsL (sp4 l b).2.1 (sp4 l b).2.2 (q + 1)) ∧ V3.rowIs b3 41 4 (spG (sp1 l b).1 (.slice ka (sp2 l b).1.length kcap) (.slice va (sp3 l b).1.length vcap) (.slice pa q pc)) ∧ But w.heap.size c w V3 ∧ (∀ j, j < w8.heap.size → j ≠ c → j ≠ b3 → V3.heap[j]? = w8.heap[j]?) ∧ w8.heap.size ≤ V3.heap.size ∧ cutS V3 S c (sp5 l b (q + 1)).1 (sp5 l b (q + 1)).2) := (show _ from by
        obtain ⟨m1, m2, m3, m4, m5, m6, m7, m8⟩ := N8.out
        obtain ⟨g1, g2, g3, g4, g5, g6⟩ := F1.out
        obtain ⟨_, _, h3, _⟩ := HW.out
        have s8 := m3.size
        have sg := hg.size
        have sw := m4.lt
        have hown : ∀ j, (Value.slice pa q pc).ownBlock = some j → w8.heap.size ≤ j := fun j hj => (g1.block j hj).1
        have same : ∀ j, j < w8.heap.size → V3.heap[j]? = V1.heap[j]? := fun j hj => hg.block j (by omega) (fun e => by have := hown j e.symm; omega)
        have hlt3 : b3 < w8.heap.size := by
          obtain ⟨_, _, r, _⟩ := HL0.out.2.2.2
          exact r.lt
        refine ⟨n3, World.rowIs.of_block g2 (same _ hlt3), g3.trans ⟨hg.os, hg.tape, hg.output, hg.size, fun j hj hn => same j (by omega)⟩, fun j hj h1 h2 => (same j hj).trans (g4 j hj h1 h2), by omega, g6.far (fun k hk hs => same k (by have := H0.out.2.2.2.1 k hs; omega)) hg.size⟩)
      refine take_oneT (i := 5) rfl (by kernel_rfl) rfl (fun K hK => ?_)
      refine wp_append_run (.tmp 21) (.tmp 24) 39 rfl rfl rfl hr ?_
      refine hK.out _ _ (heldJ_all (F3.out.2.1.cell (i := 3) (by omega)) (F3.out.2.1.cell (i := 3) (by omega))) ?_
      clear hK K hr n3 hg hat F1
      try simp only [Act.put, List.setIfInBounds_toArray, List.set_cons_zero, List.set_cons_succ]
      have c3 := F3.out.2.1.cell (i := 3) (by omega)
      have f3 := F3.out.2.1.frozen 3
      refine take_oneT (i := 6) rfl (by kernel_rfl) rfl (fun K hK => ?_)
      go_simp
      refine hK.out _ _ (heldJ_all c3 c3) ?_
      clear hK K
      try simp only [Act.put, List.setIfInBounds_toArray, List.set_cons_zero, List.set_cons_succ]
      refine take_oneT (i := 7) rfl (by kernel_rfl) rfl (fun K hK => ?_)
      go_simp
      refine hK.out _ _ (heldJ_none rfl rfl) ?_
      clear hK K c3 f3
      try simp only [Act.put, List.setIfInBounds_toArray, List.set_cons_zero, List.set_cons_succ]
      refine doneT (by kernel_rfl) ?_ _
      refine NoPanic.normal ?_
      obtain ⟨V4, hV4⟩ : ∃ V4, V4 = V3.setCell ⟨b3, 3, none⟩ (.slice a4 (q + 1) k4) := ⟨_, rfl⟩
      rw [← hV4]
      have NX : Hid (cspL w w8 S c b3 (.slice ka (sp2 l b).1.length kcap) (.slice va (sp3 l b).1.length vcap) l b (q + 1) V4) := (show _ from by
        obtain ⟨m1, m2, m3, m4, m5, m6, m7, m8⟩ := N8.out
        obtain ⟨g1, g2, g3, g4, g5, g6⟩ := F3.out
        have bt : But V3.heap.size b3 V3 V4 := by rw [hV4]; exact (But.refl _ _ _).set 3 _
        have s4 := bt.size
        have hlt3 := g2.lt
        have hb8 : b3 < w8.heap.size := by
          obtain ⟨_, _, r, _⟩ := HL0.out.2.2.2
          exact r.lt
        have r4 : V4.rowIs b3 41 4 (spG (sp1 l b).1 (.slice ka (sp2 l b).1.length kcap) (.slice va (sp3 l b).1.length vcap) (.slice a4 (q + 1) k4)) := by
          rw [hV4]
          refine (World.rowIs.set g2 3 _).congr fun i hi => ?_
          have : i = 0 ∨ i = 1 ∨ i = 2 ∨ i = 3 := by omega
          rcases this with rfl | rfl | rfl | rfl <;> rfl
        refine ⟨g3.box bt (by omega), ⟨by omega, fun j hj h1 h2 => (bt.block j (by omega) h2).trans (g4 j hj h1 h2)⟩, g6.far (fun k hk hs => bt.block k hk (by have := H0.out.2.2.2.1 k hs; omega)) s4, a4, k4, r4, g1.far fun k hk => ?_⟩
        obtain ⟨y1, y2⟩ := g1.block k hk
        exact bt.block k y2 (by omega))
      clear hV4 F3 HW D0 HJ
      go_wp2_with fail
      go_light
      exact ⟨⟨q + 1, by omega, by go_num, NX.out⟩, by simp [intOf]; omega⟩
    · obtain rfl : q = n4 := by omega
      have q1 : ¬ (q : Int) < (q : Int) := by omega
      obtain ⟨hbw, ⟨hsz, hfr⟩, hcut, pa, pc, r3, hns⟩ := HL.out
      obtain ⟨m1, m2, m3, m4, m5, m6, m7, m8⟩ := N8.out
      have hlt0 := m4.lt
      have r0 : wr.rowIs w.heap.size 41 4 spZ := World.rowIs.of_block m4 (hfr _ hlt0 (by omega) (by omega))
      have l3 : ∀ j, j < 4 → wr.cell? ⟨b3, 0 + j, none⟩ = some (spG (sp1 l b).1 (.slice ka (sp2 l b).1.length kcap) (.slice va (sp3 l b).1.length vcap) (.slice pa q pc) j) := fun j hj => by rw [Nat.zero_add]; exact r3.cell hj
      have FI : Hid (∀ V, But wr.heap.size w.heap.size wr V → newBytes V w.heap.size (.slice ka (sp2 l b).1.length kcap) (sp2 l b).1 ∧ newBytes V w.heap.size (.slice va (sp3 l b).1.length vcap) (sp3 l b).1 ∧ newSums V w.heap.size (.slice pa q pc) (spotR l b).path ∧ cutS V S c (spotE l b).1 (spotE l b).2 ∧ But w.heap.size c w V) := (show _ from fun V hV => by
        have hq := HE.out.2.2.1
        have s8 := m3.size
        have sV := hV.size
        have hpath : (spotR l b).path = sumsL (sp4 l b).2.1 (sp4 l b).2.2 q := by rw [hq]; rfl
        have hE : spotE l b = sp5 l b q := by rw [hq]; rfl
        have hb8 : b3 < w8.heap.size := by
          obtain ⟨_, _, r, _⟩ := HL0.out.2.2.2
          exact r.lt
        rw [hpath, hE]
        refine ⟨(m1.apart fun k hk => ?_).mono (by omega), (m2.apart fun k hk => ?_).mono (by omega), (hns.far fun k hk => ?_).lower (by omega), hcut.far (fun k hk hs => hV.block k hk (by have := H0.out.2.2.2.1 k hs; omega)) sV, hbw.box hV (Nat.le_refl _)⟩
        · obtain ⟨y1, y2⟩ := m1.block k hk
          exact (hV.block k (by omega) (by omega)).trans (hfr k y2 (by omega) (by omega))
        · obtain ⟨y1, y2⟩ := m2.block k hk
          exact (hV.block k (by omega) (by omega)).trans (hfr k y2 (by omega) (by omega))
        · obtain ⟨y1, y2⟩ := hns.block k hk
          exact hV.block k y2 (by omega))
      clear hbw hsz hfr hcut r3 hns m1 m2 m3 m4 m5 m6 m7 m8 hlt0
      go_wp2_with (first | (refine wpList_load_w 41 (.tmp 3) rfl rfl b3 0 4 (spG (sp1 l b).1 (.slice ka (sp2 l b).1.length kcap) (.slice va (sp3 l b).1.length vcap) (.slice pa q pc)) rfl _ Tryd.underlying41 rfl hiSp l3 ?_) | (refine wpList_store_row rfl 41 _ _ rfl rfl w.heap.size 0 4 (spG (sp1 l b).1 (.slice ka (sp2 l b).1.length kcap) (.slice va (sp3 l b).1.length vcap) (.slice pa q pc)) rfl rfl hiSp (spG_one _ _ _ _ _ _ _ _ _ _) _ _ _ r0 (by omega) ?_; intro w9 r9 hz9 hb9))
      exact bodyPost_ret (results_cell_seg rfl _ _ w.heap.size 41 4 (spG (sp1 l b).1 (.slice ka (sp2 l b).1.length kcap) (.slice va (sp3 l b).1.length vcap) (.slice pa q pc)) _ rfl Tryd.underlying41 rfl hiSp (r9.congr fun i hi => by rw [if_pos (by omega), Nat.sub_zero])) rfl (by exact ⟨_, _, _, rfl, FI.out w9 hb9⟩)
end Go.Proofs.YtkgegihkhdgdoaaDoor

/- keyed.cutSeen. -/
namespace Go.Proofs.YtkgegihkhdgdoaaDoor
set_option linter.unusedSimpArgs false
set_option linter.unusedVariables false
open Go.RowKit Go.Deep

/-- the loop of cutSeen: box b3 holds what is shown so far. -/
def cseL (w w8 : World) (S : Nat → Prop) (c b3 : Nat) (x1 : Int) (l : List Int) (q : Nat) (wr : World) : Prop :=
  But w.heap.size c w wr ∧ (w8.heap.size ≤ wr.heap.size ∧ ∀ j, j < w8.heap.size → j ≠ c → j ≠ b3 → wr.heap[j]? = w8.heap[j]?) ∧ cutS wr S c (seSt l q).1 (seSt l q).2 ∧
    ∃ sa sc, wr.rowIs b3 29 2 (seG x1 (.slice sa q sc)) ∧ ownSpots wr w8.heap.size b3 (.slice sa q sc) q (seY l)
set_option maxHeartbeats 8000000 in
set_option maxRecDepth 100000 in
theorem cutseen_s (c : Nat) (S : Nat → Prop) (l : List Int) (w : World) (h : cutS w S c l false) (hS : ∀ k, S k → k < w.heap.size) (hl : l.length ≤ 1000000) :
    Calls Tryd.prog 58 #[.pointer (some ⟨c, 0, none⟩)] w fun e w' => ∃ sv, e = .returned (.agg (rowV 2 (seG (seC l) sv))) ∧ (∃ B b, w.heap.size ≤ b ∧ b < B ∧ ownSpots w' B b sv (seM l) (seY l)) ∧ cutS w' S c (seE l).1 (seE l).2 ∧ But w.heap.size c w w' := by
  have hzse := zero_se
  have hbs := build_se1
  have hby : byL l := h.byte
  have hc := h.lt
  obtain ⟨x1i, x1j⟩ := se1_in hby
  obtain ⟨x2i, x2j⟩ := se2_in hby
  obtain ⟨x1, hx1⟩ : ∃ x, x = (se1 l).1 := ⟨_, rfl⟩
  obtain ⟨n2, hn2⟩ : ∃ n : Nat, n = (se2 l).1.toNat := ⟨_, rfl⟩
  have e2 : (se2 l).1 = (n2 : Int) := by omega
  have HE : Hid ((se2 l).1 = (n2 : Int) ∧ x1 = (se1 l).1 ∧ n2 = (se2 l).1.toNat ∧ n2 ≤ 2) := (show _ from ⟨e2, hx1, hn2, by omega⟩)
  have hwi : IntKind.wrap .i64 x1 = x1 := IntWalk.i64_in _ ⟨by omega, by omega⟩
  have k1i : 0 ≤ x1 := by omega
  have k1j : x1 ≤ 2147483647 := by omega
  have n2i : (n2 : Int) ≤ 2 := by omega
  have n20 : (0 : Int) ≤ (n2 : Int) := by omega
  obtain ⟨w1, hw1⟩ : ∃ w1, w1 = w.alloc (.cells (rowV 2 (seG 0 (.slice none 0 0))) 29) := ⟨_, rfl⟩
  have b1 : Below w.heap.size w w1 := by rw [hw1]; exact (Below.refl _ _).alloc (Nat.le_refl _) _
  have r1 : w1.rowIs w.heap.size 29 2 (seG 0 (.slice none 0 0)) := by rw [hw1]; exact rowIs_box _ _ _ _
  have X1 : Calls Tryd.prog 83 #[.pointer (some ⟨c, 0, none⟩), .int .u64 2147483647] w1 fun e w' => e = .returned (.int .u64 x1) ∧ cutS w' S c (se1 l).2.1 (se1 l).2.2 ∧ But w1.heap.size c w1 w' := by
    rw [hx1]; exact cnum_s c S l false 2147483647 (by omega) w1 (h.below b1 (Nat.le_refl _))
  have H0 : Hid (Below w.heap.size w w1 ∧ w1.rowIs w.heap.size 29 2 (seG 0 (.slice none 0 0)) ∧ c < w.heap.size ∧ (∀ k, S k → k < w.heap.size) ∧ byL l ∧ l.length ≤ 1000000) := (show _ from ⟨b1, r1, hc, hS, hby, hl⟩)
  clear h hS hl hby hc hx1 hn2 e2 x1i x1j x2i x2j b1 r1
  go_enter Tryd.func58, Tryd.ntmps58
  go_upto_region 1 with fail
  rw [← hw1]
  clear hw1
  go_wp2_with fail
  refine X1.mono ?_
  rintro e w2 ⟨rfl, c2, b2⟩
  clear X1
  have B2 : Hid (But w.heap.size c w w2 ∧ w2.rowIs w.heap.size 29 2 (seG 0 (.slice none 0 0)) ∧ cutS w2 S c (se1 l).2.1 (se1 l).2.2) := (show _ from by
    obtain ⟨g1, g2, g3, g4, g5, g6⟩ := H0.out
    exact ⟨(But.of_below g1 c).trans (b2.mono g1.size), World.rowIs.of_block g2 (b2.block _ g2.lt (by omega)), c2⟩)
  clear c2 b2
  obtain ⟨wq, hwq⟩ : ∃ wq, wq = w2.alloc (.cells (rowV 2 (seG 0 (.slice none 0 0))) 29) := ⟨_, rfl⟩
  have bq : Below w2.heap.size w2 wq := by rw [hwq]; exact (Below.refl _ _).alloc (Nat.le_refl _) _
  have rq : wq.rowIs w2.heap.size 29 2 (seG 0 (.slice none 0 0)) := by rw [hwq]; exact rowIs_box _ _ _ _
  have RQ : Hid (wq.rowIs w2.heap.size 29 2 (seG 0 (.slice none 0 0)) ∧ Below w2.heap.size w2 wq) := (show _ ∧ _ from ⟨rq, bq⟩)
  clear rq bq
  go_upto_region 2 with (first | (rw [← hwq]; clear hwq; refine wpList_store_row rfl 29 _ _ rfl rfl w2.heap.size 0 2 (seG x1 (.slice none 0 0)) rfl rfl hiSe (seG_one _ _ _ _) _ _ _ RQ.out.1 (by omega) ?_; intro w4 r4 z4 b4))
  have r4' : w4.rowIs w2.heap.size 29 2 (seG x1 (.slice none 0 0)) := r4.congr (fun i hi => by rw [if_pos (by omega), Nat.sub_zero])
  obtain ⟨b3, hb3⟩ : ∃ b3, b3 = w2.heap.size := ⟨_, rfl⟩
  rw [← hb3] at r4' b4 ⊢
  have B4 : Hid (But w.heap.size c w w4 ∧ w4.rowIs w.heap.size 29 2 (seG 0 (.slice none 0 0)) ∧ cutS w4 S c (se1 l).2.1 (se1 l).2.2 ∧ w.heap.size < b3 ∧ b3 < w4.heap.size ∧ w4.rowIs b3 29 2 (seG x1 (.slice none 0 0))) := (show _ from by
    obtain ⟨g1, g2, g3, g4, g5, g6⟩ := H0.out
    obtain ⟨p1, p2, p3⟩ := B2.out
    obtain ⟨q1, q2⟩ := RQ.out
    have s1 := p2.lt
    have s2 := q1.lt
    have bw : But w.heap.size c w wq := p1.trans (But.of_below (q2.mono p1.size) c)
    refine ⟨bw.box b4 (by omega), World.rowIs.of_block (q2.row p2 p2.lt) (b4.block _ (by omega) (by omega)), (p3.below q2 (Nat.le_refl _)).far (fun k hk hs => b4.block k hk (by have := g4 k hs; omega)) b4.size, by omega, by have := b4.size; omega, r4'⟩)
  clear r4 r4' z4 b4 B2 RQ hb3
  have X4 : Calls Tryd.prog 83 #[.pointer (some ⟨c, 0, none⟩), .int .u64 2] w4 fun e w' => e = .returned (.int .u64 (n2 : Int)) ∧ cutS w' S c (se2 l).2.1 (se2 l).2.2 ∧ But w4.heap.size c w4 w' := by
    rw [← HE.out.1]; exact cnum_s c S (se1 l).2.1 (se1 l).2.2 2 (by omega) w4 B4.out.2.2.1
  go_wp2_with fail
  refine X4.mono ?_
  rintro e w8 ⟨rfl, c8, b8⟩
  clear X4
  have N8 : Hid (But w.heap.size c w w8 ∧ w8.rowIs w.heap.size 29 2 (seG 0 (.slice none 0 0)) ∧ w.heap.size < b3 ∧ b3 < w8.heap.size ∧ c < w.heap.size) := (show _ from by
    obtain ⟨g1, g2, g3, g4, g5, g6⟩ := H0.out
    obtain ⟨p1, p2, p3, p4, p5, p6⟩ := B4.out
    have s78 := b8.size
    exact ⟨p1.later b8, World.rowIs.of_block p2 (b8.block _ (by omega) (by omega)), p4, by omega, g3⟩)
  have HL0 : Hid (cseL w w8 S c b3 x1 l 0 w8) := (show _ from by
    obtain ⟨p1, p2, p3, p4, p5, p6⟩ := B4.out
    obtain ⟨m1, m2, m3, m4, m5⟩ := N8.out
    exact ⟨m1, ⟨Nat.le_refl _, fun _ _ _ _ => rfl⟩, c8, none, 0, World.rowIs.of_block p6 (b8.block _ p5 (by omega)), ownSpots.nil _ _ _ _⟩)
  clear c8 b8 B4
  go_wp2_with fail
  go_loopw [10] (fun i wr => ∃ q : Nat, q ≤ n2 ∧ i = .int .u64 (q : Int) ∧ cseL w w8 S c b3 x1 l q wr) (fun i _ => n2 - (intOf i).toNat)
  case atStart => exact ⟨0, by omega, rfl, HL0.out⟩
  case round =>
    obtain ⟨q, hqm, rfl, hL⟩ := hrel
    have q0 : (0 : Int) ≤ (q : Int) := by omega
    have HL : Hid (cseL w w8 S c b3 x1 l q wr) := (show _ from hL)
    clear hL
    by_cases hlt : q < n2
    · have q1 : (q : Int) < (n2 : Int) := by omega
      obtain ⟨hbw, ⟨hsz, hfr⟩, hcut, sa, sc, r3, hos⟩ := HL.out
      have HW : Hid (cutS wr S c (seSt l q).1 (seSt l q).2 ∧ ownSpots wr w8.heap.size b3 (.slice sa q sc) q (seY l) ∧ w8.heap.size ≤ wr.heap.size ∧ wr.rowIs b3 29 2 (seG x1 (.slice sa q sc)) ∧ But w.heap.size c w wr ∧ ∀ j, j < w8.heap.size → j ≠ c → j ≠ b3 → wr.heap[j]? = w8.heap[j]?) := (show _ from ⟨hcut, hos, hsz, r3, hbw, hfr⟩)
      have hc3 : wr.cell? ⟨b3, 1, none⟩ = some (.slice sa q sc) := r3.cell (i := 1) (by omega)
      clear hbw hsz hfr hcut r3 hos
      have HJ : Hid (∀ s, JJ 7 (fun w' : World => w'.cell? ⟨b3, 1, none⟩ = some (.slice sa q sc)) 7 (fun w' : World => w'.cell? ⟨b3, 1, none⟩ = some (.slice sa q sc)) s wr.drew) := (show ∀ s, JJ 7 (fun w' : World => w'.cell? ⟨b3, 1, none⟩ = some (.slice sa q sc)) 7 (fun w' : World => w'.cell? ⟨b3, 1, none⟩ = some (.slice sa q sc)) s wr.drew from JJ_all hc3 hc3)
      clear hc3
      go_upto_region 4 with fail
      refine wp_region_noPanic ?_
      refine wp_region_T (JJ 7 (fun w' : World => w'.cell? ⟨b3, 1, none⟩ = some (.slice sa q sc)) 7 (fun w' : World => w'.cell? ⟨b3, 1, none⟩ = some (.slice sa q sc))) (by kernel_rfl) ?_
      obtain ⟨V0, hV0⟩ : ∃ V0, V0 = wr.drew := ⟨_, rfl⟩
      rw [← hV0] at HJ ⊢
      have D0 : Hid (Below wr.heap.size wr V0 ∧ V0.heap.size = wr.heap.size) := (show _ ∧ _ from by rw [hV0]; exact ⟨(Below.refl _ _).drew, rfl⟩)
      clear hV0
      refine take_opT (i := 0) (v := ?vu0) 7 rfl (by kernel_rfl) (by kernel_rfl) (by kernel_rfl) (by kernel_rfl) (by kernel_rfl) (JJ_free rfl rfl) (fun _ _ _ h => h) rfl HJ.out ?yu0 ?ru0
      case yu0 => (intro wz hz0; have hz := hz0.1 rfl; go_simp; first | done | with_reducible rfl)
      try simp only [Act.put, List.setIfInBounds_toArray, List.set_cons_zero, List.set_cons_succ]
      refine take_opT (i := 1) (v := ?vu1) 7 rfl (by kernel_rfl) (by kernel_rfl) (by kernel_rfl) (by kernel_rfl) (by kernel_rfl) (JJ_free rfl rfl) (fun _ _ _ h => h) rfl HJ.out ?yu1 ?ru1
      case yu1 => (intro wz hz0; have hz := hz0.1 rfl; go_simp; first | done | with_reducible rfl)
      try simp only [Act.put, List.setIfInBounds_toArray, List.set_cons_zero, List.set_cons_succ]
      refine take_opT (i := 2) (v := ?vu2) 7 rfl (by kernel_rfl) (by kernel_rfl) (by kernel_rfl) (by kernel_rfl) (by kernel_rfl) (JJ_free rfl rfl) (fun _ _ _ h => h) rfl HJ.out ?yu2 ?ru2
      case yu2 => (intro wz hz0; have hz := hz0.1 rfl; go_simp; first | done | with_reducible rfl)
      try simp only [Act.put, List.setIfInBounds_toArray, List.set_cons_zero, List.set_cons_succ]
      have X5 := cutspot_s c S (seSt l q).1 (seSt l q).2 V0 (HW.out.1.below D0.out.1 (Nat.le_refl _)) (fun k hk => by
        have := H0.out.2.2.2.1 k hk; have := HW.out.2.2.2.2.1.size; have := D0.out.2; omega) (Nat.le_trans (seSt_le l q) H0.out.2.2.2.2.2)
      refine take_oneT (i := 3) rfl (by kernel_rfl) rfl (fun K hK => ?_)
      go_simp
      refine Calls.mono X5 ?_
      rintro e V1 ⟨kc, vc, pc, rfl, nk, nv, ns, cV1, bV1⟩
      clear X5
      obtain ⟨ka, kcap, rfl⟩ := nk.slen
      obtain ⟨va, vcap, rfl⟩ := nv.slen
      obtain ⟨pa, pcap, rfl⟩ : ∃ a c, pc = .slice a (spotR (seSt l q).1 (seSt l q).2).path.length c := by obtain ⟨a, c, e, _⟩ := ownsRow_slice ns.2; exact ⟨a, c, e⟩
      have F1 : Hid (ownSpots V1 w8.heap.size b3 (.slice sa q sc) q (seY l) ∧ V1.rowIs b3 29 2 (seG x1 (.slice sa q sc)) ∧ But w.heap.size c w V1 ∧ (∀ j, j < w8.heap.size → j ≠ c → j ≠ b3 → V1.heap[j]? = w8.heap[j]?) ∧ wr.heap.size ≤ V1.heap.size ∧ cutS V1 S c (seSt l (q + 1)).1 (seSt l (q + 1)).2 ∧ (newBytes V1 V0.heap.size (.slice ka (sp2 (seSt l q).1 (seSt l q).2).1.length kcap) (sp2 (seSt l q).1 (seSt l q).2).1 ∧ newBytes V1 V0.heap.size (.slice va (sp3 (seSt l q).1 (seSt l q).2).1.length vcap) (sp3 (seSt l q).1 (seSt l q).2).1 ∧ newSums V1 V0.heap.size (.slice pa (spotR (seSt l q).1 (seSt l q).2).path.length pcap) (spotR (seSt l q).1 (seSt l q).2).path)) := (show _ from by
        obtain ⟨m3, m4, m5, m6, m8⟩ := N8.out
        obtain ⟨g1, g2, g3, g4, g5, g6⟩ := HW.out
        obtain ⟨d1, d2⟩ := D0.out
        have s1 := bV1.size
        have s8 := m3.size
        have sw := g5.size
        have hlt3 := g4.lt
        have same : ∀ j, j < wr.heap.size → j ≠ c → V1.heap[j]? = wr.heap[j]? := fun j hj hn => (bV1.block j (by omega) hn).trans (d1.block j hj)
        refine ⟨g2.same (by omega) (by omega) (fun j hj hn => same j hj (by omega)), World.rowIs.of_block g4 (same _ hlt3 (by omega)), g5.trans ⟨bV1.os.trans d1.os, bV1.tape.trans d1.tape, bV1.output.trans d1.output, by omega, fun j hj hn => same j (by omega) hn⟩, fun j hj h1 h2 => (same j (by omega) h1).trans (g6 j hj h1 h2), by omega, cV1, nk, nv, ns⟩)
      refine hK.out _ _ (heldJ_all (F1.out.2.1.cell (i := 1) (by omega)) (F1.out.2.1.cell (i := 1) (by omega))) ?_
      clear hK K cV1 bV1 nk nv ns
      try simp only [Act.put, List.setIfInBounds_toArray, List.set_cons_zero, List.set_cons_succ]
      obtain ⟨V2, hV2⟩ : ∃ V2, V2 = V1.alloc (.cells (rowV 4 (spG (sp1 (seSt l q).1 (seSt l q).2).1 (.slice ka (sp2 (seSt l q).1 (seSt l q).2).1.length kcap) (.slice va (sp3 (seSt l q).1 (seSt l q).2).1.length vcap) (.slice pa (spotR (seSt l q).1 (seSt l q).2).path.length pcap))) 41) := ⟨_, rfl⟩
      have bV2 : Below V1.heap.size V1 V2 := by rw [hV2]; exact (Below.refl _ _).alloc (Nat.le_refl _) _
      have rN : V2.rowIs V1.heap.size 41 4 (spG (sp1 (seSt l q).1 (seSt l q).2).1 (.slice ka (sp2 (seSt l q).1 (seSt l q).2).1.length kcap) (.slice va (sp3 (seSt l q).1 (seSt l q).2).1.length vcap) (.slice pa (spotR (seSt l q).1 (seSt l q).2).path.length pcap)) := by rw [hV2]; exact rowIs_box _ _ _ _
      have r2' : V2.rowIs b3 29 2 (seG x1 (.slice sa q sc)) := bV2.row F1.out.2.1 F1.out.2.1.lt
      refine take_oneT (i := 4) rfl (by kernel_rfl) rfl (fun K hK => ?_)
      refine wp_of_run (exec_bslice1' 27 1 0 (.tmp 15) (.agg (rowV 4 (spG (sp1 (seSt l q).1 (seSt l q).2).1 (.slice ka (sp2 (seSt l q).1 (seSt l q).2).1.length kcap) (.slice va (sp3 (seSt l q).1 (seSt l q).2).1.length vcap) (.slice pa (spotR (seSt l q).1 (seSt l q).2).path.length pcap)))) rfl rfl (build_sps (spG (sp1 (seSt l q).1 (seSt l q).2).1 (.slice ka (sp2 (seSt l q).1 (seSt l q).2).1.length kcap) (.slice va (sp3 (seSt l q).1 (seSt l q).2).1.length vcap) (.slice pa (spotR (seSt l q).1 (seSt l q).2).path.length pcap)) V1)) ?_
      rw [← hV2]
      refine hK.out _ _ (heldJ_all (r2'.cell (i := 1) (by omega)) (r2'.cell (i := 1) (by omega))) ?_
      clear hK K hV2
      try simp only [Act.put, List.setIfInBounds_toArray, List.set_cons_zero, List.set_cons_succ]
      have hO2 : ownSpots V2 w8.heap.size b3 (.slice sa q sc) q (seY l) := F1.out.1.below bV2 (Nat.le_refl _)
      have SF : spotFar V2 b3 (.slice sa q sc) (spG (sp1 (seSt l q).1 (seSt l q).2).1 (.slice ka (sp2 (seSt l q).1 (seSt l q).2).1.length kcap) (.slice va (sp3 (seSt l q).1 (seSt l q).2).1.length vcap) (.slice pa (spotR (seSt l q).1 (seSt l q).2).path.length pcap)) (seY l q) := fun z hz => by
        obtain ⟨g1, g2, g3, g4, g5, g6, nk, nv, ns⟩ := F1.out
        obtain ⟨m3, m4, m5, m6, m8⟩ := N8.out
        have d2 := D0.out.2
        have h3 := HW.out.2.2.1
        have hob := HW.out.2.1.block
        have s2 := bV2.size
        have far : ∀ j, V0.heap.size ≤ j → j < V1.heap.size → z.heap[j]? = V1.heap[j]? := fun j h1 h2 => (hz.2 j (by omega) (fun e => by have := (hob j e).2; omega) (by omega)).trans (bV2.block j h2)
        have hin := sp1_in (b := (seSt l q).2) (seSt_by H0.out.2.2.2.2.1 q)
        refine ⟨_, _, _, rfl, Or.inl (nk.apart fun k hk => far k (nk.block k hk).1 (nk.block k hk).2).is, Or.inl (nv.apart fun k hk => far k (nv.block k hk).1 (nv.block k hk).2).is, (ns.far fun k hk => far k (ns.block k hk).1 (ns.block k hk).2).is, ?_⟩
        show inI64 (sp1 (seSt l q).1 (seSt l q).2).1
        unfold inI64
        omega
      obtain ⟨v', V3, hr, ho4, hg, hat⟩ := spots_append V2 w8.heap.size b3 (.slice sa q sc) q (seY l) hO2 V1.heap.size (spG (sp1 (seSt l q).1 (seSt l q).2).1 (.slice ka (sp2 (seSt l q).1 (seSt l q).2).1.length kcap) (.slice va (sp3 (seSt l q).1 (seSt l q).2).1.length vcap) (.slice pa (spotR (seSt l q).1 (seSt l q).2).path.length pcap)) rN SF (by have := HE.out.2.2.2; omega) (by have := HW.out.2.2.1; have := F1.out.2.2.2.2.1; have := bV2.size; omega)
      have hsv : ∃ na nc, v' = .slice na (q + 1) nc := by
        obtain ⟨na, nc, e, _⟩ := ho4.is
        exact ⟨na, nc, e⟩
      obtain ⟨a4, k4, rfl⟩ := hsv
      have F3 : Hid (ownSpots V3 w8.heap.size b3 (.slice a4 (q + 1) k4) (q + 1) (seY l) ∧ V3.rowIs b3 29 2 (seG x1 (.slice sa q sc)) ∧ But w.heap.size c w V3 ∧ (∀ j, j < w8.heap.size → j ≠ c → j ≠ b3 → V3.heap[j]? = w8.heap[j]?) ∧ w8.heap.size ≤ V3.heap.size ∧ cutS V3 S c (seSt l (q + 1)).1 (seSt l (q + 1)).2) := (show _ from by
        obtain ⟨m3, m4, m5, m6, m8⟩ := N8.out
        obtain ⟨g1, g2, g3, g4, g5, g6, _⟩ := F1.out
        obtain ⟨_, hos, h3, _⟩ := HW.out
        have s8 := m3.size
        have sg := hg.size
        have s2 := bV2.size
        have hown : ∀ j, (Value.slice sa q sc).ownBlock = some j → w8.heap.size ≤ j := fun j hj => (hos.block j hj).1
        have same : ∀ j, j < w8.heap.size → V3.heap[j]? = V1.heap[j]? := fun j hj => (hg.block j (by omega) (fun e => by have := hown j e.symm; omega)).trans (bV2.block j (by omega))
        refine ⟨ho4, World.rowIs.of_block g2 (same _ m6), g3.trans ⟨hg.os.trans bV2.os, hg.tape.trans bV2.tape, hg.output.trans bV2.output, by omega, fun j hj hn => same j (by omega)⟩, fun j hj h1 h2 => (same j hj).trans (g4 j hj h1 h2), by omega, g6.far (fun k hk hs => same k (by have := H0.out.2.2.2.1 k hs; omega)) (by omega)⟩)
      refine take_oneT (i := 5) rfl (by kernel_rfl) rfl (fun K hK => ?_)
      refine wp_append_run (.tmp 13) (.tmp 16) 27 rfl rfl rfl hr ?_
      refine hK.out _ _ (heldJ_all (F3.out.2.1.cell (i := 1) (by omega)) (F3.out.2.1.cell (i := 1) (by omega))) ?_
      clear hK K hr hg hat F1 SF hO2 ho4 rN bV2 r2'
      try simp only [Act.put, List.setIfInBounds_toArray, List.set_cons_zero, List.set_cons_succ]
      have c3 := F3.out.2.1.cell (i := 1) (by omega)
      have f3 := F3.out.2.1.frozen 1
      refine take_oneT (i := 6) rfl (by kernel_rfl) rfl (fun K hK => ?_)
      go_simp
      refine hK.out _ _ (heldJ_all c3 c3) ?_
      clear hK K
      try simp only [Act.put, List.setIfInBounds_toArray, List.set_cons_zero, List.set_cons_succ]
      refine take_oneT (i := 7) rfl (by kernel_rfl) rfl (fun K hK => ?_)
      go_simp
      refine hK.out _ _ (heldJ_none rfl rfl) ?_
      clear hK K c3 f3
      try simp only [Act.put, List.setIfInBounds_toArray, List.set_cons_zero, List.set_cons_succ]
      refine doneT (by kernel_rfl) ?_ _
      refine NoPanic.normal ?_
      obtain ⟨V4, hV4⟩ : ∃ V4, V4 = V3.setCell ⟨b3, 1, none⟩ (.slice a4 (q + 1) k4) := ⟨_, rfl⟩
      rw [← hV4]
      have NX : Hid (cseL w w8 S c b3 x1 l (q + 1) V4) := (show _ from by
        obtain ⟨m3, m4, m5, m6, m8⟩ := N8.out
        obtain ⟨g1, g2, g3, g4, g5, g6⟩ := F3.out
        have bt : But V3.heap.size b3 V3 V4 := by rw [hV4]; exact (But.refl _ _ _).set 1 _
        have s4 := bt.size
        have hlt3 := g2.lt
        have r4 : V4.rowIs b3 29 2 (seG x1 (.slice a4 (q + 1) k4)) := by
          rw [hV4]
          refine (World.rowIs.set g2 1 _).congr fun i hi => ?_
          have : i = 0 ∨ i = 1 := by omega
          rcases this with rfl | rfl <;> rfl
        exact ⟨g3.box bt (by omega), ⟨by omega, fun j hj h1 h2 => (bt.block j (by omega) h2).trans (g4 j hj h1 h2)⟩, g6.far (fun k hk hs => bt.block k hk (by have := H0.out.2.2.2.1 k hs; omega)) s4, a4, k4, r4, g1.same (by omega) s4 (fun j hj hn => bt.block j hj (by omega))⟩)
      clear hV4 F3 HW D0 HJ
      go_wp2_with fail
      go_light
      exact ⟨⟨q + 1, by omega, by go_num, NX.out⟩, by simp [intOf]; omega⟩
    · obtain rfl : q = n2 := by omega
      have q1 : ¬ (q : Int) < (q : Int) := by omega
      obtain ⟨hbw, ⟨hsz, hfr⟩, hcut, sa, sc, r3, hos⟩ := HL.out
      obtain ⟨m3, m4, m5, m6, m8⟩ := N8.out
      have hlt0 := m4.lt
      have r0 : wr.rowIs w.heap.size 29 2 (seG 0 (.slice none 0 0)) := World.rowIs.of_block m4 (hfr _ hlt0 (by omega) (by omega))
      have l3 : ∀ j, j < 2 → wr.cell? ⟨b3, 0 + j, none⟩ = some ((seG x1 (.slice sa q sc)) j) := fun j hj => by rw [Nat.zero_add]; exact r3.cell hj
      have FI : Hid (seC l = x1 ∧ ∀ V, But wr.heap.size w.heap.size wr V → (∃ B b, w.heap.size ≤ b ∧ b < B ∧ ownSpots V B b (.slice sa q sc) (seM l) (seY l)) ∧ cutS V S c (seE l).1 (seE l).2 ∧ But w.heap.size c w V) := (show _ from ⟨HE.out.2.1.symm, fun V hV => by
        have hq : seM l = q := HE.out.2.2.1.symm
        have s8 := m3.size
        have sV := hV.size
        have hE : seE l = seSt l q := by unfold seE; rw [hq]
        rw [hq, hE]
        exact ⟨⟨w8.heap.size, b3, by omega, by omega, hos.same (w' := V) (by omega) sV (fun j hj hn => hV.block j hj (by omega))⟩, hcut.far (fun k hk hs => hV.block k hk (by have := H0.out.2.2.2.1 k hs; omega)) sV, hbw.box hV (Nat.le_refl _)⟩⟩)
      clear hbw hsz hfr hcut r3 hos m3 m4 m5 m6 m8 hlt0
      go_wp2_with (first | (refine wpList_load_w 29 (.tmp 3) rfl rfl b3 0 2 (seG x1 (.slice sa q sc)) rfl _ Tryd.underlying29 rfl hiSe l3 ?_) | (refine wpList_store_row rfl 29 _ _ rfl rfl w.heap.size 0 2 (seG x1 (.slice sa q sc)) rfl rfl hiSe (seG_one _ _ _ _) _ _ _ r0 (by omega) ?_; intro w9 r9 hz9 hb9))
      exact bodyPost_ret (results_cell_seg rfl _ _ w.heap.size 29 2 (seG x1 (.slice sa q sc)) _ rfl Tryd.underlying29 rfl hiSe (r9.congr fun i hi => by rw [if_pos (by omega), Nat.sub_zero])) rfl (by rw [FI.out.1]; exact ⟨_, rfl, FI.out.2 w9 hb9⟩)
end Go.Proofs.YtkgegihkhdgdoaaDoor

/- keyed.Read. -/
namespace Go.Proofs.YtkgegihkhdgdoaaDoor
set_option linter.unusedSimpArgs false
set_option linter.unusedVariables false
open Go.RowKit Go.Deep

theorem zero_cut : ∀ w : World, (zeroValue 100).run Tryd.prog w = .ok (.agg (rowV 2 (cutV (.slice none 0 0) false))) w := fun w => by kernel_rfl
theorem hiCut : (Tryd.prog.info? 100).map (·.size) = some 2 := by kernel_rfl
theorem cutV_one (a : Option Addr) (i j : Nat) (b : Bool) : ∀ t, t < 2 → (cutV (.slice a i j) b t).oneCell' = true := fun t ht => by
  match t, ht with
  | 0, _ => rfl
  | 1, _ => rfl
theorem cutS.slice {w : World} {S : Nat → Prop} {c : Nat} {l : List Int} {b : Bool} (h : cutS w S c l b) : ∃ a n, cutIs w c (.slice a l.length n) b ∧ isBytes w (.slice a l.length n) l ∧ S c ∧ ∀ k, (Value.slice a l.length n).ownBlock = some k → S k ∧ k ≠ c := by
  obtain ⟨v, h1, h2, h3, h4⟩ := h
  obtain ⟨a, n, rfl, _⟩ := h2.slice
  exact ⟨a, n, h1, h2, h3, h4⟩
/-- what Read answers, what is left. -/
def readP (w : World) (S : Nat → Prop) (c : Nat) (l : List Int) (e : Ending) (w' : World) : Prop :=
  But w.heap.size c w w' ∧ (((seE l).2 = true ∧ e = .returned (.agg (rowV 2 (seG 0 (.slice none 0 0)))) ∧ cutS w' S c l true) ∨
    ((seE l).2 = false ∧ ∃ sv, e = .returned (.agg (rowV 2 (seG (seC l) sv))) ∧ spotsAt w' sv (seM l) (seY l) ∧ cutS w' S c (seE l).1 false))
set_option maxHeartbeats 8000000 in
set_option maxRecDepth 100000 in
theorem kread_s (c : Nat) (S : Nat → Prop) (l : List Int) (w : World) (h : cutS w S c l false) (hS : ∀ k, S k → k < w.heap.size) (hl : l.length ≤ 1000000) :
    Calls Tryd.prog 27 #[.pointer (some ⟨c, 0, none⟩)] w (readP w S c l) := by
  have hzse := zero_se
  have hzc := zero_cut
  have hb0 := build_se0
  have hc := h.lt
  obtain ⟨w1, hw1⟩ : ∃ w1, w1 = w.alloc (.cells (rowV 2 (seG 0 (.slice none 0 0))) 29) := ⟨_, rfl⟩
  have b1 : Below w.heap.size w w1 := by rw [hw1]; exact (Below.refl _ _).alloc (Nat.le_refl _) _
  have r1 : w1.rowIs w.heap.size 29 2 (seG 0 (.slice none 0 0)) := by rw [hw1]; exact rowIs_box _ _ _ _
  have h1 : cutS w1 S c l false := h.below b1 (Nat.le_refl _)
  have X1 := err_s c S l false w1 h1
  obtain ⟨va, vn, k1, k2, k3, k4⟩ := h1.slice
  have lc : ∀ j, j < 2 → w1.cell? ⟨c, 0 + j, none⟩ = some (cutV (.slice va l.length vn) false j) := fun j hj => by rw [Nat.zero_add]; exact k1.cell hj
  obtain ⟨wq, hwq⟩ : ∃ wq, wq = w1.alloc (.cells (rowV 2 (cutV (.slice none 0 0) false)) 100) := ⟨_, rfl⟩
  have bq : Below w1.heap.size w1 wq := by rw [hwq]; exact (Below.refl _ _).alloc (Nat.le_refl _) _
  have rq : wq.rowIs w1.heap.size 100 2 (cutV (.slice none 0 0) false) := by rw [hwq]; exact rowIs_box _ _ _ _
  have H0 : Hid (Below w.heap.size w w1 ∧ w1.rowIs w.heap.size 29 2 (seG 0 (.slice none 0 0)) ∧ cutS w1 S c l false ∧ isBytes w1 (.slice va l.length vn) l ∧ (∀ k, (Value.slice va l.length vn).ownBlock = some k → S k ∧ k ≠ c) ∧ (∀ k, S k → k < w.heap.size) ∧ l.length ≤ 1000000 ∧ wq.rowIs w1.heap.size 100 2 (cutV (.slice none 0 0) false) ∧ Below w1.heap.size w1 wq ∧ S c ∧ c < w.heap.size) := (show _ from ⟨b1, r1, h1, k2, k4, hS, hl, rq, bq, k3, hc⟩)
  clear h hS hl hc h1 k1 k2 k3 k4 b1 r1 rq bq
  go_enter Tryd.func27, Tryd.ntmps27
  go_upto_region 1 with fail
  rw [← hw1]
  clear hw1
  go_wp2_with fail
  refine X1.mono ?_
  rintro e w' ⟨rfl, hw⟩
  obtain rfl := hw.symm
  clear hw X1
  rw [show errI false = 0 from rfl]
  go_upto_region 3 with fail
  go_upto_region 4 with (first | (refine wpList_load_seg rfl 100 _ rfl c 0 2 (cutV (.slice va l.length vn) false) rfl _ Tryd.underlying100 rfl hiCut lc ?_) | (rw [← hwq]; clear hwq; refine wpList_store_row rfl 100 _ _ rfl rfl w1.heap.size 0 2 (cutV (.slice va l.length vn) false) rfl rfl hiCut (cutV_one _ _ _ _) _ _ _ H0.out.2.2.2.2.2.2.2.1 (by omega) ?_; intro w4 r4 z4 b4))
  have r4' : w4.rowIs w1.heap.size 100 2 (cutV (.slice va l.length vn) false) := r4.congr (fun i hi => by rw [if_pos (by omega), Nat.sub_zero])
  obtain ⟨d, hd⟩ : ∃ d, d = w1.heap.size := ⟨_, rfl⟩
  rw [← hd] at r4' b4 ⊢
  have B4 : Hid (But w.heap.size c w w4 ∧ w4.rowIs w.heap.size 29 2 (seG 0 (.slice none 0 0)) ∧ cutS w4 S c l false ∧ w.heap.size < d ∧ d < w4.heap.size ∧ cutS w4 (fun k => (S k ∧ k ≠ c) ∨ k = d) d l false) := (show _ from by
    obtain ⟨g1, g2, g3, g4, g5, g6, g7, g8, g9, g10, g11⟩ := H0.out
    have s1 := g2.lt
    have s2 := g8.lt
    have s4 := b4.size
    have hdw : ∀ k, S k → k ≠ d := fun k hk => by have := g6 k hk; omega
    refine ⟨(But.of_below (g1.trans (g9.mono g1.size)) c).box b4 (by omega), World.rowIs.of_block (g9.row g2 g2.lt) (b4.block _ (by omega) (by omega)), (g3.below g9 (Nat.le_refl _)).far (fun k hk hs => b4.block k hk (hdw k hs)) s4, by omega, by omega, _, r4', (g4.below g9 (Nat.le_refl _)).far (fun k hk => b4.block k (by have := g6 k (g5 k hk).1; omega) (hdw k (g5 k hk).1)) s4, Or.inr rfl, fun k hk => ⟨Or.inl (g5 k hk), hdw k (g5 k hk).1⟩⟩)
  clear r4 r4' z4 b4 lc hd
  have X4 := cutseen_s d (fun k => (S k ∧ k ≠ c) ∨ k = d) l w4 B4.out.2.2.2.2.2 (fun k hk => by
    obtain ⟨g1, g2, g3, g4, g5, g6, g7, g8, g9, g10, g11⟩ := H0.out
    obtain ⟨p1, p2, p3, p4, p5, p6⟩ := B4.out
    rcases hk with h | h
    · have := g6 k h.1; omega
    · omega) H0.out.2.2.2.2.2.2.1
  go_wp2_with fail
  refine X4.mono ?_
  rintro e w5 ⟨sv, rfl, ⟨oB, ob, hob1, hob2, hos⟩, c5, b5⟩
  clear X4
  have hsp := hos.is
  obtain ⟨sa, sn, hse, _⟩ := (id hsp : spotsAt w5 sv (seM l) (seY l))
  subst hse
  obtain ⟨wp, hwp⟩ : ∃ wp, wp = w5.alloc (.cells (rowV 2 (seG 0 (.slice none 0 0))) 29) := ⟨_, rfl⟩
  have bp : Below w5.heap.size w5 wp := by rw [hwp]; exact (Below.refl _ _).alloc (Nat.le_refl _) _
  have rp : wp.rowIs w5.heap.size 29 2 (seG 0 (.slice none 0 0)) := by rw [hwp]; exact rowIs_box _ _ _ _
  have B5 : Hid (But w.heap.size c w w5 ∧ w5.rowIs w.heap.size 29 2 (seG 0 (.slice none 0 0)) ∧ cutS w5 S c l false ∧ cutS w5 (fun k => (S k ∧ k ≠ c) ∨ k = d) d (seE l).1 (seE l).2 ∧ ownSpots w5 oB ob (.slice sa (seM l) sn) (seM l) (seY l) ∧ wp.rowIs w5.heap.size 29 2 (seG 0 (.slice none 0 0)) ∧ Below w5.heap.size w5 wp ∧ w.heap.size < d ∧ d < w5.heap.size) := (show _ from by
    obtain ⟨g1, g2, g3, g4, g5, g6, g7, g8, g9, g10, g11⟩ := H0.out
    obtain ⟨p1, p2, p3, p4, p5, p6⟩ := B4.out
    have s5 := b5.size
    exact ⟨p1.box b5 (by omega), World.rowIs.of_block p2 (b5.block _ (by omega) (by omega)), p3.far (fun k hk hs => b5.block k hk (by have := g6 k hs; omega)) s5, c5, hos, rp, bp, p4, by omega⟩)
  have OB : Hid (w4.heap.size ≤ ob ∧ ob < oB ∧ w.heap.size < w4.heap.size) := (show _ ∧ _ ∧ _ from ⟨hob1, hob2, by have := B4.out.2.1.lt; exact this⟩)
  clear hsp hos hob1 hob2 c5 b5 rp bp B4
  go_upto_region 5 with (first | (rw [← hwp]; clear hwp; refine wpList_store_row rfl 29 _ _ rfl rfl w5.heap.size 0 2 (seG (seC l) (.slice sa (seM l) sn)) rfl rfl hiSe (seG_one _ _ _ _) _ _ _ B5.out.2.2.2.2.2.1 (by omega) ?_; intro w7 r7 z7 b7))
  have r7' : w7.rowIs w5.heap.size 29 2 (seG (seC l) (.slice sa (seM l) sn)) := r7.congr (fun i hi => by rw [if_pos (by omega), Nat.sub_zero])
  obtain ⟨b4, hb4⟩ : ∃ b4, b4 = w5.heap.size := ⟨_, rfl⟩
  rw [← hb4] at r7' b7 ⊢
  have B7 : Hid (But w.heap.size c w w7 ∧ w7.rowIs w.heap.size 29 2 (seG 0 (.slice none 0 0)) ∧ cutS w7 S c l false ∧ cutS w7 (fun k => (S k ∧ k ≠ c) ∨ k = d) d (seE l).1 (seE l).2 ∧ (∀ V, But w7.heap.size b4 w7 V → True) ∧ w.heap.size < d ∧ d < b4 ∧ b4 < w7.heap.size ∧ Below w5.heap.size w5 w7 ∧ b4 = w5.heap.size) := (show _ from by
    obtain ⟨g1, g2, g3, g4, g5, g6, g7, g8, g9, g10, g11⟩ := H0.out
    obtain ⟨p1, p2, p3, p4, p5, p6, p7, p8, p9⟩ := B5.out
    have s7 := b7.size
    have sp := p6.lt
    have bb : Below w5.heap.size w5 w7 := p7.trans ((b7.mono (by omega)).below (by omega))
    have hl0 := p2.lt
    refine ⟨p1.trans (But.of_below (bb.mono p1.size) c), bb.row p2 hl0, p3.below bb (Nat.le_refl _), p4.below bb (Nat.le_refl _), fun _ _ => trivial, p8, by omega, by omega, bb, hb4⟩)
  have R7 : Hid (w7.rowIs b4 29 2 (seG (seC l) (.slice sa (seM l) sn)) ∧ ownSpots w7 oB ob (.slice sa (seM l) sn) (seM l) (seY l)) := (show _ ∧ _ from ⟨r7', B5.out.2.2.2.2.1.below B7.out.2.2.2.2.2.2.2.2.1 (Nat.le_refl _)⟩)
  clear r7 r7' z7 b7 hb4
  have X7 := err_s d (fun k => (S k ∧ k ≠ c) ∨ k = d) (seE l).1 (seE l).2 w7 B7.out.2.2.2.1
  go_wp2_with fail
  refine X7.mono ?_
  rintro e w' ⟨rfl, hw⟩
  obtain rfl := hw.symm
  clear hw X7
  cases hf : (seE l).2 with
  | true =>
    have HF : Hid ((seE l).2 = true) := hf
    rw [show errI true = 2 from rfl]
    have X8 := fail_s c S l false w7 B7.out.2.2.1
    clear hf
    go_wp2_with fail
    refine X8.mono ?_
    rintro e w8 ⟨rfl, c8, b8⟩
    clear X8
    have r8 : w8.rowIs w.heap.size 29 2 (seG 0 (.slice none 0 0)) := by
      obtain ⟨p1, p2, _⟩ := B7.out
      have := H0.out.2.2.2.2.2.2.2.2.2.2
      exact World.rowIs.of_block p2 (b8.block _ p2.lt (by omega))
    have FI : Hid (∀ V, But w8.heap.size w.heap.size w8 V → cutS V S c l true ∧ But w.heap.size c w V) := (show _ from fun V hV => ⟨c8.far (fun k hk hs => hV.block k hk (by have := H0.out.2.2.2.2.2.1 k hs; omega)) hV.size, (B7.out.1.later b8).box hV (Nat.le_refl _)⟩)
    clear c8 b8
    go_wp2_with (first | (refine wpList_store_row rfl 29 _ _ rfl rfl w.heap.size 0 2 (seG 0 (.slice none 0 0)) rfl rfl hiSe (seG_one _ _ _ _) _ _ _ r8 (by omega) ?_; intro w9 r9 hz9 hb9))
    exact bodyPost_ret (results_cell_seg rfl _ _ w.heap.size 29 2 (seG 0 (.slice none 0 0)) _ rfl Tryd.underlying29 rfl hiSe (r9.congr fun i hi => by rw [if_pos (by omega), Nat.sub_zero])) rfl (by exact ⟨(FI.out w9 hb9).2, Or.inl ⟨HF.out, rfl, (FI.out w9 hb9).1⟩⟩)
  | false =>
    have HF : Hid ((seE l).2 = false) := hf
    rw [show errI false = 0 from rfl]
    have hcd := B7.out.2.2.2.1
    rw [hf] at hcd
    obtain ⟨ea, en, k1, k2, k3, k4⟩ := hcd.slice
    obtain ⟨ga, gn, j1, _, _, _⟩ := B7.out.2.2.1.slice
    have lc : ∀ j, j < 2 → w7.cell? ⟨d, 0 + j, none⟩ = some (cutV (.slice ea (seE l).1.length en) false j) := fun j hj => by rw [Nat.zero_add]; exact k1.cell hj
    have K : Hid (isBytes w7 (.slice ea (seE l).1.length en) (seE l).1 ∧ ∀ k, (Value.slice ea (seE l).1.length en).ownBlock = some k → ((S k ∧ k ≠ c) ∨ k = d) ∧ k ≠ d) := (show _ ∧ _ from ⟨k2, k4⟩)
    have J1 : Hid (cutIs w7 c (.slice ga l.length gn) false) := (show _ from j1)
    clear hf hcd k1 k2 k3 k4 j1
    go_upto_region 8 with fail
    go_upto_region 9 with (first | (refine wpList_load_w 100 (.tmp 3) rfl rfl d 0 2 (cutV (.slice ea (seE l).1.length en) false) rfl _ Tryd.underlying100 rfl hiCut lc ?_) | (refine wpList_store_row rfl 100 _ _ rfl rfl c 0 2 (cutV (.slice ea (seE l).1.length en) false) rfl rfl hiCut (cutV_one _ _ _ _) _ _ _ J1.out (by omega) ?_; intro w8 r8 z8 b8))
    have r8' : cutIs w8 c (.slice ea (seE l).1.length en) false := r8.congr (fun i hi => by rw [if_pos (by omega), Nat.sub_zero])
    have Q8 : Hid (cutS w8 S c (seE l).1 false ∧ But w.heap.size c w w8 ∧ w8.rowIs w.heap.size 29 2 (seG 0 (.slice none 0 0)) ∧ w8.rowIs b4 29 2 (seG (seC l) (.slice sa (seM l) sn))) := (show _ from by
      obtain ⟨g1, g2, g3, g4, g5, g6, g7, g8, g9, g10, g11⟩ := H0.out
      obtain ⟨p1, p2, p3, p4, p5, p6, p7, p8, p9, p10⟩ := B7.out
      obtain ⟨q1, q2⟩ := K.out
      obtain ⟨t1, t2⟩ := R7.out
      have ho : ∀ k, (Value.slice ea (seE l).1.length en).ownBlock = some k → S k ∧ k ≠ c := fun k hk => by
        obtain ⟨h | h, h'⟩ := q2 k hk
        · exact h
        · exact absurd h h'
      exact ⟨⟨_, r8', q1.far (fun k hk => b8.block k (q1.block k hk) (ho k hk).2) b8.size, g10, ho⟩, p1.later b8, World.rowIs.of_block p2 (b8.block _ p2.lt (by omega)), World.rowIs.of_block t1 (b8.block _ t1.lt (by omega))⟩)
    have FI : Hid (∀ V, But w8.heap.size w.heap.size w8 V → spotsAt V (.slice sa (seM l) sn) (seM l) (seY l) ∧ cutS V S c (seE l).1 false ∧ But w.heap.size c w V) := (show _ from fun V hV => by
      obtain ⟨g1, g2, g3, g4, g5, g6, g7, g8, g9, g10, g11⟩ := H0.out
      obtain ⟨t1, t2⟩ := R7.out
      obtain ⟨o1, o2, o3⟩ := OB.out
      obtain ⟨q1, q2, q3, q4⟩ := Q8.out
      have s8 := b8.size
      have sV := hV.size
      exact ⟨(t2.same (w' := V) o2 (by omega) (fun j hj hn => (hV.block j (by omega) (by omega)).trans (b8.block j hj (by omega)))).is, q1.far (fun k hk hs => hV.block k hk (by have := g6 k hs; omega)) sV, q2.box hV (Nat.le_refl _)⟩)
    have r82 := Q8.out.2.2.1
    have l8 : ∀ j, j < 2 → w8.cell? ⟨b4, 0 + j, none⟩ = some (seG (seC l) (.slice sa (seM l) sn) j) := fun j hj => by rw [Nat.zero_add]; exact Q8.out.2.2.2.cell hj
    clear r8 r8' z8 b8 lc
    go_wp2_with (first | (refine wpList_load_w 29 (.tmp 4) rfl rfl b4 0 2 (seG (seC l) (.slice sa (seM l) sn)) rfl _ Tryd.underlying29 rfl hiSe l8 ?_) | (refine wpList_store_row rfl 29 _ _ rfl rfl w.heap.size 0 2 (seG (seC l) (.slice sa (seM l) sn)) rfl rfl hiSe (seG_one _ _ _ _) _ _ _ r82 (by omega) ?_; intro w9 r9 hz9 hb9))
    exact bodyPost_ret (results_cell_seg rfl _ _ w.heap.size 29 2 (seG (seC l) (.slice sa (seM l) sn)) _ rfl Tryd.underlying29 rfl hiSe (r9.congr fun i hi => by rw [if_pos (by omega), Nat.sub_zero])) rfl (by exact ⟨(FI.out w9 hb9).2.2, Or.inr ⟨HF.out, _, rfl, (FI.out w9 hb9).1, (FI.out w9 hb9).2.1⟩⟩)
end Go.Proofs.YtkgegihkhdgdoaaDoor

/- what is shown is looked at, and tells: the pure part. -/
namespace Go.Proofs.YtkgegihkhdgdoaaDoor
set_option linter.unusedSimpArgs false
set_option linter.unusedVariables false
open Go.RowKit Go.Deep

theorem leavesTo_getD (x : Nat → Pr) (n q : Nat) (hq : q < n) : (leavesTo x n).getD q [] = leafS (x q) := by
  rw [List.getD_eq_getElem?_getD, leavesTo, List.getElem?_map, List.getElem?_range hq]; rfl
theorem show_toA (x : Nat → Pr) (n q : Nat) (hq : q < n) : toA (n : Int) ⟨(q : Int), x q, pathI (leavesTo x n) (q : Int)⟩ = some (rootS (leavesTo x n)) := by
  have hl := leavesTo_len x n
  have ht : thereB (n : Int) (q : Int) = true := by simp [thereB]; omega
  have hp : pathI (leavesTo x n) (q : Int) = pathS (leavesTo x n) q := pathI_there (by rw [hl]; exact hq)
  have hw : wayI (n : Int) (q : Int) = wayL n q := by unfold wayI; rw [if_pos ht, Int.toNat_natCast, Int.toNat_natCast]
  have hk : okLead (n : Int) (q : Int) (pathS (leavesTo x n) q) = true := by
    unfold okLead
    rw [ht, hw, pathS_len, hl]; simp
  unfold toA
  simp only
  rw [hp, if_pos hk, hw]
  have h := lead_path n (leavesTo x n) q (by omega) (by rw [hl]; exact hq)
  rw [leavesTo_getD x n q hq, hl] at h
  rw [← h]; rfl
theorem may_lt_key {x : Nat → Pr} {n : Nat} (hm : mayP x n) : ∀ (d i : Nat), i + d + 1 < n → cmpI (x i).1 (x (i + d + 1)).1 < 0
  | 0, i, h => hm i h
  | d + 1, i, h => cmpI_trans _ _ _ (may_lt_key hm d i (by omega)) (hm (i + d + 1) (by omega))
theorem pos_key {x : Nat → Pr} {n p : Nat} {key : List Int} (hm : mayP x n) (hp : posAt x n key p) (i : Nat) (hi : i < n) (hk : (x i).1 = key) : i = p ∧ isAt x n key p = true := by
  obtain ⟨h1, h2, h3⟩ := hp
  have hz : cmpI (x i).1 key = 0 := by rw [hk]; exact cmpI_self key
  have hge : p ≤ i := by
    by_cases e : p ≤ i
    · exact e
    · have := h2 i (by omega); omega
  have hle : i ≤ p := by
    by_cases e : i ≤ p
    · exact e
    · have h := may_lt_key hm (i - p - 1) p (by omega)
      rw [show p + (i - p - 1) + 1 = i by omega, hk] at h
      have := h3 p (Nat.le_refl _) (by omega); omega
  obtain rfl : i = p := by omega
  exact ⟨rfl, by simp [isAt, hi, hz]⟩
/-- how many are shown, from where. -/
theorem show_cases {x : Nat → Pr} {n p : Nat} {key : List Int} (hp : posAt x n key p) :
    (isAt x n key p = true ∧ p < n ∧ shF x n key p = p ∧ shM x n key p = 1) ∨ (isAt x n key p = false ∧ ((n = 0 ∧ shM x n key p = 0) ∨ (p = 0 ∧ 0 < n ∧ shF x n key p = 0 ∧ shM x n key p = 1) ∨ (0 < p ∧ p < n ∧ shF x n key p = p - 1 ∧ shM x n key p = 2) ∨ (0 < p ∧ p = n ∧ shF x n key p = n - 1 ∧ shM x n key p = 1))) := by
  have h1 := hp.1
  cases hA : isAt x n key p with
  | true =>
    have hpn : p < n := by
      simp only [isAt, Bool.and_eq_true, decide_eq_true_eq] at hA; exact hA.1
    refine Or.inl ⟨rfl, hpn, ?_, ?_⟩
    · unfold shF; rw [if_pos hA]
    · unfold shM shF arL; rw [if_pos hA, if_pos hA]; omega
  | false =>
    have hf : shF x n key p = p - 1 := by unfold shF; rw [if_neg (by rw [hA]; decide)]
    have hl : arL x n key p = min (p : Int) ((n : Int) - 1) := by unfold arL; rw [if_neg (by rw [hA]; decide)]
    refine Or.inr ⟨rfl, ?_⟩
    unfold shM
    rw [hf, hl]
    by_cases e0 : n = 0
    · exact Or.inl ⟨e0, by omega⟩
    · by_cases e1 : p = 0
      · exact Or.inr (Or.inl ⟨e1, by omega, by omega, by omega⟩)
      · by_cases e2 : p < n
        · exact Or.inr (Or.inr (Or.inl ⟨by omega, e2, rfl, by omega⟩))
        · exact Or.inr (Or.inr (Or.inr ⟨by omega, by omega, by omega, by omega⟩))
theorem isAt_not {x : Nat → Pr} {n p : Nat} {key : List Int} (h : isAt x n key p = false) (hp : p < n) : ¬ cmpI (x p).1 key = 0 := fun e => by
  simp [isAt, hp, e] at h
/-- what is shown is not refused. -/
theorem show_ok {x : Nat → Pr} {n p : Nat} {key : List Int} (hm : mayP x n) (hp : posAt x n key p) : lookOk (n : Int) (shM x n key p) (shY x n key p) key (keyS x n) := by
  have hq : ∀ i, i < shM x n key p → shF x n key p + i < n := fun i hi => by
    have h1 := (shM_lt x n key p i).1 hi
    have h2 := (arL_lt x n key p).1
    omega
  have hto : ∀ i, i < shM x n key p → toA (n : Int) (shY x n key p i) = some (rootS (leavesTo x n)) := fun i hi => show_toA x n _ (hq i hi)
  have hY : ∀ i, (shY x n key p i).pr = x (shF x n key p + i) ∧ (shY x n key p i).at_ = ((shF x n key p + i : Nat) : Int) := fun i => ⟨rfl, rfl⟩
  refine ⟨by omega, ?_, rootS (leavesTo x n), ?_, rfl⟩
  · unfold saysB
    rw [(hY 0).1, (hY 0).2, (hY 1).1, (hY 1).2]
    obtain ⟨h1, h2, h3⟩ := hp
    rcases show_cases ⟨h1, h2, h3⟩ with ⟨hA, hpn, hf, hM⟩ | ⟨hA, ⟨h0, hM⟩ | ⟨hp0, h0, hf, hM⟩ | ⟨hp0, hpn, hf, hM⟩ | ⟨hp0, hpn, hf, hM⟩⟩
    · rw [hM, hf, if_neg (by omega), if_pos rfl]
      have hz : cmpI (x p).1 key = 0 := by
        simp only [isAt, Bool.and_eq_true, decide_eq_true_eq] at hA; exact hA.2
      exact decide_eq_true (Or.inl hz)
    · rw [hM, if_pos rfl]; exact decide_eq_true (by omega)
    · rw [hM, hf, if_neg (by omega), if_pos rfl]
      have hne := isAt_not hA (by omega)
      have := h3 p (Nat.le_refl _) (by omega)
      rw [hp0] at hne this
      exact decide_eq_true (Or.inr (Or.inl ⟨by rw [Nat.add_zero]; omega, by omega⟩))
    · rw [hM, hf, if_neg (by omega), if_neg (by omega), if_pos rfl, Nat.add_zero, show p - 1 + 1 = p by omega]
      have hne := isAt_not hA hpn
      have a1 := h3 p (Nat.le_refl _) hpn
      have a2 := h2 (p - 1) (by omega)
      exact decide_eq_true ⟨a2, by omega, by omega, by omega⟩
    · rw [hM, hf, if_neg (by omega), if_pos rfl, Nat.add_zero]
      have a2 := h2 (n - 1) (by omega)
      exact decide_eq_true (Or.inr (Or.inr ⟨a2, by omega⟩))
  · by_cases h0 : shM x n key p = 0
    · refine Or.inl ⟨h0, ?_⟩
      rcases show_cases hp with ⟨hA, hpn, hf, hM⟩ | ⟨hA, ⟨hn, hM⟩ | ⟨hp0, hn, hf, hM⟩ | ⟨hp0, hpn, hf, hM⟩ | ⟨hp0, hpn, hf, hM⟩⟩
      · omega
      · rw [hn]; rfl
      · omega
      · omega
      · omega
    · exact Or.inr ⟨by omega, hto⟩
/-- what is shown tells what stands there. -/
theorem show_there {x : Nat → Pr} {n p : Nat} {key : List Int} (hm : mayP x n) (hp : posAt x n key p) (k : Nat) (hk : k < shM x n key p) (he : (shY x n key p k).pr.1 = key) : shF x n key p + k < n ∧ (x (shF x n key p + k)).1 = key ∧ (shY x n key p k).pr.2 = (x (shF x n key p + k)).2 := by
  have h1 := (shM_lt x n key p k).1 hk
  have h2 := (arL_lt x n key p).1
  exact ⟨by omega, he, rfl⟩
theorem show_none {x : Nat → Pr} {n p : Nat} {key : List Int} (hm : mayP x n) (hp : posAt x n key p) (h : ∀ j, j < shM x n key p → ¬ (shY x n key p j).pr.1 = key) (i : Nat) (hi : i < n) : ¬ (x i).1 = key := fun e => by
  obtain ⟨rfl, hA⟩ := pos_key hm hp i hi e
  rcases show_cases hp with ⟨_, _, hf, hM⟩ | ⟨hA', _⟩
  · refine h 0 (by omega) ?_
    show (x (shF x n key i + 0)).1 = key
    rw [hf]; exact e
  · rw [hA] at hA'; cases hA'
end Go.Proofs.YtkgegihkhdgdoaaDoor

/- the laws' stands. -/
namespace Go.Proofs.YtkgegihkhdgdoaaDoor
set_option linter.unusedSimpArgs false
set_option linter.unusedVariables false
open Go.RowKit Go.Deep

def standP (n : Nat) (x : Nat → Pr) (key : List Int) (e : Ending) : Prop :=
  (∃ i, i < n ∧ (x i).1 = key ∧ (∀ j, j < i → ¬ (x j).1 = key) ∧ e = .returned (.tuple #[.string (strOf (x i).2), .bool true])) ∨ ((∀ j, j < n → ¬ (x j).1 = key) ∧ e = .returned (.tuple #[.string { data := #[] }, .bool false]))
end Go.Proofs.YtkgegihkhdgdoaaDoor

/- the laws' wide. -/
namespace Go.Proofs.YtkgegihkhdgdoaaDoor
set_option linter.unusedSimpArgs false
set_option linter.unusedVariables false
open Go.RowKit Go.Deep

def wideP (m : Nat) (y : Nat → Sp) (e : Ending) : Prop := ∃ b, e = .returned (.bool b) ∧ (b = false → m ≤ 10 ∧ ∀ i, i < m → (y i).pr.1.length + (y i).pr.2.length ≤ 100000 ∧ (y i).path.length ≤ 100)
end Go.Proofs.YtkgegihkhdgdoaaDoor

/- The document's Fit. -/
namespace Go.Proofs.YtkgegihkhdgdoaaDoor
set_option linter.unusedSimpArgs false
set_option linter.unusedVariables false
open Go.RowKit Go.Deep

def fitOne (s : Sp) : Prop := 0 ≤ s.at_ ∧ s.at_ ≤ 2147483647 ∧ s.pr.1.length ≤ 256 ∧ s.pr.2.length ≤ 1048576 ∧ s.path.length ≤ 32
def fitS (cnt : Int) (m : Nat) (y : Nat → Sp) : Prop := 0 ≤ cnt ∧ cnt ≤ 2147483647 ∧ m ≤ 2 ∧ ∀ i, i < m → fitOne (y i)
def fitP (cnt : Int) (m : Nat) (y : Nat → Sp) (e : Ending) : Prop := ∃ b, e = .returned (.bool b) ∧ (b = true ↔ fitS cnt m y)
end Go.Proofs.YtkgegihkhdgdoaaDoor

/- What is read of bytes as what is shown: more behind it; and there and back. -/
namespace Go.Proofs.YtkgegihkhdgdoaaDoor
set_option linter.unusedSimpArgs false
set_option linter.unusedVariables false
open Go.RowKit Go.Deep

theorem spot_app {l : List Int} {b : Bool} (hb : byL l) (hl : l.length ≤ 1000000) (r : List Int) (h : (spotE l b).2 = false) : spotE (l ++ r) b = ((spotE l b).1 ++ r, false) := by
  have h4 := (sumsSt_ok _ h).1
  have h3 := (numR_ok (sp3_by hb) h4).1
  have h2 := (partR_ok (sp2_by hb) h3).1
  have h1 := (partR_ok (sp1_by hb) h2).1
  have e1 : sp1 (l ++ r) b = ((sp1 l b).1, (sp1 l b).2.1 ++ r, (sp1 l b).2.2) := by rw [h1]; exact numR_app hb r h1
  have e2 : sp2 (l ++ r) b = ((sp2 l b).1, (sp2 l b).2.1 ++ r, (sp2 l b).2.2) := by
    rw [h2]; unfold sp2; rw [e1]; exact partR_app (sp1_by hb) (Nat.le_trans (sp1_le l b) hl) r h2
  have e3 : sp3 (l ++ r) b = ((sp3 l b).1, (sp3 l b).2.1 ++ r, (sp3 l b).2.2) := by
    rw [h3]; unfold sp3; rw [e2]; exact partR_app (sp2_by hb) (Nat.le_trans (sp2_le l b) hl) r h3
  have e4 : sp4 (l ++ r) b = ((sp4 l b).1, (sp4 l b).2.1 ++ r, (sp4 l b).2.2) := by
    rw [h4]; unfold sp4; rw [e3]; exact numR_app (sp3_by hb) r h4
  unfold spotE sp5
  rw [e4]
  exact (sumsSt_app r _ h).1
theorem spots_app {l : List Int} {b : Bool} (hb : byL l) (hl : l.length ≤ 1000000) (r : List Int) : ∀ n, (spotsSt l b n).2 = false → spotsSt (l ++ r) b n = ((spotsSt l b n).1 ++ r, false)
  | 0, h => by unfold spotsSt at h ⊢; simp only at h ⊢; rw [h]
  | n + 1, h => by
    have h1 := (spot_ok (spotsSt_by hb n) h).1
    have e := spots_app hb hl r n h1
    have e' : spotsSt (l ++ r) b n = ((spotsSt l b n).1 ++ r, (spotsSt l b n).2) := by rw [e, h1]
    show spotE (spotsSt (l ++ r) b n).1 (spotsSt (l ++ r) b n).2 = _
    rw [e']
    exact spot_app (spotsSt_by hb n) (Nat.le_trans (spotsSt_le l b n) hl) r h
theorem seen_app {l : List Int} (hb : byL l) (hl : l.length ≤ 1000000) (r : List Int) (h : (seE l).2 = false) : seE (l ++ r) = ((seE l).1 ++ r, false) := by
  have h2 := (spotsSt_ok (se2_by hb) _ h).1
  have h1 := (numR_ok (se1_by hb) h2).1
  have e1 : se1 (l ++ r) = ((se1 l).1, (se1 l).2.1 ++ r, (se1 l).2.2) := by rw [h1]; exact numR_app hb r h1
  have e2 : se2 (l ++ r) = ((se2 l).1, (se2 l).2.1 ++ r, (se2 l).2.2) := by rw [h2]; unfold se2; rw [e1]; exact numR_app (se1_by hb) r h2
  unfold seE seSt seM
  rw [e2]
  exact spots_app (se2_by hb) (Nat.le_trans (se2_le l) hl) r _ h
/-- a beginning of what is read is none. -/
theorem seen_cut {l : List Int} (hb : byL l) (hl : l.length ≤ 1000000) (h : (seE l).2 = false) (k : Nat) (hk : k + (seE l).1.length < l.length) : (seE (l.take k)).2 = true := by
  cases hf : (seE (l.take k)).2 with
  | true => rfl
  | false =>
    have hlk : (l.take k).length = k := by rw [List.length_take]; omega
    have e := seen_app (hb.take k) (by omega) (l.drop k) hf
    rw [List.take_append_drop] at e
    have e1 : (seE l).1.length = (seE (l.take k)).1.length + (l.drop k).length := by rw [e, List.length_append]
    rw [List.length_drop] at e1
    omega
theorem seenB_two (cnt : Int) (m : Nat) (y : Nat → Sp) : 2 ≤ (seenB cnt m y).length := by
  unfold seenB
  simp only [List.length_append, numB_length]
  omega
/-- what is read, and written again. -/
theorem seen_take {l : List Int} (hb : byL l) (h : (seE l).2 = false) : (seE l).1.length + 2 ≤ l.length ∧ seenB (seC l) (seM l) (seY l) = l.take (l.length - (seE l).1.length) := by
  have e := seen_ok hb h
  have h2 := seenB_two (seC l) (seM l) (seY l)
  have hlen : l.length = (seenB (seC l) (seM l) (seY l)).length + (seE l).1.length := by
    conv => lhs; rw [e]
    rw [List.length_append]
  refine ⟨by omega, ?_⟩
  have hn : l.length - (seE l).1.length = (seenB (seC l) (seM l) (seY l)).length := by omega
  rw [hn]
  generalize seenB (seC l) (seM l) (seY l) = A at e ⊢
  generalize (seE l).1 = B at e
  rw [e, List.take_append_of_le_length (Nat.le_refl _), List.take_length]
-- there and back
end Go.Proofs.YtkgegihkhdgdoaaDoor

/- Two rows of sums: the document's Same. -/
namespace Go.Proofs.YtkgegihkhdgdoaaDoor
set_option linter.unusedSimpArgs false
set_option linter.unusedVariables false
open Go.RowKit Go.Deep

set_option maxHeartbeats 2000000 in
set_option maxRecDepth 100000 in
theorem rsame_any (A B : List (List Int)) (v u : Value) (w : World) (hA : sumsAt w v A) (hB : sumsAt w u B) (hm : A.length ≤ 100000) :
    Calls Tryd.prog 44 #[v, u] w fun e w' => e = .returned (.bool (decide (A = B))) ∧ Below w.heap.size w w' := by
  obtain ⟨sA, a, ac, rfl, ha, ham, cA⟩ := hA
  obtain ⟨sB, b, bc, rfl, hb, hbm, cB⟩ := hB
  have q0 : (A.length : Int) ≤ 100000 := by omega
  by_cases hl : A.length = B.length
  · have CA : Hid _ := cA
    have CB : Hid _ := cB
    have SA : Hid _ := sA
    have SB : Hid _ := sB
    obtain ⟨n, hn⟩ : ∃ n, n = A.length := ⟨_, rfl⟩
    have HN : Hid (n = A.length ∧ A.length = B.length) := (show n = A.length ∧ A.length = B.length from ⟨hn, hl⟩)
    rw [← hl, ← hn]
    rw [← hn] at q0
    clear cA cB sA sB ham hbm ha hb hl hn
    go_enter Tryd.func44, Tryd.ntmps44
    go_wp2
    go_loopw [5] (fun i wr => ∃ k : Nat, k ≤ n ∧ i = .int .i64 k ∧ (∀ j, j < k → A[j]? = B[j]?) ∧ Below w.heap.size w wr) (fun i _ => n - (intOf i).toNat)
    case atStart => exact ⟨0, by omega, rfl, fun j hj => by omega, Below.refl _ _⟩
    case round =>
      obtain ⟨k, hk, rfl, hall, hbw⟩ := hrel
      have HL : Hid _ := hall
      have HW : Hid _ := hbw
      clear hall hbw
      have p0 : (0 : Int) ≤ (k : Int) := by omega
      by_cases hlt : k < n
      · have p1 : (k : Int) < (n : Int) := by omega
        have hkA : k < A.length := by have := HN.out; omega
        have hkB : k < B.length := by have := HN.out; omega
        obtain ⟨g, o, rfl, hg, hc⟩ := CA.out (by omega)
        obtain ⟨g', o', rfl, hg', hc'⟩ := CB.out (by omega)
        obtain ⟨x, hx⟩ : ∃ x, x = A[k] := ⟨_, rfl⟩
        obtain ⟨y, hy⟩ : ∃ y, y = B[k] := ⟨_, rfl⟩
        have hxs : isSum x := by rw [hx]; exact SA.out _ (List.getElem_mem _)
        have hys : isSum y := by rw [hy]; exact SB.out _ (List.getElem_mem _)
        have lx : ∀ wz, Below w.heap.size w wz → ∀ i, i < 32 → wz.cell? ⟨g, o + k * 32 + i, none⟩ = some (arrV x i) := fun wz hz i hi => by rw [hx]; exact (hz.cell (p := ⟨g, o + k * 32 + i, none⟩) hg).trans (hc k hkA i hi)
        have ly : ∀ wz, Below w.heap.size w wz → ∀ i, i < 32 → wz.cell? ⟨g', o' + k * 32 + i, none⟩ = some (arrV y i) := fun wz hz i hi => by rw [hy]; exact (hz.cell (p := ⟨g', o' + k * 32 + i, none⟩) hg').trans (hc' k hkB i hi)
        have LX : Hid _ := lx
        have LY : Hid _ := ly
        obtain ⟨bq, hbq⟩ : ∃ bq, bq = !decide (x = y) := ⟨_, rfl⟩
        have E : ∀ wx, (binOp .neq 32 (.agg (rowV 32 (arrV x))) (.agg (rowV 32 (arrV y)))).run Tryd.prog wx = .ok (.bool bq) wx := fun wx => by
          have := run_neq_arr (P := Tryd.prog) wx 32 5 .u8 32 (fun i => x.getD i 0) (fun i => y.getD i 0) Tryd.underlying32 Tryd.underlying5 (by kernel_rfl) (by kernel_rfl)
          rw [arrEq_list hxs hys] at this
          rw [hbq]; exact this
        have HX : Hid (A[k]? = some x ∧ B[k]? = some y) := (show A[k]? = some x ∧ B[k]? = some y from ⟨by rw [hx]; exact List.getElem?_eq_getElem hkA, by rw [hy]; exact List.getElem?_eq_getElem hkB⟩)
        have HBQ : Hid _ := hbq
        clear hc hc' lx ly hx hy hbq CA CB
        go_upto_region 6 with fail
        go_cut [5, 25] from 11 to 25 (fun i c wx => i = .int .i64 (k : Int) ∧ c = .bool bq ∧ Below w.heap.size w wx)
        case first =>
          refine wp_region_noPanic ?_
          refine wp_region_held_drew (S := fun w' => Below w.heap.size w w') (by kernel_rfl) (HW.out.drew) (fun hHeld => ?_)
          refine take_op (i := 0) (v := ?va0) rfl (by kernel_rfl) (by kernel_rfl) (by kernel_rfl) (fun _ _ _ h => h) rfl hHeld ?ya0 ?ra0
          case ya0 => (intro wz hz; go_simp; first | done | with_reducible rfl)
          try simp only [Act.put, List.setIfInBounds_toArray, List.set_cons_zero, List.set_cons_succ]
          refine take_op (i := 1) (v := ?va1) rfl (by kernel_rfl) (by kernel_rfl) (by kernel_rfl) (fun _ _ _ h => h) rfl hHeld ?ya1 ?ra1
          case ya1 => (intro wz hz; go_simp; first | done | with_reducible rfl)
          try simp only [Act.put, List.setIfInBounds_toArray, List.set_cons_zero, List.set_cons_succ]
          refine take_op (i := 2) (v := ?va2) rfl (by kernel_rfl) (by kernel_rfl) (by kernel_rfl) (fun _ _ _ h => h) rfl hHeld ?ya2 ?ra2
          case ya2 => (intro wz hz; go_simp; first | done | with_reducible rfl)
          try simp only [Act.put, List.setIfInBounds_toArray, List.set_cons_zero, List.set_cons_succ]
          refine take_load (i := 3) rfl (by kernel_rfl) (by kernel_rfl) (by kernel_rfl) 32 _ rfl g (o + k * 32) 32 (arrV x) rfl _ Tryd.underlying32 rfl (by kernel_rfl) (fun _ _ _ h => h) rfl hHeld (fun wz hz => LX.out wz hz) ?_
          try simp only [Act.put, List.setIfInBounds_toArray, List.set_cons_zero, List.set_cons_succ]
          refine take_op (i := 4) (v := ?va4) rfl (by kernel_rfl) (by kernel_rfl) (by kernel_rfl) (fun _ _ _ h => h) rfl hHeld ?ya4 ?ra4
          case ya4 => (intro wz hz; go_simp; first | done | with_reducible rfl)
          try simp only [Act.put, List.setIfInBounds_toArray, List.set_cons_zero, List.set_cons_succ]
          refine take_op (i := 5) (v := ?va5) rfl (by kernel_rfl) (by kernel_rfl) (by kernel_rfl) (fun _ _ _ h => h) rfl hHeld ?ya5 ?ra5
          case ya5 => (intro wz hz; go_simp; first | done | with_reducible rfl)
          try simp only [Act.put, List.setIfInBounds_toArray, List.set_cons_zero, List.set_cons_succ]
          refine take_op (i := 6) (v := ?va6) rfl (by kernel_rfl) (by kernel_rfl) (by kernel_rfl) (fun _ _ _ h => h) rfl hHeld ?ya6 ?ra6
          case ya6 => (intro wz hz; go_simp; first | done | with_reducible rfl)
          try simp only [Act.put, List.setIfInBounds_toArray, List.set_cons_zero, List.set_cons_succ]
          refine take_load (i := 7) rfl (by kernel_rfl) (by kernel_rfl) (by kernel_rfl) 32 _ rfl g' (o' + k * 32) 32 (arrV y) rfl _ Tryd.underlying32 rfl (by kernel_rfl) (fun _ _ _ h => h) rfl hHeld (fun wz hz => LY.out wz hz) ?_
          try simp only [Act.put, List.setIfInBounds_toArray, List.set_cons_zero, List.set_cons_succ]
          refine take_op (i := 8) (v := ?va8) rfl (by kernel_rfl) (by kernel_rfl) (by kernel_rfl) (fun _ _ _ h => h) rfl hHeld ?ya8 ?ra8
          case ya8 => (intro wz hz; go_simp; first | done | with_reducible rfl)
          try simp only [Act.put, List.setIfInBounds_toArray, List.set_cons_zero, List.set_cons_succ]
          refine wpAnyH_done (by kernel_rfl) ?_ _
          refine NoPanic.normal ?_
          have HB2 : Hid _ := hHeld
          clear hHeld
          go_wp2_with fail
          go_meet
          case rel => exact ⟨rfl, rfl, HB2.out⟩
        case rest =>
          obtain ⟨rfl, rfl, hb2⟩ := hcut
          have HB2 : Hid _ := hb2
          clear hb2 E LX LY
          cases bq with
          | false =>
            have hxy : x = y := by
              have := HBQ.out
              simpa using this
            have HE : Hid (A[k]? = B[k]?) := (show A[k]? = B[k]? from by rw [HX.out.1, HX.out.2, hxy])
            clear hxy
            go_wp2
            go_light
            refine ⟨⟨k + 1, by omega, by go_num, fun j hj => ?_, HB2.out⟩, by simp [intOf]; omega⟩
            by_cases e : j < k
            · exact HL.out j e
            · obtain rfl : j = k := by omega
              exact HE.out
          | true =>
            have hne : Hid (decide (A = B) = false) := (show decide (A = B) = false from decide_eq_false fun e => by
              have h1 := HX.out
              rw [e] at h1
              have h2 : x = y := Option.some.inj (h1.1.symm.trans h1.2)
              have h3 := HBQ.out
              rw [h2] at h3
              simp at h3)
            go_wp2
            go_ret
            exact ⟨by rw [hne.out]; rfl, HB2.out⟩
      · obtain rfl : k = n := by omega
        have heq : Hid (decide (A = B) = true) := (show decide (A = B) = true from decide_eq_true (List.ext_getElem? fun j => by
          have := HN.out
          by_cases e : j < k
          · exact HL.out j e
          · rw [List.getElem?_eq_none (by omega), List.getElem?_eq_none (by omega)]))
        go_wp2
        go_ret
        exact ⟨by rw [heq.out]; rfl, HW.out⟩
  · have q1 : ¬ (A.length : Int) = (B.length : Int) := by omega
    have hne : Hid (decide (A = B) = false) := (show decide (A = B) = false from decide_eq_false fun e => hl (by rw [e]))
    clear cA cB sA sB hl
    go_enter Tryd.func44, Tryd.ntmps44
    go_wp2
    go_ret
    exact ⟨by rw [hne.out]; rfl, Below.refl _ _⟩
end Go.Proofs.YtkgegihkhdgdoaaDoor

/- The document's Same of what is shown. -/
namespace Go.Proofs.YtkgegihkhdgdoaaDoor
set_option linter.unusedSimpArgs false
set_option linter.unusedVariables false
open Go.RowKit Go.Deep

/-- what is shown is the same, through and through. -/
def sameS (c d : Int) (m n : Nat) (x y : Nat → Sp) : Prop := c = d ∧ m = n ∧ ∀ i, i < m → x i = y i
def sameP (c d : Int) (m n : Nat) (x y : Nat → Sp) (e : Ending) : Prop := ∃ b, e = .returned (.bool b) ∧ (b = true ↔ sameS c d m n x y)
/-- a spot of a row that stays. -/
def spotFact (w2 : World) (a : Option Addr) (m : Nat) (x : Nat → Sp) (k : Nat) (g o : Nat) (gx : Nat → Value) (ka va pa : Option Addr) (kcap vcap pcap : Nat) : Prop :=
  (a = some ⟨g, o, none⟩ ∧ gx = spG (x k).at_ (.slice ka (x k).pr.1.length kcap) (.slice va (x k).pr.2.length vcap) (.slice pa (x k).path.length pcap)) ∧ (∀ i, i < 4 → (gx i).oneCell' = true) ∧
  ∀ wz, Below w2.heap.size w2 wz → (∀ i, i < 4 → wz.cell? ⟨g, o + k * 4 + i, none⟩ = some (gx i)) ∧ anyBytes wz (.slice ka (x k).pr.1.length kcap) (x k).pr.1 ∧ anyBytes wz (.slice va (x k).pr.2.length vcap) (x k).pr.2 ∧ sumsAt wz (.slice pa (x k).path.length pcap) (x k).path
theorem spot_fact {w : World} {a : Option Addr} {m cap : Nat} {x : Nat → Sp} (h : spotsAt w (.slice a m cap) m x) {k : Nat} (hk : k < m) : ∃ g o gx ka va pa kcap vcap pcap, spotFact w a m x k g o gx ka va pa kcap vcap pcap := by
  obtain ⟨g, o, cap', e, hg, hcell⟩ := h.at (by omega)
  injection e with e1 e2 e3
  subst e1
  subst e3
  obtain ⟨ka, kcap, va, vcap, pa, pcap, _, H⟩ := hcell k hk
  refine ⟨g, o, _, ka, va, pa, kcap, vcap, pcap, ⟨rfl, rfl⟩, spG_one _ _ _ _ _ _ _ _ _ _, fun wz hz => ?_⟩
  obtain ⟨q0, q1, q2, q3, q4, q5, q6⟩ := H wz hz
  refine ⟨fun i hi => ?_, q4, q5, q6⟩
  have : i = 0 ∨ i = 1 ∨ i = 2 ∨ i = 3 := by omega
  rcases this with rfl | rfl | rfl | rfl
  · exact q0
  · exact q1
  · exact q2
  · exact q3
set_option maxHeartbeats 4000000 in
set_option maxRecDepth 100000 in
theorem rsames_any (c d : Int) (m n : Nat) (sv tv : Value) (x y : Nat → Sp) (w : World) (hp : spotsAt w sv m x) (hq : spotsAt w tv n y) (hlp : ∀ i, i < m → (x i).path.length ≤ 100000) :
    Calls Tryd.prog 17 #[.agg #[.int .i64 c, sv], .agg #[.int .i64 d, tv]] w fun e w' => sameP c d m n x y e ∧ Below w.heap.size w w' := by
  obtain ⟨a, cap, hv, hmc, hcm, _⟩ := (id hp : spotsAt w sv m x)
  obtain ⟨a', cap', hv', hmc', hcm', _⟩ := (id hq : spotsAt w tv n y)
  have hmm : (m : Int) ≤ 9223372036854775807 := by unfold maxLen at hcm; omega
  subst hv
  subst hv'
  obtain ⟨w1, hw1⟩ : ∃ w1, w1 = w.alloc (.cells #[.int .i64 c, .slice a m cap] 29) := ⟨_, rfl⟩
  obtain ⟨w2, hw2⟩ : ∃ w2, w2 = w1.alloc (.cells #[.int .i64 d, .slice a' n cap'] 29) := ⟨_, rfl⟩
  have b1 : Below w.heap.size w w1 := by rw [hw1]; exact (Below.refl _ _).alloc (Nat.le_refl _) _
  have b2 : Below w1.heap.size w1 w2 := by rw [hw2]; exact (Below.refl _ _).alloc (Nat.le_refl _) _
  have b12 : Below w.heap.size w w2 := b1.trans (b2.mono b1.size)
  have hz1 : w1.heap.size = w.heap.size + 1 := by rw [hw1]; simp
  have hb0 : w1.heap[w.heap.size]? = some (.cells #[.int .i64 c, .slice a m cap] 29) := by rw [hw1, blk_alloc_new]
  have hb1 : w2.heap[w1.heap.size]? = some (.cells #[.int .i64 d, .slice a' n cap'] 29) := by rw [hw2, blk_alloc_new]
  have k0 : w1.cell? ⟨w.heap.size, 0, none⟩ = some (.int .i64 c) := by rw [cell_of_row _ _ _ _ _ _ hb0]; rfl
  have k1 : w1.cell? ⟨w.heap.size, 1, none⟩ = some (.slice a m cap) := by rw [cell_of_row _ _ _ _ _ _ hb0]; rfl
  have c0 : w2.cell? ⟨w.heap.size, 0, none⟩ = some (.int .i64 c) := (b2.cell (p := ⟨w.heap.size, 0, none⟩) (by show w.heap.size < _; omega)).trans k0
  have c1 : w2.cell? ⟨w.heap.size, 1, none⟩ = some (.slice a m cap) := (b2.cell (p := ⟨w.heap.size, 1, none⟩) (by show w.heap.size < _; omega)).trans k1
  have d0 : w2.cell? ⟨w1.heap.size, 0, none⟩ = some (.int .i64 d) := by rw [cell_of_row _ _ _ _ _ _ hb1]; rfl
  have d1 : w2.cell? ⟨w1.heap.size, 1, none⟩ = some (.slice a' n cap') := by rw [cell_of_row _ _ _ _ _ _ hb1]; rfl
  have C1 : Hid (∀ wz, Below w2.heap.size w2 wz → wz.cell? ⟨w.heap.size, 1, none⟩ = some (.slice a m cap) ∧ wz.cell? ⟨w1.heap.size, 1, none⟩ = some (.slice a' n cap')) := (show _ from fun wz hz => ⟨(hz.cell (p := ⟨w.heap.size, 1, none⟩) (block_lt_of_cell c1)).trans c1, (hz.cell (p := ⟨w1.heap.size, 1, none⟩) (block_lt_of_cell d1)).trans d1⟩)
  have C0 : Hid (∀ wz, Below w2.heap.size w2 wz → Below w.heap.size w wz) := (show _ from fun wz hz => b12.trans (hz.mono b12.size))
  have HP : Hid (spotsAt w2 (.slice a m cap) m x ∧ spotsAt w2 (.slice a' n cap') n y) := (show _ ∧ _ from ⟨hp.below b12 (Nat.le_refl _), hq.below b12 (Nat.le_refl _)⟩)
  have HLP : Hid (∀ i, i < m → (x i).path.length ≤ 100000) := (show _ from hlp)
  have hm0 : (0 : Int) ≤ (m : Int) := by omega
  have B12 : Hid (Below w.heap.size w w2) := (show Below w.heap.size w w2 from b12)
  obtain ⟨bs, hbs⟩ : ∃ bs, bs = w.heap.size := ⟨_, rfl⟩
  obtain ⟨bt, hbt⟩ : ∃ bt, bt = w1.heap.size := ⟨_, rfl⟩
  have hbt' : bt = w.heap.size + 1 := by rw [hbt, hz1]
  rw [← hbs] at c0 c1 
  rw [← hbt] at d0 d1
  rw [← hbs, ← hbt] at C1
  clear hp hq hmc hcm hmc' hcm' b1 b2 b12 hb0 hb1 k0 k1 hlp
  go_enter Tryd.func17, Tryd.ntmps17
  go_upto_region 1 with fail
  rw [← hw1, ← hw2]
  try rw [← hz1]
  try rw [← hbt]
  try rw [← hbs]
  clear hw1 hw2 hbs hbt hbt' hz1
  by_cases hcd : c = d
  · by_cases hmn : m = n
    · obtain rfl := hcd
      have EQ : Hid (m = n) := hmn
      have hmn' : (m : Int) = (n : Int) := by omega
      clear hmn
      go_wp2
      go_loopw [5] (fun i wr => ∃ k : Nat, k ≤ m ∧ i = .int .i64 (k : Int) ∧ (∀ j, j < k → x j = y j) ∧ Below w2.heap.size w2 wr) (fun i _ => m - (intOf i).toNat)
      case atStart => exact ⟨0, by omega, rfl, fun j hj => by omega, Below.refl _ _⟩
      case round =>
        obtain ⟨k, hkm, rfl, hall, hbr⟩ := hrel
        have p0 : (0 : Int) ≤ (k : Int) := by omega
        have HAL : Hid (∀ j, j < k → x j = y j) := (show _ from hall)
        have HBR : Hid (Below w2.heap.size w2 wr) := (show Below w2.heap.size w2 wr from hbr)
        have c1r := (C1.out wr hbr).1
        clear hall hmn'
        by_cases hlt : k < m
        · have p1 : (k : Int) < (m : Int) := by omega
          have p1' : (k : Int) < (n : Int) := by have := EQ.out; omega
          obtain ⟨g, o, gx, ka, va, pa, kcap, vcap, pcap, F1⟩ := spot_fact HP.out.1 hlt
          obtain ⟨g', o', gy, kb, vb, pb, kbcap, vbcap, pbcap, F2⟩ := spot_fact HP.out.2 (show k < n by have := EQ.out; omega)
          obtain ⟨⟨rfl, hgx⟩, one1, F1⟩ := F1
          obtain ⟨⟨rfl, hgy⟩, one2, F2⟩ := F2
          have ONE : Hid ((∀ i, i < 4 → (gx i).oneCell' = true) ∧ (∀ i, i < 4 → (gy i).oneCell' = true)) := (show _ ∧ _ from ⟨one1, one2⟩)
          have GX : Hid (gx = _) := hgx
          have GY : Hid (gy = _) := hgy
          have FA : Hid _ := F1
          have FB : Hid _ := F2
          clear one1 one2 hgx hgy F1 F2 c0 c1 d0 d1
          go_upto_region 6 with fail
          clear c1r hbr
          go_cut [5, 6, 7] from 29 to 38 (fun i p6 p7 wx => i = .int .i64 (k : Int) ∧ ∃ b6 b7, p6 = .pointer (some ⟨b6, 0, none⟩) ∧ p7 = .pointer (some ⟨b7, 0, none⟩) ∧ wx.rowIs b6 41 4 gx ∧ wx.rowIs b7 41 4 gy ∧ Below w2.heap.size w2 wx)
          case first =>
            have BD : Hid (Below w2.heap.size w2 wr.drew) := (show Below w2.heap.size w2 wr.drew from HBR.out.trans ((Below.refl wr.heap.size wr).drew.mono HBR.out.size))
            refine wp_region_noPanic ?_
            refine wp_region_held_drew (S := fun w' => Below w2.heap.size w2 w') (by kernel_rfl) BD.out (fun hHeld => ?_)
            generalize wr.drew = wd at BD hHeld ⊢
            refine take_op (i := 0) (v := ?va0) rfl (by kernel_rfl) (by kernel_rfl) (by kernel_rfl) (fun _ _ _ h => h) rfl hHeld ?ya0 ?ra0
            case ya0 => (intro wz hz; go_simp; first | done | with_reducible rfl)
            try simp only [Act.put, List.setIfInBounds_toArray, List.set_cons_zero, List.set_cons_succ]
            refine take_op (i := 1) (v := ?va1) rfl (by kernel_rfl) (by kernel_rfl) (by kernel_rfl) (fun _ _ _ h => h) rfl hHeld ?ya1 ?ra1
            case ya1 => (intro wz hz; have hcz := (C1.out wz hz).1; go_simp; first | done | with_reducible rfl)
            try simp only [Act.put, List.setIfInBounds_toArray, List.set_cons_zero, List.set_cons_succ]
            refine take_op (i := 2) (v := ?va2) rfl (by kernel_rfl) (by kernel_rfl) (by kernel_rfl) (fun _ _ _ h => h) rfl hHeld ?ya2 ?ra2
            case ya2 => (intro wz hz; go_simp; first | done | with_reducible rfl)
            try simp only [Act.put, List.setIfInBounds_toArray, List.set_cons_zero, List.set_cons_succ]
            refine take_op (i := 3) (v := ?va3) rfl (by kernel_rfl) (by kernel_rfl) (by kernel_rfl) (fun _ _ _ h => h) rfl hHeld ?ya3 ?ra3
            case ya3 => (intro wz hz; go_simp; first | done | with_reducible rfl)
            try simp only [Act.put, List.setIfInBounds_toArray, List.set_cons_zero, List.set_cons_succ]
            refine take_load (i := 4) rfl (by kernel_rfl) (by kernel_rfl) (by kernel_rfl) 41 _ rfl g (o + k * 4) 4 gx rfl _ Tryd.underlying41 rfl (by kernel_rfl) (fun _ _ _ h => h) rfl hHeld (fun wz hz => (FA.out wz hz).1) ?_
            try simp only [Act.put, List.setIfInBounds_toArray, List.set_cons_zero, List.set_cons_succ]
            refine take_op (i := 5) (v := ?va5) rfl (by kernel_rfl) (by kernel_rfl) (by kernel_rfl) (fun _ _ _ h => h) rfl hHeld ?ya5 ?ra5
            case ya5 => (intro wz hz; go_simp; first | done | with_reducible rfl)
            try simp only [Act.put, List.setIfInBounds_toArray, List.set_cons_zero, List.set_cons_succ]
            refine take_op (i := 6) (v := ?va6) rfl (by kernel_rfl) (by kernel_rfl) (by kernel_rfl) (fun _ _ _ h => h) rfl hHeld ?ya6 ?ra6
            case ya6 => (intro wz hz; have hcz := (C1.out wz hz).2; go_simp; first | done | with_reducible rfl)
            try simp only [Act.put, List.setIfInBounds_toArray, List.set_cons_zero, List.set_cons_succ]
            refine take_op (i := 7) (v := ?va7) rfl (by kernel_rfl) (by kernel_rfl) (by kernel_rfl) (fun _ _ _ h => h) rfl hHeld ?ya7 ?ra7
            case ya7 => (intro wz hz; go_simp; first | done | with_reducible rfl)
            try simp only [Act.put, List.setIfInBounds_toArray, List.set_cons_zero, List.set_cons_succ]
            refine take_op (i := 8) (v := ?va8) rfl (by kernel_rfl) (by kernel_rfl) (by kernel_rfl) (fun _ _ _ h => h) rfl hHeld ?ya8 ?ra8
            case ya8 => (intro wz hz; go_simp; first | done | with_reducible rfl)
            try simp only [Act.put, List.setIfInBounds_toArray, List.set_cons_zero, List.set_cons_succ]
            refine take_load (i := 9) rfl (by kernel_rfl) (by kernel_rfl) (by kernel_rfl) 41 _ rfl g' (o' + k * 4) 4 gy rfl _ Tryd.underlying41 rfl (by kernel_rfl) (fun _ _ _ h => h) rfl hHeld (fun wz hz => (FB.out wz hz).1) ?_
            try simp only [Act.put, List.setIfInBounds_toArray, List.set_cons_zero, List.set_cons_succ]
            refine take_pair (i := 10) (j := 11) rfl rfl (by kernel_rfl) rfl rfl (fun K hK => ?_) (fun K hK => ?_)
            · refine wp_of_run (exec_allocSp rfl) ?_
              refine hK.out _ _ (BD.out.alloc BD.out.size _) (fun hHeld => ?_)
              clear hK K
              try simp only [Act.put, List.setIfInBounds_toArray, List.set_cons_zero, List.set_cons_succ]
              refine take_one (i := 11) rfl (by kernel_rfl) rfl (fun K hK => ?_)
              refine wp_of_run (exec_allocSp rfl) ?_
              obtain ⟨z1, z2, bz⟩ := two_sp wd
              rw [World.size_alloc]
              generalize (wd.alloc (.cells (rowV 4 spZ) 41)).alloc (.cells (rowV 4 spZ) 41) = W at z1 z2 bz ⊢
              have BW : Hid (Below w2.heap.size w2 W) := (show Below w2.heap.size w2 W from BD.out.trans (bz.mono BD.out.size))
              refine hK.out _ _ BW.out (fun hHeld => ?_)
              clear hK K
              try simp only [Act.put, List.setIfInBounds_toArray, List.set_cons_zero, List.set_cons_succ]
              obtain ⟨V1, s1, q1, y1, c1'⟩ := sp_store W wd.heap.size gx z1 ONE.out.1
              obtain ⟨V2, s2, q2, y2, c2'⟩ := sp_store V1 (wd.heap.size + 1) gy (c1'.row z2 z2.lt (by omega)) ONE.out.2
              have q1' := c2'.row q1 q1.lt (by omega)
              have hwd := BD.out.size
              have bV1 : Below w2.heap.size w2 V1 := BW.out.trans ((c1'.mono BW.out.size).below (by omega))
              have bV2 : Below w2.heap.size w2 V2 := bV1.trans ((c2'.mono bV1.size).below (by omega))
              refine take_one (i := 12) rfl (by kernel_rfl) rfl (fun K hK => ?_)
              unfold Oper.wp execOp
              simp only [Instr.storeAt, Instr.sureAddr, Sem.run_bind, Sem.run_pure, Result.andThen_ok]
              simp [Act.eval, s1, Oper.upon]
              refine hK.out _ _ bV1 (fun hHeld => ?_)
              clear hK K
              try simp only [Act.put, List.setIfInBounds_toArray, List.set_cons_zero, List.set_cons_succ]
              refine take_one (i := 13) rfl (by kernel_rfl) rfl (fun K hK => ?_)
              unfold Oper.wp execOp
              simp only [Instr.storeAt, Instr.sureAddr, Sem.run_bind, Sem.run_pure, Result.andThen_ok]
              simp [Act.eval, s2, Oper.upon]
              refine hK.out _ _ bV2 (fun hHeld => ?_)
              clear hK K
              try simp only [Act.put, List.setIfInBounds_toArray, List.set_cons_zero, List.set_cons_succ]
              refine wpAnyH_done (by kernel_rfl) ?_ _
              refine NoPanic.normal ?_
              have FIN : Hid (V2.rowIs wd.heap.size 41 4 gx ∧ V2.rowIs (wd.heap.size + 1) 41 4 gy ∧ Below w2.heap.size w2 V2) := (show _ ∧ _ ∧ _ from ⟨q1', q2, bV2⟩)
              clear s1 s2 q1 q2 y1 y2 c1' c2' q1' bV1 bV2 z1 z2 bz hHeld hwd
              go_wp2_with fail
              go_meet
              case rel => exact ⟨rfl, _, _, rfl, rfl, FIN.out.1, FIN.out.2.1, FIN.out.2.2⟩
            · refine wp_of_run (exec_allocSp rfl) ?_
              refine hK.out _ _ (BD.out.alloc BD.out.size _) (fun hHeld => ?_)
              clear hK K
              try simp only [Act.put, List.setIfInBounds_toArray, List.set_cons_zero, List.set_cons_succ]
              refine take_one (i := 10) rfl (by kernel_rfl) rfl (fun K hK => ?_)
              refine wp_of_run (exec_allocSp rfl) ?_
              obtain ⟨z1, z2, bz⟩ := two_sp wd
              rw [World.size_alloc]
              generalize (wd.alloc (.cells (rowV 4 spZ) 41)).alloc (.cells (rowV 4 spZ) 41) = W at z1 z2 bz ⊢
              have BW : Hid (Below w2.heap.size w2 W) := (show Below w2.heap.size w2 W from BD.out.trans (bz.mono BD.out.size))
              refine hK.out _ _ BW.out (fun hHeld => ?_)
              clear hK K
              try simp only [Act.put, List.setIfInBounds_toArray, List.set_cons_zero, List.set_cons_succ]
              obtain ⟨V1, s1, q1, y1, c1'⟩ := sp_store W (wd.heap.size + 1) gx z2 ONE.out.1
              obtain ⟨V2, s2, q2, y2, c2'⟩ := sp_store V1 wd.heap.size gy (c1'.row z1 z1.lt (by omega)) ONE.out.2
              have q1' := c2'.row q1 q1.lt (by omega)
              have hwd := BD.out.size
              have bV1 : Below w2.heap.size w2 V1 := BW.out.trans ((c1'.mono BW.out.size).below (by omega))
              have bV2 : Below w2.heap.size w2 V2 := bV1.trans ((c2'.mono bV1.size).below (by omega))
              refine take_one (i := 12) rfl (by kernel_rfl) rfl (fun K hK => ?_)
              unfold Oper.wp execOp
              simp only [Instr.storeAt, Instr.sureAddr, Sem.run_bind, Sem.run_pure, Result.andThen_ok]
              simp [Act.eval, s1, Oper.upon]
              refine hK.out _ _ bV1 (fun hHeld => ?_)
              clear hK K
              try simp only [Act.put, List.setIfInBounds_toArray, List.set_cons_zero, List.set_cons_succ]
              refine take_one (i := 13) rfl (by kernel_rfl) rfl (fun K hK => ?_)
              unfold Oper.wp execOp
              simp only [Instr.storeAt, Instr.sureAddr, Sem.run_bind, Sem.run_pure, Result.andThen_ok]
              simp [Act.eval, s2, Oper.upon]
              refine hK.out _ _ bV2 (fun hHeld => ?_)
              clear hK K
              try simp only [Act.put, List.setIfInBounds_toArray, List.set_cons_zero, List.set_cons_succ]
              refine wpAnyH_done (by kernel_rfl) ?_ _
              refine NoPanic.normal ?_
              have FIN : Hid (V2.rowIs (wd.heap.size + 1) 41 4 gx ∧ V2.rowIs wd.heap.size 41 4 gy ∧ Below w2.heap.size w2 V2) := (show _ ∧ _ ∧ _ from ⟨q1', q2, bV2⟩)
              clear s1 s2 q1 q2 y1 y2 c1' c2' q1' bV1 bV2 z1 z2 bz hHeld hwd
              go_wp2_with fail
              go_meet
              case rel => exact ⟨rfl, _, _, rfl, rfl, FIN.out.1, FIN.out.2.1, FIN.out.2.2⟩
          case rest =>
            obtain ⟨rfl, b6, b7, rfl, rfl, r6, r7, b3⟩ := hcut
            rename World => w3
            have x0 : w3.cell? ⟨b6, 0, none⟩ = some (.int .i64 (x k).at_) := by have := r6.cell (i := 0) (by omega); rw [GX.out] at this; exact this
            have x1 : w3.cell? ⟨b6, 1, none⟩ = some (.slice ka (x k).pr.1.length kcap) := by have := r6.cell (i := 1) (by omega); rw [GX.out] at this; exact this
            have x2 : w3.cell? ⟨b6, 2, none⟩ = some (.slice va (x k).pr.2.length vcap) := by have := r6.cell (i := 2) (by omega); rw [GX.out] at this; exact this
            have x3 : w3.cell? ⟨b6, 3, none⟩ = some (.slice pa (x k).path.length pcap) := by have := r6.cell (i := 3) (by omega); rw [GX.out] at this; exact this
            have y0 : w3.cell? ⟨b7, 0, none⟩ = some (.int .i64 (y k).at_) := by have := r7.cell (i := 0) (by omega); rw [GY.out] at this; exact this
            have y1 : w3.cell? ⟨b7, 1, none⟩ = some (.slice kb (y k).pr.1.length kbcap) := by have := r7.cell (i := 1) (by omega); rw [GY.out] at this; exact this
            have y2 : w3.cell? ⟨b7, 2, none⟩ = some (.slice vb (y k).pr.2.length vbcap) := by have := r7.cell (i := 2) (by omega); rw [GY.out] at this; exact this
            have y3 : w3.cell? ⟨b7, 3, none⟩ = some (.slice pb (y k).path.length pbcap) := by have := r7.cell (i := 3) (by omega); rw [GY.out] at this; exact this
            obtain ⟨_, fa1, fa2, fa3⟩ := FA.out w3 b3
            obtain ⟨_, fb1, fb2, fb3⟩ := FB.out w3 b3
            have X := rsame_any _ _ _ _ w3 fa3 fb3 (HLP.out k hlt)
            have v1 := convK w3 _ _ fa1
            have v2 := convK w3 _ _ fa2
            have v3 := convK w3 _ _ fb1
            have v4 := convK w3 _ _ fb2
            have hE1 : decide (strOf (x k).pr.1 = strOf (y k).pr.1) = decide ((x k).pr.1 = (y k).pr.1) := decide_eq_decide.mpr (strOf_eq fa1 fb1)
            have hE2 : decide (strOf (x k).pr.2 = strOf (y k).pr.2) = decide ((x k).pr.2 = (y k).pr.2) := decide_eq_decide.mpr (strOf_eq fa2 fb2)
            have B3 : Hid (Below w2.heap.size w2 w3 ∧ Below w.heap.size w w3) := (show _ ∧ _ from ⟨b3, C0.out w3 b3⟩)
            have NOT : Hid (¬ x k = y k → sameP c c m n x y (.returned (.bool false))) := (show _ from fun h => ⟨false, rfl, fun e => (by cases e), fun e => absurd (e.2.2 k hlt) h⟩)
            have NXT : Hid (x k = y k → ∀ j, j < k + 1 → x j = y j) := (show _ from fun h j hj => by
              by_cases e : j = k
              · rw [e]; exact h
              · exact HAL.out j (by omega))
            clear r6 r7 b3 fa1 fa2 fa3 fb1 fb2 fb3 GX GY FA FB ONE C1 HP HLP HAL HBR
            obtain ⟨xk, hxk⟩ : ∃ s, s = x k := ⟨_, rfl⟩
            obtain ⟨yk, hyk⟩ : ∃ s, s = y k := ⟨_, rfl⟩
            rw [← hxk, ← hyk] at NOT NXT
            rw [← hxk, ← hyk] at X hE1 hE2
            rw [← hxk] at x0 x1 x2 x3 v1 v2
            rw [← hyk] at y0 y1 y2 y3 v3 v4
            clear hxk hyk
            obtain ⟨xa, ⟨xp, xq⟩, xs⟩ := xk
            obtain ⟨ya, ⟨yp, yq⟩, ys⟩ := yk
            simp only at x0 x1 x2 x3 y0 y1 y2 y3 X v1 v2 v3 v4 hE1 hE2
            by_cases h1 : xa = ya
            · by_cases h2 : xp = yp
              · by_cases h3 : xq = yq
                · subst h1 h2 h3
                  have NX2 : Hid (xs = ys → ∀ j, j < k + 1 → x j = y j) := (show _ from fun h => NXT.out (by rw [h]))
                  have NO2 : Hid (¬ xs = ys → sameP c c m n x y (.returned (.bool false))) := (show _ from fun h => NOT.out (fun e => h (by injection e)))
                  clear NOT NXT hE1 hE2
                  go_wp2_with fail
                  refine X.mono ?_
                  rintro e w' ⟨rfl, hb⟩
                  have B4 : Hid (Below w2.heap.size w2 w' ∧ Below w.heap.size w w') := (show _ ∧ _ from ⟨B3.out.1.trans (hb.mono B3.out.1.size), B3.out.2.trans (hb.mono B3.out.2.size)⟩)
                  clear X hb x0 x1 x2 x3 y0 y1 y2 y3
                  by_cases h4 : xs = ys
                  · rw [decide_eq_true h4]
                    have NX3 : Hid (∀ j, j < k + 1 → x j = y j) := (show _ from NX2.out h4)
                    clear h4 NX2 NO2
                    go_wp2
                    go_light
                    exact ⟨⟨k + 1, by omega, by go_num, NX3.out, B4.out.1⟩, by simp [intOf]; omega⟩
                  · rw [decide_eq_false h4]
                    have NO3 : Hid (sameP c c m n x y (.returned (.bool false))) := (show _ from NO2.out h4)
                    clear h4 NX2 NO2
                    go_wp2
                    go_ret
                    exact ⟨NO3.out, B4.out.2⟩
                · have NO3 : Hid (sameP c c m n x y (.returned (.bool false))) := (show _ from NOT.out (fun e => h3 (by injection e with e1 e2 e3; injection e2)))
                  rw [decide_eq_false h3] at hE2
                  have hs : ((strOf xq).toList == (strOf yq).toList) = false := by rw [str_beq]; exact hE2
                  have hs2 : ¬ (strOf xq).toList = (strOf yq).toList := fun e => by rw [beq_eq_false_iff_ne] at hs; exact hs e
                  clear X
                  subst h1 h2
                  clear NOT NXT hE1 hE2 h3
                  go_wp2
                  go_ret
                  exact ⟨NO3.out, B3.out.2⟩
              · have NO3 : Hid (sameP c c m n x y (.returned (.bool false))) := (show _ from NOT.out (fun e => h2 (by injection e with e1 e2 e3; injection e2)))
                rw [decide_eq_false h2] at hE1
                have hs : ((strOf xp).toList == (strOf yp).toList) = false := by rw [str_beq]; exact hE1
                have hs2 : ¬ (strOf xp).toList = (strOf yp).toList := fun e => by rw [beq_eq_false_iff_ne] at hs; exact hs e
                clear X
                subst h1
                clear NOT NXT hE1 hE2 h2
                go_wp2
                go_ret
                exact ⟨NO3.out, B3.out.2⟩
            · have NO3 : Hid (sameP c c m n x y (.returned (.bool false))) := (show _ from NOT.out (fun e => h1 (by injection e)))
              clear NOT NXT hE1 hE2
              go_wp2
              go_ret
              exact ⟨NO3.out, B3.out.2⟩
        · obtain rfl : k = m := by omega
          have p1 : ¬ (k : Int) < (k : Int) := by omega
          have FI : Hid (sameP c c k n x y (.returned (.bool true)) ∧ Below w.heap.size w wr) := (show _ ∧ _ from ⟨⟨true, rfl, fun _ => ⟨rfl, EQ.out, HAL.out⟩, fun _ => rfl⟩, C0.out wr hbr⟩)
          clear hbr c0 c1 d0 d1
          go_wp2
          go_ret
          exact FI.out
    · have hmn' : ¬ (m : Int) = (n : Int) := by omega
      have FI : Hid (sameP c d m n x y (.returned (.bool false))) := (show _ from ⟨false, rfl, fun e => (by cases e), fun e => absurd e.2.1 hmn⟩)
      clear hmn
      go_wp2
      go_ret
      exact ⟨FI.out, B12.out⟩
  · have FI : Hid (sameP c d m n x y (.returned (.bool false))) := (show _ from ⟨false, rfl, fun e => (by cases e), fun e => absurd e.1 hcd⟩)
    go_wp2
    go_ret
    exact ⟨FI.out, B12.out⟩
end Go.Proofs.YtkgegihkhdgdoaaDoor

/- the laws' much. -/
namespace Go.Proofs.YtkgegihkhdgdoaaDoor
set_option linter.unusedSimpArgs false
set_option linter.unusedVariables false
open Go.RowKit Go.Deep

def muchP (n : Nat) (x : Nat → Pr) (e : Ending) : Prop := ∃ b, e = .returned (.bool b) ∧ (b = false → n ≤ 100 ∧ ∀ i, i < n → (x i).1.length + (x i).2.length ≤ 100000)
end Go.Proofs.YtkgegihkhdgdoaaDoor

/- the examples' pairs. -/
namespace Go.Proofs.YtkgegihkhdgdoaaDoor
set_option linter.unusedSimpArgs false
set_option linter.unusedVariables false
open Go.RowKit Go.Deep

def x3 (i : Nat) : Pr := ([98 + 2 * (i : Int)], [49 + (i : Int)])
theorem build_b1 (x : Int) (w : World) : (Instr.buildSlice 23 1 #[(0, .int .u8 x)]).run Tryd.prog w = .ok (.slice (some ⟨w.heap.size, 0, none⟩) 1 1) (w.alloc (.cells #[.int .u8 x] 5)) := by
  show (_ : Result Value) = _
  kernel_rfl
/-- a constant of one byte, as bytes. -/
theorem lit_one (w : World) (x : Int) (h0 : 0 ≤ x) (h1 : x ≤ 255) :
    ∃ w', (convert 23 23 (.slice (some ⟨w.heap.size, 0, none⟩) 1 1)).run Tryd.prog (w.alloc (.cells #[.int .u8 x] 5)) = .ok (.slice (some ⟨w.heap.size, 0, none⟩) 1 1) w' ∧ isBytes w' (.slice (some ⟨w.heap.size, 0, none⟩) 1 1) [x] ∧ Below w.heap.size w w' ∧ w'.heap.size = w.heap.size + 1 := by
  refine ⟨_, Go.Lib.run_convert_bytes_const w 23 5 #[.int .u8 x] 1 1 Tryd.underlying23 Tryd.underlying5, Or.inr ⟨w.heap.size, 0, 1, rfl, by simp, by unfold maxLen; simp, by simp, fun i hi => ?_, fun i => ?_⟩, (Below.refl _ _).alloc (Nat.le_refl _) _, by simp⟩
  · have hi0 : i = 0 := by simpa using hi
    subst hi0
    have h1 : (w.alloc (.cells #[.int .u8 x] 5 (1, 2))).heap[w.heap.size]? = some (.cells #[.int .u8 x] 5 (1, 2)) := blk_alloc_new _ _
    unfold World.cell?
    show (match (w.alloc (.cells #[.int .u8 x] 5 (1, 2))).heap[w.heap.size]? with | some (.cells cs _ _) => _ | _ => _) = _
    simp only [h1]
    rfl
  · match i with
    | 0 => exact ⟨h0, h1⟩
    | i + 1 => simp
set_option maxHeartbeats 4000000 in
set_option maxRecDepth 100000 in
theorem kthree_any (w : World) : Calls Tryd.prog 33 #[] w fun e w' => ∃ v, e = .returned v ∧ pairsAt w' v 3 x3 ∧ Below w.heap.size w w' := by
  obtain ⟨w1, h1, i1, b1, z1⟩ := lit_one w 98 (by omega) (by omega)
  obtain ⟨w2, h2, i2, b2, z2⟩ := lit_one w1 49 (by omega) (by omega)
  obtain ⟨w3, h3, i3, b3, z3⟩ := lit_one w2 100 (by omega) (by omega)
  obtain ⟨w4, h4, i4, b4, z4⟩ := lit_one w3 50 (by omega) (by omega)
  obtain ⟨w5, h5, i5, b5, z5⟩ := lit_one w4 102 (by omega) (by omega)
  obtain ⟨w6, h6, i6, b6, z6⟩ := lit_one w5 51 (by omega) (by omega)
  obtain ⟨w7, hw7⟩ : ∃ w7, w7 = w6.alloc (.cells #[.slice (some ⟨w.heap.size, 0, none⟩) 1 1, .slice (some ⟨w1.heap.size, 0, none⟩) 1 1, .slice (some ⟨w2.heap.size, 0, none⟩) 1 1, .slice (some ⟨w3.heap.size, 0, none⟩) 1 1, .slice (some ⟨w4.heap.size, 0, none⟩) 1 1, .slice (some ⟨w5.heap.size, 0, none⟩) 1 1] 38) := ⟨_, rfl⟩
  have b7 : Below w6.heap.size w6 w7 := by rw [hw7]; exact (Below.refl _ _).alloc (Nat.le_refl _) _
  have hb7 : w7.heap[w6.heap.size]? = some (.cells #[.slice (some ⟨w.heap.size, 0, none⟩) 1 1, .slice (some ⟨w1.heap.size, 0, none⟩) 1 1, .slice (some ⟨w2.heap.size, 0, none⟩) 1 1, .slice (some ⟨w3.heap.size, 0, none⟩) 1 1, .slice (some ⟨w4.heap.size, 0, none⟩) 1 1, .slice (some ⟨w5.heap.size, 0, none⟩) 1 1] 38) := by rw [hw7, blk_alloc_new]
  have b67 := b7
  have b57 := b6.trans (b67.mono (by omega))
  have b47 := b5.trans (b57.mono (by omega))
  have b37 := b4.trans (b47.mono (by omega))
  have b27 := b3.trans (b37.mono (by omega))
  have b17 := b2.trans (b27.mono (by omega))
  have b07 := b1.trans (b17.mono (by omega))
  have hlt : w6.heap.size < w7.heap.size := by rw [hw7]; simp
  have FIN : Hid (pairsAt w7 (.slice (some ⟨w6.heap.size, 0, none⟩) 3 3) 3 x3 ∧ Below w.heap.size w w7) := (show _ ∧ _ from by
    refine ⟨⟨_, 3, rfl, Nat.le_refl _, by decide, fun i hi => ?_⟩, b07⟩
    have : i = 0 ∨ i = 1 ∨ i = 2 := by omega
    rcases this with rfl | rfl | rfl
    · exact ⟨w6.heap.size, 0, .slice (some ⟨w.heap.size, 0, none⟩) 1 1, .slice (some ⟨w1.heap.size, 0, none⟩) 1 1, rfl, hlt, by rw [cell_of_row _ _ _ _ _ _ hb7]; rfl, by rw [cell_of_row _ _ _ _ _ _ hb7]; rfl, Or.inl (i1.below b17 (by omega)), Or.inl (i2.below b27 (by omega))⟩
    · exact ⟨w6.heap.size, 0, .slice (some ⟨w2.heap.size, 0, none⟩) 1 1, .slice (some ⟨w3.heap.size, 0, none⟩) 1 1, rfl, hlt, by rw [cell_of_row _ _ _ _ _ _ hb7]; rfl, by rw [cell_of_row _ _ _ _ _ _ hb7]; rfl, Or.inl (i3.below b37 (by omega)), Or.inl (i4.below b47 (by omega))⟩
    · exact ⟨w6.heap.size, 0, .slice (some ⟨w4.heap.size, 0, none⟩) 1 1, .slice (some ⟨w5.heap.size, 0, none⟩) 1 1, rfl, hlt, by rw [cell_of_row _ _ _ _ _ _ hb7]; rfl, by rw [cell_of_row _ _ _ _ _ _ hb7]; rfl, Or.inl (i5.below b57 (by omega)), Or.inl (i6.below b67 (by omega))⟩)
  clear i1 i2 i3 i4 i5 i6 b1 b2 b3 b4 b5 b6 b7 z1 z2 z3 z4 z5 z6 hb7 b67 b57 b47 b37 b27 b17 b07 hlt
  go_enter Tryd.func33, Tryd.ntmps33
  go_wp2_with (first | (refine wpList_convert_run rfl _ _ _ rfl rfl h1 ?_) | (refine wpList_convert_run rfl _ _ _ rfl rfl h2 ?_) | (refine wpList_convert_run rfl _ _ _ rfl rfl h3 ?_) | (refine wpList_convert_run rfl _ _ _ rfl rfl h4 ?_) | (refine wpList_convert_run rfl _ _ _ rfl rfl h5 ?_) | (refine wpList_convert_run rfl _ _ _ rfl rfl h6 ?_))
  rw [← hw7]
  go_ret
  exact ⟨_, rfl, FIN.out.1, FIN.out.2⟩
end Go.Proofs.YtkgegihkhdgdoaaDoor

/- the examples: the pure part. -/
namespace Go.Proofs.YtkgegihkhdgdoaaDoor
set_option linter.unusedSimpArgs false
set_option linter.unusedVariables false
open Go.RowKit Go.Deep

theorem x3_0 : x3 0 = ([98], [49]) := rfl
theorem x3_1 : x3 1 = ([100], [50]) := rfl
theorem x3_2 : x3 2 = ([102], [51]) := rfl
theorem x3_may : mayP x3 3 := fun i hi => by
  have : i = 0 ∨ i = 1 := by omega
  rcases this with rfl | rfl
  · rw [x3_0, x3_1]; decide
  · rw [x3_1, x3_2]; decide
theorem x3_d (p : Nat) (h : posAt x3 3 [100] p) : p = 1 ∧ shF x3 3 [100] p = 1 ∧ shM x3 3 [100] p = 1 ∧ (shY x3 3 [100] p 0).pr = ([100], [50]) ∧ (shY x3 3 [100] p 0).at_ = 1 := by
  obtain ⟨rfl, hA⟩ := pos_key x3_may h 1 (by omega) rfl
  rcases show_cases h with ⟨_, _, hf, hM⟩ | ⟨hA', _⟩
  · refine ⟨rfl, hf, hM, ?_, ?_⟩
    · show x3 (shF x3 3 [100] 1 + 0) = _
      rw [hf]; rfl
    · show ((shF x3 3 [100] 1 + 0 : Nat) : Int) = 1
      rw [hf]; rfl
  · rw [hA] at hA'; cases hA'
theorem x3_c (p : Nat) (h : posAt x3 3 [99] p) : p = 1 ∧ shM x3 3 [99] p = 2 := by
  obtain ⟨h1, h2, h3⟩ := h
  have e0 : ¬ p = 0 := fun e => by
    have := h3 0 (by omega) (by omega)
    rw [x3_0] at this; exact absurd this (by decide)
  have e1 : ¬ 2 ≤ p := fun e => by
    have := h2 1 (by omega)
    rw [x3_1] at this; exact absurd this (by decide)
  obtain rfl : p = 1 := by omega
  refine ⟨rfl, ?_⟩
  have hA : isAt x3 3 [99] 1 = false := by decide
  rcases show_cases ⟨h1, h2, h3⟩ with ⟨hA', _⟩ | ⟨_, ⟨hn, _⟩ | ⟨hp, _⟩ | ⟨_, _, _, hM⟩ | ⟨_, hn, _⟩⟩
  · rw [hA] at hA'; cases hA'
  · omega
  · omega
  · exact hM
  · omega
theorem x3_a (p : Nat) (h : posAt x3 3 [97] p) : p = 0 ∧ shM x3 3 [97] p = 1 ∧ (shY x3 3 [97] p 0).pr = ([98], [49]) ∧ (shY x3 3 [97] p 0).at_ = 0 := by
  obtain ⟨h1, h2, h3⟩ := h
  have e0 : ¬ 1 ≤ p := fun e => by
    have := h2 0 (by omega)
    rw [x3_0] at this; exact absurd this (by decide)
  obtain rfl : p = 0 := by omega
  have hA : isAt x3 3 [97] 0 = false := by decide
  rcases show_cases ⟨h1, h2, h3⟩ with ⟨hA', _⟩ | ⟨_, ⟨hn, _⟩ | ⟨_, _, hf, hM⟩ | ⟨hp, _⟩ | ⟨hp, _⟩⟩
  · rw [hA] at hA'; cases hA'
  · omega
  · refine ⟨rfl, hM, ?_, ?_⟩
    · show x3 (shF x3 3 [97] 0 + 0) = _
      rw [hf]; rfl
    · show ((shF x3 3 [97] 0 + 0 : Nat) : Int) = 0
      rw [hf]; rfl
  · omega
  · omega
/-- what is shown of d says nothing of c; of a, nothing of x. -/
theorem x3_dc (p : Nat) (h : posAt x3 3 [100] p) (root : List Int) : ¬ lookOk 3 (shM x3 3 [100] p) (shY x3 3 [100] p) [99] root := fun hk => by
  obtain ⟨_, _, hM, hY, hat⟩ := x3_d p h
  have := hk.2.1
  unfold saysB at this
  rw [hM, if_neg (by omega), if_pos rfl, hY, hat] at this
  exact absurd this (by decide)
theorem x3_ax (p : Nat) (h : posAt x3 3 [97] p) (root : List Int) : ¬ lookOk 3 (shM x3 3 [97] p) (shY x3 3 [97] p) [120] root := fun hk => by
  obtain ⟨_, hM, hY, hat⟩ := x3_a p h
  have := hk.2.1
  unfold saysB at this
  rw [hM, if_neg (by omega), if_pos rfl, hY, hat] at this
  exact absurd this (by decide)
end Go.Proofs.YtkgegihkhdgdoaaDoor
