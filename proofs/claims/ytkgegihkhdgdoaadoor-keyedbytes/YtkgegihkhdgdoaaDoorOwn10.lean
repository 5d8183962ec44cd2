import Derived.Lib.SlBytesConst
import Derived.Test.YtkgegihkhdgdoaaDoorOwn6
import Derived.Test.YtkgegihkhdgdoaaDoorOwn8
import Derived.Test.YtkgegihkhdgdoaaDoorOwn9
set_option linter.unusedVariables false
set_option linter.unusedSimpArgs false
/- The document's Same of what is shown. -/
namespace Go.Proofs.YtkgegihkhdgdoaaDoor
set_option linter.unusedSimpArgs false
set_option linter.unusedVariables false
open Go.RowKit Go.Deep

/-- what is shown is the same, through and through. -/
def sameS (c d : Int) (m n : Nat) (x y : Nat → Sp) : Prop := c = d ∧ m = n ∧ ∀ i, i < m → x i = y i
def sameP (c d : Int) (m n : Nat) (x y : Nat → Sp) (e : Ending) : Prop := ∃ b, e = .returned (.bool b) ∧ (b = true ↔ sameS c d m n x y)
/-- a spot of a row that stays. -/
def spotFact (w2 : World) (a : Option Addr) (m : Nat) (x : Nat → Sp) (k : Nat) (g o : Nat) (gx : Nat → Value) (ka va pa : Option Addr) (kcap vcap pcap : Nat) : Prop :=
  (a = some ⟨g, o, none⟩ ∧ gx = spG (x k).at_ (.slice ka (x k).pr.1.length kcap) (.slice va (x k).pr.2.length vcap) (.slice pa (x k).path.length pcap)) ∧ (∀ i, i < 4 → (gx i).oneCell' = true) ∧
  ∀ wz, Below w2.heap.size w2 wz → (∀ i, i < 4 → wz.cell? ⟨g, o + k * 4 + i, none⟩ = some (gx i)) ∧ anyBytes wz (.slice ka (x k).pr.1.length kcap) (x k).pr.1 ∧ anyBytes wz (.slice va (x k).pr.2.length vcap) (x k).pr.2 ∧ sumsAt wz (.slice pa (x k).path.length pcap) (x k).path
theorem spot_fact {w : World} {a : Option Addr} {m cap : Nat} {x : Nat → Sp} (h : spotsAt w (.slice a m cap) m x) {k : Nat} (hk : k < m) : ∃ g o gx ka va pa kcap vcap pcap, spotFact w a m x k g o gx ka va pa kcap vcap pcap := by
  obtain ⟨g, o, cap', e, hg, hcell⟩ := h.at (by omega)
  injection e with e1 e2 e3
  subst e1
  subst e3
  obtain ⟨ka, kcap, va, vcap, pa, pcap, _, H⟩ := hcell k hk
  refine ⟨g, o, _, ka, va, pa, kcap, vcap, pcap, ⟨rfl, rfl⟩, spG_one _ _ _ _ _ _ _ _ _ _, fun wz hz => ?_⟩
  obtain ⟨q0, q1, q2, q3, q4, q5, q6⟩ := H wz hz
  refine ⟨fun i hi => ?_, q4, q5, q6⟩
  have : i = 0 ∨ i = 1 ∨ i = 2 ∨ i = 3 := by omega
  rcases this with rfl | rfl | rfl | rfl
  · exact q0
  · exact q1
  · exact q2
  · exact q3
set_option maxHeartbeats 4000000 in
set_option maxRecDepth 100000 in
theorem rsames_any (c d : Int) (m n : Nat) (sv tv : Value) (x y : Nat → Sp) (w : World) (hp : spotsAt w sv m x) (hq : spotsAt w tv n y) (hlp : ∀ i, i < m → (x i).path.length ≤ 100000) :
    Calls Tryd.prog 17 #[.agg #[.int .i64 c, sv], .agg #[.int .i64 d, tv]] w fun e w' => sameP c d m n x y e ∧ Below w.heap.size w w' := by
  obtain ⟨a, cap, hv, hmc, hcm, _⟩ := (id hp : spotsAt w sv m x)
  obtain ⟨a', cap', hv', hmc', hcm', _⟩ := (id hq : spotsAt w tv n y)
  have hmm : (m : Int) ≤ 9223372036854775807 := by unfold maxLen at hcm; omega
  subst hv
  subst hv'
  obtain ⟨w1, hw1⟩ : ∃ w1, w1 = w.alloc (.cells #[.int .i64 c, .slice a m cap] 29) := ⟨_, rfl⟩
  obtain ⟨w2, hw2⟩ : ∃ w2, w2 = w1.alloc (.cells #[.int .i64 d, .slice a' n cap'] 29) := ⟨_, rfl⟩
  have b1 : Below w.heap.size w w1 := by rw [hw1]; exact (Below.refl _ _).alloc (Nat.le_refl _) _
  have b2 : Below w1.heap.size w1 w2 := by rw [hw2]; exact (Below.refl _ _).alloc (Nat.le_refl _) _
  have b12 : Below w.heap.size w w2 := b1.trans (b2.mono b1.size)
  have hz1 : w1.heap.size = w.heap.size + 1 := by rw [hw1]; simp
  have hb0 : w1.heap[w.heap.size]? = some (.cells #[.int .i64 c, .slice a m cap] 29) := by rw [hw1, blk_alloc_new]
  have hb1 : w2.heap[w1.heap.size]? = some (.cells #[.int .i64 d, .slice a' n cap'] 29) := by rw [hw2, blk_alloc_new]
  have k0 : w1.cell? ⟨w.heap.size, 0, none⟩ = some (.int .i64 c) := by rw [cell_of_row _ _ _ _ _ _ hb0]; rfl
  have k1 : w1.cell? ⟨w.heap.size, 1, none⟩ = some (.slice a m cap) := by rw [cell_of_row _ _ _ _ _ _ hb0]; rfl
  have c0 : w2.cell? ⟨w.heap.size, 0, none⟩ = some (.int .i64 c) := (b2.cell (p := ⟨w.heap.size, 0, none⟩) (by show w.heap.size < _; omega)).trans k0
  have c1 : w2.cell? ⟨w.heap.size, 1, none⟩ = some (.slice a m cap) := (b2.cell (p := ⟨w.heap.size, 1, none⟩) (by show w.heap.size < _; omega)).trans k1
  have d0 : w2.cell? ⟨w1.heap.size, 0, none⟩ = some (.int .i64 d) := by rw [cell_of_row _ _ _ _ _ _ hb1]; rfl
  have d1 : w2.cell? ⟨w1.heap.size, 1, none⟩ = some (.slice a' n cap') := by rw [cell_of_row _ _ _ _ _ _ hb1]; rfl
  have C1 : Hid (∀ wz, Below w2.heap.size w2 wz → wz.cell? ⟨w.heap.size, 1, none⟩ = some (.slice a m cap) ∧ wz.cell? ⟨w1.heap.size, 1, none⟩ = some (.slice a' n cap')) := (show _ from fun wz hz => ⟨(hz.cell (p := ⟨w.heap.size, 1, none⟩) (block_lt_of_cell c1)).trans c1, (hz.cell (p := ⟨w1.heap.size, 1, none⟩) (block_lt_of_cell d1)).trans d1⟩)
  have C0 : Hid (∀ wz, Below w2.heap.size w2 wz → Below w.heap.size w wz) := (show _ from fun wz hz => b12.trans (hz.mono b12.size))
  have HP : Hid (spotsAt w2 (.slice a m cap) m x ∧ spotsAt w2 (.slice a' n cap') n y) := (show _ ∧ _ from ⟨hp.below b12 (Nat.le_refl _), hq.below b12 (Nat.le_refl _)⟩)
  have HLP : Hid (∀ i, i < m → (x i).path.length ≤ 100000) := (show _ from hlp)
  have hm0 : (0 : Int) ≤ (m : Int) := by omega
  have B12 : Hid (Below w.heap.size w w2) := (show Below w.heap.size w w2 from b12)
  obtain ⟨bs, hbs⟩ : ∃ bs, bs = w.heap.size := ⟨_, rfl⟩
  obtain ⟨bt, hbt⟩ : ∃ bt, bt = w1.heap.size := ⟨_, rfl⟩
  have hbt' : bt = w.heap.size + 1 := by rw [hbt, hz1]
  rw [← hbs] at c0 c1 
  rw [← hbt] at d0 d1
  rw [← hbs, ← hbt] at C1
  clear hp hq hmc hcm hmc' hcm' b1 b2 b12 hb0 hb1 k0 k1 hlp
  go_enter Tryd.func17, Tryd.ntmps17
  go_upto_region 1 with fail
  rw [← hw1, ← hw2]
  try rw [← hz1]
  try rw [← hbt]
  try rw [← hbs]
  clear hw1 hw2 hbs hbt hbt' hz1
  by_cases hcd : c = d
  · by_cases hmn : m = n
    · obtain rfl := hcd
      have EQ : Hid (m = n) := hmn
      have hmn' : (m : Int) = (n : Int) := by omega
      clear hmn
      go_wp2
      go_loopw [5] (fun i wr => ∃ k : Nat, k ≤ m ∧ i = .int .i64 (k : Int) ∧ (∀ j, j < k → x j = y j) ∧ Below w2.heap.size w2 wr) (fun i _ => m - (intOf i).toNat)
      case atStart => exact ⟨0, by omega, rfl, fun j hj => by omega, Below.refl _ _⟩
      case round =>
        obtain ⟨k, hkm, rfl, hall, hbr⟩ := hrel
        have p0 : (0 : Int) ≤ (k : Int) := by omega
        have HAL : Hid (∀ j, j < k → x j = y j) := (show _ from hall)
        have HBR : Hid (Below w2.heap.size w2 wr) := (show Below w2.heap.size w2 wr from hbr)
        have c1r := (C1.out wr hbr).1
        clear hall hmn'
        by_cases hlt : k < m
        · have p1 : (k : Int) < (m : Int) := by omega
          have p1' : (k : Int) < (n : Int) := by have := EQ.out; omega
          obtain ⟨g, o, gx, ka, va, pa, kcap, vcap, pcap, F1⟩ := spot_fact HP.out.1 hlt
          obtain ⟨g', o', gy, kb, vb, pb, kbcap, vbcap, pbcap, F2⟩ := spot_fact HP.out.2 (show k < n by have := EQ.out; omega)
          obtain ⟨⟨rfl, hgx⟩, one1, F1⟩ := F1
          obtain ⟨⟨rfl, hgy⟩, one2, F2⟩ := F2
          have ONE : Hid ((∀ i, i < 4 → (gx i).oneCell' = true) ∧ (∀ i, i < 4 → (gy i).oneCell' = true)) := (show _ ∧ _ from ⟨one1, one2⟩)
          have GX : Hid (gx = _) := hgx
          have GY : Hid (gy = _) := hgy
          have FA : Hid _ := F1
          have FB : Hid _ := F2
          clear one1 one2 hgx hgy F1 F2 c0 c1 d0 d1
          go_upto_region 6 with fail
          clear c1r hbr
          go_cut [5, 6, 7] from 29 to 38 (fun i p6 p7 wx => i = .int .i64 (k : Int) ∧ ∃ b6 b7, p6 = .pointer (some ⟨b6, 0, none⟩) ∧ p7 = .pointer (some ⟨b7, 0, none⟩) ∧ wx.rowIs b6 41 4 gx ∧ wx.rowIs b7 41 4 gy ∧ Below w2.heap.size w2 wx)
          case first =>
            have BD : Hid (Below w2.heap.size w2 wr.drew) := (show Below w2.heap.size w2 wr.drew from HBR.out.trans ((Below.refl wr.heap.size wr).drew.mono HBR.out.size))
            refine wp_region_noPanic ?_
            refine wp_region_held_drew (S := fun w' => Below w2.heap.size w2 w') (by kernel_rfl) BD.out (fun hHeld => ?_)
            generalize wr.drew = wd at BD hHeld ⊢
            refine take_op (i := 0) (v := ?va0) rfl (by kernel_rfl) (by kernel_rfl) (by kernel_rfl) (fun _ _ _ h => h) rfl hHeld ?ya0 ?ra0
            case ya0 => (intro wz hz; go_simp; first | done | with_reducible rfl)
            try simp only [Act.put, List.setIfInBounds_toArray, List.set_cons_zero, List.set_cons_succ]
            refine take_op (i := 1) (v := ?va1) rfl (by kernel_rfl) (by kernel_rfl) (by kernel_rfl) (fun _ _ _ h => h) rfl hHeld ?ya1 ?ra1
            case ya1 => (intro wz hz; have hcz := (C1.out wz hz).1; go_simp; first | done | with_reducible rfl)
            try simp only [Act.put, List.setIfInBounds_toArray, List.set_cons_zero, List.set_cons_succ]
            refine take_op (i := 2) (v := ?va2) rfl (by kernel_rfl) (by kernel_rfl) (by kernel_rfl) (fun _ _ _ h => h) rfl hHeld ?ya2 ?ra2
            case ya2 => (intro wz hz; go_simp; first | done | with_reducible rfl)
            try simp only [Act.put, List.setIfInBounds_toArray, List.set_cons_zero, List.set_cons_succ]
            refine take_op (i := 3) (v := ?va3) rfl (by kernel_rfl) (by kernel_rfl) (by kernel_rfl) (fun _ _ _ h => h) rfl hHeld ?ya3 ?ra3
            case ya3 => (intro wz hz; go_simp; first | done | with_reducible rfl)
            try simp only [Act.put, List.setIfInBounds_toArray, List.set_cons_zero, List.set_cons_succ]
            refine take_load (i := 4) rfl (by kernel_rfl) (by kernel_rfl) (by kernel_rfl) 41 _ rfl g (o + k * 4) 4 gx rfl _ Tryd.underlying41 rfl (by kernel_rfl) (fun _ _ _ h => h) rfl hHeld (fun wz hz => (FA.out wz hz).1) ?_
            try simp only [Act.put, List.setIfInBounds_toArray, List.set_cons_zero, List.set_cons_succ]
            refine take_op (i := 5) (v := ?va5) rfl (by kernel_rfl) (by kernel_rfl) (by kernel_rfl) (fun _ _ _ h => h) rfl hHeld ?ya5 ?ra5
            case ya5 => (intro wz hz; go_simp; first | done | with_reducible rfl)
            try simp only [Act.put, List.setIfInBounds_toArray, List.set_cons_zero, List.set_cons_succ]
            refine take_op (i := 6) (v := ?va6) rfl (by kernel_rfl) (by kernel_rfl) (by kernel_rfl) (fun _ _ _ h => h) rfl hHeld ?ya6 ?ra6
            case ya6 => (intro wz hz; have hcz := (C1.out wz hz).2; go_simp; first | done | with_reducible rfl)
            try simp only [Act.put, List.setIfInBounds_toArray, List.set_cons_zero, List.set_cons_succ]
            refine take_op (i := 7) (v := ?va7) rfl (by kernel_rfl) (by kernel_rfl) (by kernel_rfl) (fun _ _ _ h => h) rfl hHeld ?ya7 ?ra7
            case ya7 => (intro wz hz; go_simp; first | done | with_reducible rfl)
            try simp only [Act.put, List.setIfInBounds_toArray, List.set_cons_zero, List.set_cons_succ]
            refine take_op (i := 8) (v := ?va8) rfl (by kernel_rfl) (by kernel_rfl) (by kernel_rfl) (fun _ _ _ h => h) rfl hHeld ?ya8 ?ra8
            case ya8 => (intro wz hz; go_simp; first | done | with_reducible rfl)
            try simp only [Act.put, List.setIfInBounds_toArray, List.set_cons_zero, List.set_cons_succ]
            refine take_load (i := 9) rfl (by kernel_rfl) (by kernel_rfl) (by kernel_rfl) 41 _ rfl g' (o' + k * 4) 4 gy rfl _ Tryd.underlying41 rfl (by kernel_rfl) (fun _ _ _ h => h) rfl hHeld (fun wz hz => (FB.out wz hz).1) ?_
            try simp only [Act.put, List.setIfInBounds_toArray, List.set_cons_zero, List.set_cons_succ]
            refine take_pair (i := 10) (j := 11) rfl rfl (by kernel_rfl) rfl rfl (fun K hK => ?_) (fun K hK => ?_)
            · refine wp_of_run (exec_allocSp rfl) ?_
              refine hK.out _ _ (BD.out.alloc BD.out.size _) (fun hHeld => ?_)
              clear hK K
              try simp only [Act.put, List.setIfInBounds_toArray, List.set_cons_zero, List.set_cons_succ]
              refine take_one (i := 11) rfl (by kernel_rfl) rfl (fun K hK => ?_)
              refine wp_of_run (exec_allocSp rfl) ?_
              obtain ⟨z1, z2, bz⟩ := two_sp wd
              rw [World.size_alloc]
              generalize (wd.alloc (.cells (rowV 4 spZ) 41)).alloc (.cells (rowV 4 spZ) 41) = W at z1 z2 bz ⊢
              have BW : Hid (Below w2.heap.size w2 W) := (show Below w2.heap.size w2 W from BD.out.trans (bz.mono BD.out.size))
              refine hK.out _ _ BW.out (fun hHeld => ?_)
              clear hK K
              try simp only [Act.put, List.setIfInBounds_toArray, List.set_cons_zero, List.set_cons_succ]
              obtain ⟨V1, s1, q1, y1, c1'⟩ := sp_store W wd.heap.size gx z1 ONE.out.1
              obtain ⟨V2, s2, q2, y2, c2'⟩ := sp_store V1 (wd.heap.size + 1) gy (c1'.row z2 z2.lt (by omega)) ONE.out.2
              have q1' := c2'.row q1 q1.lt (by omega)
              have hwd := BD.out.size
              have bV1 : Below w2.heap.size w2 V1 := BW.out.trans ((c1'.mono BW.out.size).below (by omega))
              have bV2 : Below w2.heap.size w2 V2 := bV1.trans ((c2'.mono bV1.size).below (by omega))
              refine take_one (i := 12) rfl (by kernel_rfl) rfl (fun K hK => ?_)
              unfold Oper.wp execOp
              simp only [Instr.storeAt, Instr.sureAddr, Sem.run_bind, Sem.run_pure, Result.andThen_ok]
              simp [Act.eval, s1, Oper.upon]
              refine hK.out _ _ bV1 (fun hHeld => ?_)
              clear hK K
              try simp only [Act.put, List.setIfInBounds_toArray, List.set_cons_zero, List.set_cons_succ]
              refine take_one (i := 13) rfl (by kernel_rfl) rfl (fun K hK => ?_)
              unfold Oper.wp execOp
              simp only [Instr.storeAt, Instr.sureAddr, Sem.run_bind, Sem.run_pure, Result.andThen_ok]
              simp [Act.eval, s2, Oper.upon]
              refine hK.out _ _ bV2 (fun hHeld => ?_)
              clear hK K
              try simp only [Act.put, List.setIfInBounds_toArray, List.set_cons_zero, List.set_cons_succ]
              refine wpAnyH_done (by kernel_rfl) ?_ _
              refine NoPanic.normal ?_
              have FIN : Hid (V2.rowIs wd.heap.size 41 4 gx ∧ V2.rowIs (wd.heap.size + 1) 41 4 gy ∧ Below w2.heap.size w2 V2) := (show _ ∧ _ ∧ _ from ⟨q1', q2, bV2⟩)
              clear s1 s2 q1 q2 y1 y2 c1' c2' q1' bV1 bV2 z1 z2 bz hHeld hwd
              go_wp2_with fail
              go_meet
              case rel => exact ⟨rfl, _, _, rfl, rfl, FIN.out.1, FIN.out.2.1, FIN.out.2.2⟩
            · refine wp_of_run (exec_allocSp rfl) ?_
              refine hK.out _ _ (BD.out.alloc BD.out.size _) (fun hHeld => ?_)
              clear hK K
              try simp only [Act.put, List.setIfInBounds_toArray, List.set_cons_zero, List.set_cons_succ]
              refine take_one (i := 10) rfl (by kernel_rfl) rfl (fun K hK => ?_)
              refine wp_of_run (exec_allocSp rfl) ?_
              obtain ⟨z1, z2, bz⟩ := two_sp wd
              rw [World.size_alloc]
              generalize (wd.alloc (.cells (rowV 4 spZ) 41)).alloc (.cells (rowV 4 spZ) 41) = W at z1 z2 bz ⊢
              have BW : Hid (Below w2.heap.size w2 W) := (show Below w2.heap.size w2 W from BD.out.trans (bz.mono BD.out.size))
              refine hK.out _ _ BW.out (fun hHeld => ?_)
              clear hK K
              try simp only [Act.put, List.setIfInBounds_toArray, List.set_cons_zero, List.set_cons_succ]
              obtain ⟨V1, s1, q1, y1, c1'⟩ := sp_store W (wd.heap.size + 1) gx z2 ONE.out.1
              obtain ⟨V2, s2, q2, y2, c2'⟩ := sp_store V1 wd.heap.size gy (c1'.row z1 z1.lt (by omega)) ONE.out.2
              have q1' := c2'.row q1 q1.lt (by omega)
              have hwd := BD.out.size
              have bV1 : Below w2.heap.size w2 V1 := BW.out.trans ((c1'.mono BW.out.size).below (by omega))
              have bV2 : Below w2.heap.size w2 V2 := bV1.trans ((c2'.mono bV1.size).below (by omega))
              refine take_one (i := 12) rfl (by kernel_rfl) rfl (fun K hK => ?_)
              unfold Oper.wp execOp
              simp only [Instr.storeAt, Instr.sureAddr, Sem.run_bind, Sem.run_pure, Result.andThen_ok]
              simp [Act.eval, s1, Oper.upon]
              refine hK.out _ _ bV1 (fun hHeld => ?_)
              clear hK K
              try simp only [Act.put, List.setIfInBounds_toArray, List.set_cons_zero, List.set_cons_succ]
              refine take_one (i := 13) rfl (by kernel_rfl) rfl (fun K hK => ?_)
              unfold Oper.wp execOp
              simp only [Instr.storeAt, Instr.sureAddr, Sem.run_bind, Sem.run_pure, Result.andThen_ok]
              simp [Act.eval, s2, Oper.upon]
              refine hK.out _ _ bV2 (fun hHeld => ?_)
              clear hK K
              try simp only [Act.put, List.setIfInBounds_toArray, List.set_cons_zero, List.set_cons_succ]
              refine wpAnyH_done (by kernel_rfl) ?_ _
              refine NoPanic.normal ?_
              have FIN : Hid (V2.rowIs (wd.heap.size + 1) 41 4 gx ∧ V2.rowIs wd.heap.size 41 4 gy ∧ Below w2.heap.size w2 V2) := (show _ ∧ _ ∧ _ from ⟨q1', q2, bV2⟩)
              clear s1 s2 q1 q2 y1 y2 c1' c2' q1' bV1 bV2 z1 z2 bz hHeld hwd
              go_wp2_with fail
              go_meet
              case rel => exact ⟨rfl, _, _, rfl, rfl, FIN.out.1, FIN.out.2.1, FIN.out.2.2⟩
          case rest =>
            obtain ⟨rfl, b6, b7, rfl, rfl, r6, r7, b3⟩ := hcut
            rename World => w3
            have x0 : w3.cell? ⟨b6, 0, none⟩ = some (.int .i64 (x k).at_) := by have := r6.cell (i := 0) (by omega); rw [GX.out] at this; exact this
            have x1 : w3.cell? ⟨b6, 1, none⟩ = some (.slice ka (x k).pr.1.length kcap) := by have := r6.cell (i := 1) (by omega); rw [GX.out] at this; exact this
            have x2 : w3.cell? ⟨b6, 2, none⟩ = some (.slice va (x k).pr.2.length vcap) := by have := r6.cell (i := 2) (by omega); rw [GX.out] at this; exact this
            have x3 : w3.cell? ⟨b6, 3, none⟩ = some (.slice pa (x k).path.length pcap) := by have := r6.cell (i := 3) (by omega); rw [GX.out] at this; exact this
            have y0 : w3.cell? ⟨b7, 0, none⟩ = some (.int .i64 (y k).at_) := by have := r7.cell (i := 0) (by omega); rw [GY.out] at this; exact this
            have y1 : w3.cell? ⟨b7, 1, none⟩ = some (.slice kb (y k).pr.1.length kbcap) := by have := r7.cell (i := 1) (by omega); rw [GY.out] at this; exact this
            have y2 : w3.cell? ⟨b7, 2, none⟩ = some (.slice vb (y k).pr.2.length vbcap) := by have := r7.cell (i := 2) (by omega); rw [GY.out] at this; exact this
            have y3 : w3.cell? ⟨b7, 3, none⟩ = some (.slice pb (y k).path.length pbcap) := by have := r7.cell (i := 3) (by omega); rw [GY.out] at this; exact this
            obtain ⟨_, fa1, fa2, fa3⟩ := FA.out w3 b3
            obtain ⟨_, fb1, fb2, fb3⟩ := FB.out w3 b3
            have X := rsame_any _ _ _ _ w3 fa3 fb3 (HLP.out k hlt)
            have v1 := convK w3 _ _ fa1
            have v2 := convK w3 _ _ fa2
            have v3 := convK w3 _ _ fb1
            have v4 := convK w3 _ _ fb2
            have hE1 : decide (strOf (x k).pr.1 = strOf (y k).pr.1) = decide ((x k).pr.1 = (y k).pr.1) := decide_eq_decide.mpr (strOf_eq fa1 fb1)
            have hE2 : decide (strOf (x k).pr.2 = strOf (y k).pr.2) = decide ((x k).pr.2 = (y k).pr.2) := decide_eq_decide.mpr (strOf_eq fa2 fb2)
            have B3 : Hid (Below w2.heap.size w2 w3 ∧ Below w.heap.size w w3) := (show _ ∧ _ from ⟨b3, C0.out w3 b3⟩)
            have NOT : Hid (¬ x k = y k → sameP c c m n x y (.returned (.bool false))) := (show _ from fun h => ⟨false, rfl, fun e => (by cases e), fun e => absurd (e.2.2 k hlt) h⟩)
            have NXT : Hid (x k = y k → ∀ j, j < k + 1 → x j = y j) := (show _ from fun h j hj => by
              by_cases e : j = k
              · rw [e]; exact h
              · exact HAL.out j (by omega))
            clear r6 r7 b3 fa1 fa2 fa3 fb1 fb2 fb3 GX GY FA FB ONE C1 HP HLP HAL HBR
            obtain ⟨xk, hxk⟩ : ∃ s, s = x k := ⟨_, rfl⟩
            obtain ⟨yk, hyk⟩ : ∃ s, s = y k := ⟨_, rfl⟩
            rw [← hxk, ← hyk] at NOT NXT
            rw [← hxk, ← hyk] at X hE1 hE2
            rw [← hxk] at x0 x1 x2 x3 v1 v2
            rw [← hyk] at y0 y1 y2 y3 v3 v4
            clear hxk hyk
            obtain ⟨xa, ⟨xp, xq⟩, xs⟩ := xk
            obtain ⟨ya, ⟨yp, yq⟩, ys⟩ := yk
            simp only at x0 x1 x2 x3 y0 y1 y2 y3 X v1 v2 v3 v4 hE1 hE2
            by_cases h1 : xa = ya
            · by_cases h2 : xp = yp
              · by_cases h3 : xq = yq
                · subst h1 h2 h3
                  have NX2 : Hid (xs = ys → ∀ j, j < k + 1 → x j = y j) := (show _ from fun h => NXT.out (by rw [h]))
                  have NO2 : Hid (¬ xs = ys → sameP c c m n x y (.returned (.bool false))) := (show _ from fun h => NOT.out (fun e => h (by injection e)))
                  clear NOT NXT hE1 hE2
                  go_wp2_with fail
                  refine X.mono ?_
                  rintro e w' ⟨rfl, hb⟩
                  have B4 : Hid (Below w2.heap.size w2 w' ∧ Below w.heap.size w w') := (show _ ∧ _ from ⟨B3.out.1.trans (hb.mono B3.out.1.size), B3.out.2.trans (hb.mono B3.out.2.size)⟩)
                  clear X hb x0 x1 x2 x3 y0 y1 y2 y3
                  by_cases h4 : xs = ys
                  · rw [decide_eq_true h4]
                    have NX3 : Hid (∀ j, j < k + 1 → x j = y j) := (show _ from NX2.out h4)
                    clear h4 NX2 NO2
                    go_wp2
                    go_light
                    exact ⟨⟨k + 1, by omega, by go_num, NX3.out, B4.out.1⟩, by simp [intOf]; omega⟩
                  · rw [decide_eq_false h4]
                    have NO3 : Hid (sameP c c m n x y (.returned (.bool false))) := (show _ from NO2.out h4)
                    clear h4 NX2 NO2
                    go_wp2
                    go_ret
                    exact ⟨NO3.out, B4.out.2⟩
                · have NO3 : Hid (sameP c c m n x y (.returned (.bool false))) := (show _ from NOT.out (fun e => h3 (by injection e with e1 e2 e3; injection e2)))
                  rw [decide_eq_false h3] at hE2
                  have hs : ((strOf xq).toList == (strOf yq).toList) = false := by rw [str_beq]; exact hE2
                  have hs2 : ¬ (strOf xq).toList = (strOf yq).toList := fun e => by rw [beq_eq_false_iff_ne] at hs; exact hs e
                  clear X
                  subst h1 h2
                  clear NOT NXT hE1 hE2 h3
                  go_wp2
                  go_ret
                  exact ⟨NO3.out, B3.out.2⟩
              · have NO3 : Hid (sameP c c m n x y (.returned (.bool false))) := (show _ from NOT.out (fun e => h2 (by injection e with e1 e2 e3; injection e2)))
                rw [decide_eq_false h2] at hE1
                have hs : ((strOf xp).toList == (strOf yp).toList) = false := by rw [str_beq]; exact hE1
                have hs2 : ¬ (strOf xp).toList = (strOf yp).toList := fun e => by rw [beq_eq_false_iff_ne] at hs; exact hs e
                clear X
                subst h1
                clear NOT NXT hE1 hE2 h2
                go_wp2
                go_ret
                exact ⟨NO3.out, B3.out.2⟩
            · have NO3 : Hid (sameP c c m n x y (.returned (.bool false))) := (show _ from NOT.out (fun e => h1 (by injection e)))
              clear NOT NXT hE1 hE2
              go_wp2
              go_ret
              exact ⟨NO3.out, B3.out.2⟩
        · obtain rfl : k = m := by omega
          have p1 : ¬ (k : Int) < (k : Int) := by omega
          have FI : Hid (sameP c c k n x y (.returned (.bool true)) ∧ Below w.heap.size w wr) := (show _ ∧ _ from ⟨⟨true, rfl, fun _ => ⟨rfl, EQ.out, HAL.out⟩, fun _ => rfl⟩, C0.out wr hbr⟩)
          clear hbr c0 c1 d0 d1
          go_wp2
          go_ret
          exact FI.out
    · have hmn' : ¬ (m : Int) = (n : Int) := by omega
      have FI : Hid (sameP c d m n x y (.returned (.bool false))) := (show _ from ⟨false, rfl, fun e => (by cases e), fun e => absurd e.2.1 hmn⟩)
      clear hmn
      go_wp2
      go_ret
      exact ⟨FI.out, B12.out⟩
  · have FI : Hid (sameP c d m n x y (.returned (.bool false))) := (show _ from ⟨false, rfl, fun e => (by cases e), fun e => absurd e.1 hcd⟩)
    go_wp2
    go_ret
    exact ⟨FI.out, B12.out⟩
end Go.Proofs.YtkgegihkhdgdoaaDoor

/- the laws' much. -/
namespace Go.Proofs.YtkgegihkhdgdoaaDoor
set_option linter.unusedSimpArgs false
set_option linter.unusedVariables false
open Go.RowKit Go.Deep

def muchP (n : Nat) (x : Nat → Pr) (e : Ending) : Prop := ∃ b, e = .returned (.bool b) ∧ (b = false → n ≤ 100 ∧ ∀ i, i < n → (x i).1.length + (x i).2.length ≤ 100000)
end Go.Proofs.YtkgegihkhdgdoaaDoor

/- the examples' pairs. -/
namespace Go.Proofs.YtkgegihkhdgdoaaDoor
set_option linter.unusedSimpArgs false
set_option linter.unusedVariables false
open Go.RowKit Go.Deep

def x3 (i : Nat) : Pr := ([98 + 2 * (i : Int)], [49 + (i : Int)])
theorem build_b1 (x : Int) (w : World) : (Instr.buildSlice 23 1 #[(0, .int .u8 x)]).run Tryd.prog w = .ok (.slice (some ⟨w.heap.size, 0, none⟩) 1 1) (w.alloc (.cells #[.int .u8 x] 5)) := by
  show (_ : Result Value) = _
  kernel_rfl
/-- a constant of one byte, as bytes. -/
theorem lit_one (w : World) (x : Int) (h0 : 0 ≤ x) (h1 : x ≤ 255) :
    ∃ w', (convert 23 23 (.slice (some ⟨w.heap.size, 0, none⟩) 1 1)).run Tryd.prog (w.alloc (.cells #[.int .u8 x] 5)) = .ok (.slice (some ⟨w.heap.size, 0, none⟩) 1 1) w' ∧ isBytes w' (.slice (some ⟨w.heap.size, 0, none⟩) 1 1) [x] ∧ Below w.heap.size w w' ∧ w'.heap.size = w.heap.size + 1 := by
  refine ⟨_, Go.Lib.run_convert_bytes_const w 23 5 #[.int .u8 x] 1 1 Tryd.underlying23 Tryd.underlying5, Or.inr ⟨w.heap.size, 0, 1, rfl, by simp, by unfold maxLen; simp, by simp, fun i hi => ?_, fun i => ?_⟩, (Below.refl _ _).alloc (Nat.le_refl _) _, by simp⟩
  · have hi0 : i = 0 := by simpa using hi
    subst hi0
    have h1 : (w.alloc (.cells #[.int .u8 x] 5 (1, 2))).heap[w.heap.size]? = some (.cells #[.int .u8 x] 5 (1, 2)) := blk_alloc_new _ _
    unfold World.cell?
    show (match (w.alloc (.cells #[.int .u8 x] 5 (1, 2))).heap[w.heap.size]? with | some (.cells cs _ _) => _ | _ => _) = _
    simp only [h1]
    rfl
  · match i with
    | 0 => exact ⟨h0, h1⟩
    | i + 1 => simp
set_option maxHeartbeats 4000000 in
set_option maxRecDepth 100000 in
theorem kthree_any (w : World) : Calls Tryd.prog 33 #[] w fun e w' => ∃ v, e = .returned v ∧ pairsAt w' v 3 x3 ∧ Below w.heap.size w w' := by
  obtain ⟨w1, h1, i1, b1, z1⟩ := lit_one w 98 (by omega) (by omega)
  obtain ⟨w2, h2, i2, b2, z2⟩ := lit_one w1 49 (by omega) (by omega)
  obtain ⟨w3, h3, i3, b3, z3⟩ := lit_one w2 100 (by omega) (by omega)
  obtain ⟨w4, h4, i4, b4, z4⟩ := lit_one w3 50 (by omega) (by omega)
  obtain ⟨w5, h5, i5, b5, z5⟩ := lit_one w4 102 (by omega) (by omega)
  obtain ⟨w6, h6, i6, b6, z6⟩ := lit_one w5 51 (by omega) (by omega)
  obtain ⟨w7, hw7⟩ : ∃ w7, w7 = w6.alloc (.cells #[.slice (some ⟨w.heap.size, 0, none⟩) 1 1, .slice (some ⟨w1.heap.size, 0, none⟩) 1 1, .slice (some ⟨w2.heap.size, 0, none⟩) 1 1, .slice (some ⟨w3.heap.size, 0, none⟩) 1 1, .slice (some ⟨w4.heap.size, 0, none⟩) 1 1, .slice (some ⟨w5.heap.size, 0, none⟩) 1 1] 38) := ⟨_, rfl⟩
  have b7 : Below w6.heap.size w6 w7 := by rw [hw7]; exact (Below.refl _ _).alloc (Nat.le_refl _) _
  have hb7 : w7.heap[w6.heap.size]? = some (.cells #[.slice (some ⟨w.heap.size, 0, none⟩) 1 1, .slice (some ⟨w1.heap.size, 0, none⟩) 1 1, .slice (some ⟨w2.heap.size, 0, none⟩) 1 1, .slice (some ⟨w3.heap.size, 0, none⟩) 1 1, .slice (some ⟨w4.heap.size, 0, none⟩) 1 1, .slice (some ⟨w5.heap.size, 0, none⟩) 1 1] 38) := by rw [hw7, blk_alloc_new]
  have b67 := b7
  have b57 := b6.trans (b67.mono (by omega))
  have b47 := b5.trans (b57.mono (by omega))
  have b37 := b4.trans (b47.mono (by omega))
  have b27 := b3.trans (b37.mono (by omega))
  have b17 := b2.trans (b27.mono (by omega))
  have b07 := b1.trans (b17.mono (by omega))
  have hlt : w6.heap.size < w7.heap.size := by rw [hw7]; simp
  have FIN : Hid (pairsAt w7 (.slice (some ⟨w6.heap.size, 0, none⟩) 3 3) 3 x3 ∧ Below w.heap.size w w7) := (show _ ∧ _ from by
    refine ⟨⟨_, 3, rfl, Nat.le_refl _, by decide, fun i hi => ?_⟩, b07⟩
    have : i = 0 ∨ i = 1 ∨ i = 2 := by omega
    rcases this with rfl | rfl | rfl
    · exact ⟨w6.heap.size, 0, .slice (some ⟨w.heap.size, 0, none⟩) 1 1, .slice (some ⟨w1.heap.size, 0, none⟩) 1 1, rfl, hlt, by rw [cell_of_row _ _ _ _ _ _ hb7]; rfl, by rw [cell_of_row _ _ _ _ _ _ hb7]; rfl, Or.inl (i1.below b17 (by omega)), Or.inl (i2.below b27 (by omega))⟩
    · exact ⟨w6.heap.size, 0, .slice (some ⟨w2.heap.size, 0, none⟩) 1 1, .slice (some ⟨w3.heap.size, 0, none⟩) 1 1, rfl, hlt, by rw [cell_of_row _ _ _ _ _ _ hb7]; rfl, by rw [cell_of_row _ _ _ _ _ _ hb7]; rfl, Or.inl (i3.below b37 (by omega)), Or.inl (i4.below b47 (by omega))⟩
    · exact ⟨w6.heap.size, 0, .slice (some ⟨w4.heap.size, 0, none⟩) 1 1, .slice (some ⟨w5.heap.size, 0, none⟩) 1 1, rfl, hlt, by rw [cell_of_row _ _ _ _ _ _ hb7]; rfl, by rw [cell_of_row _ _ _ _ _ _ hb7]; rfl, Or.inl (i5.below b57 (by omega)), Or.inl (i6.below b67 (by omega))⟩)
  clear i1 i2 i3 i4 i5 i6 b1 b2 b3 b4 b5 b6 b7 z1 z2 z3 z4 z5 z6 hb7 b67 b57 b47 b37 b27 b17 b07 hlt
  go_enter Tryd.func33, Tryd.ntmps33
  go_wp2_with (first | (refine wpList_convert_run rfl _ _ _ rfl rfl h1 ?_) | (refine wpList_convert_run rfl _ _ _ rfl rfl h2 ?_) | (refine wpList_convert_run rfl _ _ _ rfl rfl h3 ?_) | (refine wpList_convert_run rfl _ _ _ rfl rfl h4 ?_) | (refine wpList_convert_run rfl _ _ _ rfl rfl h5 ?_) | (refine wpList_convert_run rfl _ _ _ rfl rfl h6 ?_))
  rw [← hw7]
  go_ret
  exact ⟨_, rfl, FIN.out.1, FIN.out.2⟩
end Go.Proofs.YtkgegihkhdgdoaaDoor

/- the examples: the pure part. -/
namespace Go.Proofs.YtkgegihkhdgdoaaDoor
set_option linter.unusedSimpArgs false
set_option linter.unusedVariables false
open Go.RowKit Go.Deep

theorem x3_0 : x3 0 = ([98], [49]) := rfl
theorem x3_1 : x3 1 = ([100], [50]) := rfl
theorem x3_2 : x3 2 = ([102], [51]) := rfl
theorem x3_may : mayP x3 3 := fun i hi => by
  have : i = 0 ∨ i = 1 := by omega
  rcases this with rfl | rfl
  · rw [x3_0, x3_1]; decide
  · rw [x3_1, x3_2]; decide
theorem x3_d (p : Nat) (h : posAt x3 3 [100] p) : p = 1 ∧ shF x3 3 [100] p = 1 ∧ shM x3 3 [100] p = 1 ∧ (shY x3 3 [100] p 0).pr = ([100], [50]) ∧ (shY x3 3 [100] p 0).at_ = 1 := by
  obtain ⟨rfl, hA⟩ := pos_key x3_may h 1 (by omega) rfl
  rcases show_cases h with ⟨_, _, hf, hM⟩ | ⟨hA', _⟩
  · refine ⟨rfl, hf, hM, ?_, ?_⟩
    · show x3 (shF x3 3 [100] 1 + 0) = _
      rw [hf]; rfl
    · show ((shF x3 3 [100] 1 + 0 : Nat) : Int) = 1
      rw [hf]; rfl
  · rw [hA] at hA'; cases hA'
theorem x3_c (p : Nat) (h : posAt x3 3 [99] p) : p = 1 ∧ shM x3 3 [99] p = 2 := by
  obtain ⟨h1, h2, h3⟩ := h
  have e0 : ¬ p = 0 := fun e => by
    have := h3 0 (by omega) (by omega)
    rw [x3_0] at this; exact absurd this (by decide)
  have e1 : ¬ 2 ≤ p := fun e => by
    have := h2 1 (by omega)
    rw [x3_1] at this; exact absurd this (by decide)
  obtain rfl : p = 1 := by omega
  refine ⟨rfl, ?_⟩
  have hA : isAt x3 3 [99] 1 = false := by decide
  rcases show_cases ⟨h1, h2, h3⟩ with ⟨hA', _⟩ | ⟨_, ⟨hn, _⟩ | ⟨hp, _⟩ | ⟨_, _, _, hM⟩ | ⟨_, hn, _⟩⟩
  · rw [hA] at hA'; cases hA'
  · omega
  · omega
  · exact hM
  · omega
theorem x3_a (p : Nat) (h : posAt x3 3 [97] p) : p = 0 ∧ shM x3 3 [97] p = 1 ∧ (shY x3 3 [97] p 0).pr = ([98], [49]) ∧ (shY x3 3 [97] p 0).at_ = 0 := by
  obtain ⟨h1, h2, h3⟩ := h
  have e0 : ¬ 1 ≤ p := fun e => by
    have := h2 0 (by omega)
    rw [x3_0] at this; exact absurd this (by decide)
  obtain rfl : p = 0 := by omega
  have hA : isAt x3 3 [97] 0 = false := by decide
  rcases show_cases ⟨h1, h2, h3⟩ with ⟨hA', _⟩ | ⟨_, ⟨hn, _⟩ | ⟨_, _, hf, hM⟩ | ⟨hp, _⟩ | ⟨hp, _⟩⟩
  · rw [hA] at hA'; cases hA'
  · omega
  · refine ⟨rfl, hM, ?_, ?_⟩
    · show x3 (shF x3 3 [97] 0 + 0) = _
      rw [hf]; rfl
    · show ((shF x3 3 [97] 0 + 0 : Nat) : Int) = 0
      rw [hf]; rfl
  · omega
  · omega
/-- what is shown of d says nothing of c; of a, nothing of x. -/
theorem x3_dc (p : Nat) (h : posAt x3 3 [100] p) (root : List Int) : ¬ lookOk 3 (shM x3 3 [100] p) (shY x3 3 [100] p) [99] root := fun hk => by
  obtain ⟨_, _, hM, hY, hat⟩ := x3_d p h
  have := hk.2.1
  unfold saysB at this
  rw [hM, if_neg (by omega), if_pos rfl, hY, hat] at this
  exact absurd this (by decide)
theorem x3_ax (p : Nat) (h : posAt x3 3 [97] p) (root : List Int) : ¬ lookOk 3 (shM x3 3 [97] p) (shY x3 3 [97] p) [120] root := fun hk => by
  obtain ⟨_, hM, hY, hat⟩ := x3_a p h
  have := hk.2.1
  unfold saysB at this
  rw [hM, if_neg (by omega), if_pos rfl, hY, hat] at this
  exact absurd this (by decide)
end Go.Proofs.YtkgegihkhdgdoaaDoor

/- KeyedTells: its walk, but for the examples. -/
namespace Go.Proofs.YtkgegihkhdgdoaaDoor
set_option linter.unusedSimpArgs false
set_option linter.unusedVariables false
open Go.RowKit Go.Deep

theorem pathI_63 (L : List (List Int)) (hL : L.length ≤ 1000000) (at_ : Int) : (pathI L at_).length ≤ 63 := by
  unfold pathI
  rw [List.length_reverse, downF_len]
  exact wayI_len _ _ (by omega)
theorem shM_le {x : Nat → Pr} {n p : Nat} {key : List Int} (hp : posAt x n key p) : shM x n key p ≤ 10 := by
  rcases show_cases hp with ⟨_, _, _, h⟩ | ⟨_, ⟨_, h⟩ | ⟨_, _, _, h⟩ | ⟨_, _, _, h⟩ | ⟨_, _, _, h⟩⟩ <;> omega
/-- what a look at what is shown tells, by root and key. -/
def tellP (n : Nat) (x : Nat → Pr) (key : List Int) (w : World) (e : Ending) (w' : World) : Prop :=
  ((∃ i, i < n ∧ (x i).1 = key ∧ ∃ v', newBytes w' w.heap.size v' (x i).2 ∧ e = .returned (.tuple #[v', .bool true, .int .i64 0])) ∨ ((∀ i, i < n → ¬ (x i).1 = key) ∧ e = .returned (.tuple #[.slice none 0 0, .bool false, .int .i64 0]))) ∧ Below w.heap.size w w'
theorem look_tells {n p : Nat} {x : Nat → Pr} {key : List Int} (hm : mayP x n) (hp : posAt x n key p) (hn : n ≤ 100) (hx : ∀ i, i < n → (x i).1.length + (x i).2.length ≤ 100000) (sv tv : Value) (w : World) (hs : spotsAt w sv (shM x n key p) (shY x n key p)) (hk : anyBytes w tv key) (ht : tabIs w) :
    Calls Tryd.prog 22 #[.pointer none, .agg (rowV 32 (arrV (keyS x n))), tv, .agg #[.int .i64 n, sv]] w fun e w' => tellP n x key w e w' := by
  have hl := leavesTo_len x n
  refine (look_k frNone (.pointer none) [] 0 (keyS x n) (keyS_sum x n) n ⟨by omega, by omega⟩ (shM x n key p) sv tv (shY x n key p) key w w (Below.refl _ _) (fun _ h => h.elim) hs hk ht (bkNone _ _ _) (shM_le hp) (fun i => ?_) (fun i hi => ?_) (by simp) (by omega)).mono ?_
  · have := pathI_63 (leavesTo x n) (by rw [hl]; omega) ((shF x n key p + i : Nat) : Int)
    show (pathI (leavesTo x n) ((shF x n key p + i : Nat) : Int)).length ≤ 1000
    omega
  · have h1 := (shM_lt x n key p i).1 hi
    have h2 := (arL_lt x n key p).1
    have := hx (shF x n key p + i) (by omega)
    show (x (shF x n key p + i)).1.length + (x (shF x n key p + i)).2.length ≤ 1000000
    omega
  · rintro e w' ⟨h, hf⟩
    refine ⟨?_, frNone_below hf⟩
    rcases h with ⟨hno, _⟩ | ⟨_, _, ⟨k, hk1, hk2, _, v', hv, rfl⟩ | ⟨hno, rfl⟩⟩
    · exact absurd (show_ok hm hp) hno
    · obtain ⟨q1, q2, q3⟩ := show_there hm hp k hk1 hk2
      rw [q3] at hv
      exact Or.inl ⟨_, q1, q2, v', hv, rfl⟩
    · exact Or.inr ⟨fun i hi => show_none hm hp hno i hi, rfl⟩
end Go.Proofs.YtkgegihkhdgdoaaDoor

/- constants as bytes, in any world; a look that is refused. -/
namespace Go.Proofs.YtkgegihkhdgdoaaDoor
set_option linter.unusedSimpArgs false
set_option linter.unusedVariables false
open Go.RowKit Go.Deep

/-- nothing has turned but a mark of block b. -/
structure Marked (b : Nat) (W W' : World) : Prop where
  but : But W.heap.size b W W'
  size : W'.heap.size = W.heap.size
  cell : ∀ a, W'.cell? a = W.cell? a
theorem conv_mark (W : World) (b : Nat) (x : Int) (h0 : 0 ≤ x) (h1 : x ≤ 255) (hb : W.heap[b]? = some (.cells #[.int .u8 x] 5)) :
    ∃ W', (convert 23 23 (.slice (some ⟨b, 0, none⟩) 1 1)).run Tryd.prog W = .ok (.slice (some ⟨b, 0, none⟩) 1 1) W' ∧ Marked b W W' ∧ isBytes W' (.slice (some ⟨b, 0, none⟩) 1 1) [x] := by
  have hsh : W.shape? b = some (5, 1) := by unfold World.shape?; rw [hb]; rfl
  have hlt : b < W.heap.size := (Array.getElem?_eq_some_iff.1 hb).1
  have hcell : ∀ a, (W.freeze ⟨b, 1, none⟩ 1).cell? a = W.cell? a := by
    intro a
    unfold World.freeze
    rw [if_neg (by decide)]
    unfold World.cell?
    simp only [Array.getElem?_modify]
    by_cases e : b = a.block
    · rw [if_pos e, ← e, hb]; rfl
    · rw [if_neg e]
  have hsz : (W.freeze ⟨b, 1, none⟩ 1).heap.size = W.heap.size := by
    unfold World.freeze
    rw [if_neg (by decide)]
    simp
  refine ⟨W.freeze ⟨b, 1, none⟩ 1, ?_, ⟨⟨?_, ?_, ?_, by rw [hsz]; exact Nat.le_refl _, fun k hk hne => ?_⟩, hsz, hcell⟩, Or.inr ⟨b, 0, 1, rfl, by simp, by unfold maxLen; simp, by rw [hsz]; exact hlt, fun i hi => ?_, fun i => ?_⟩⟩
  · simp [convert, run_underlying Tryd.underlying23, run_underlying Tryd.underlying5, markStringish, hsh]
  · unfold World.freeze; rw [if_neg (by decide)]
  · unfold World.freeze; rw [if_neg (by decide)]
  · unfold World.freeze; rw [if_neg (by decide)]
  · unfold World.freeze
    rw [if_neg (by decide)]
    simp only [Array.getElem?_modify]
    rw [if_neg (fun e => hne e.symm)]
  · have hi0 : i = 0 := by simpa using hi
    subst hi0
    rw [hcell]
    unfold World.cell?
    simp only [hb]
    rfl
  · match i with
    | 0 => exact ⟨h0, h1⟩
    | i + 1 => simp
theorem isBytes.cells {W W' : World} {v : Value} {l : List Int} (h : isBytes W v l) (hs : W'.heap.size = W.heap.size) (hc : ∀ a, W'.cell? a = W.cell? a) : isBytes W' v l := by
  rcases h with h | ⟨pb, po, cap, h1, h2, h3, h4, h6, h7⟩
  · exact Or.inl h
  · exact Or.inr ⟨pb, po, cap, h1, h2, h3, by rw [hs]; exact h4, fun i hi => by rw [hc]; exact h6 i hi, h7⟩
theorem anyBytes.cells {W W' : World} {v : Value} {l : List Int} (h : anyBytes W v l) (hs : W'.heap.size = W.heap.size) (hc : ∀ a, W'.cell? a = W.cell? a) : anyBytes W' v l := by
  rcases h with h | h
  · exact Or.inl (h.cells hs hc)
  · exact Or.inr h
theorem sumsAt.cells {W W' : World} {v : Value} {L : List (List Int)} (h : sumsAt W v L) (hs : W'.heap.size = W.heap.size) (hc : ∀ a, W'.cell? a = W.cell? a) : sumsAt W' v L := by
  obtain ⟨h1, a, cap, h2, h3, h4, h5⟩ := h
  refine ⟨h1, a, cap, h2, h3, h4, fun h0 => ?_⟩
  obtain ⟨g, o, e, hg, hcl⟩ := h5 h0
  exact ⟨g, o, e, by rw [hs]; exact hg, fun i hi j hj => by rw [hc]; exact hcl i hi j hj⟩
theorem spotsAt.cells {W W' : World} {v : Value} {m : Nat} {y : Nat → Sp} (h : spotsAt W v m y) (hs : W'.heap.size = W.heap.size) (hc : ∀ a, W'.cell? a = W.cell? a) : spotsAt W' v m y := by
  obtain ⟨a, cap, h1, h2, h3, h4⟩ := h
  refine ⟨a, cap, h1, h2, h3, fun i hi => ?_⟩
  obtain ⟨g, o, kc, vc, pc, e, hg, c0, c1, c2, c3, k1, k2, k3, k4⟩ := h4 i hi
  exact ⟨g, o, kc, vc, pc, e, by rw [hs]; exact hg, by rw [hc]; exact c0, by rw [hc]; exact c1, by rw [hc]; exact c2, by rw [hc]; exact c3, k1.cells hs hc, k2.cells hs hc, k3.cells hs hc, k4⟩
/-- a constant, built; .., as bytes. -/
def litB (w0 W : World) (b : Nat) (x : Int) : Prop := w0.heap.size ≤ b ∧ W.heap[b]? = some (.cells #[.int .u8 x] 5)
def litC (w0 W : World) (b : Nat) (x : Int) : Prop := w0.heap.size ≤ b ∧ b < W.heap.size ∧ isBytes W (.slice (some ⟨b, 0, none⟩) 1 1) [x]
theorem litB.lt {w0 W : World} {b : Nat} {x : Int} (h : litB w0 W b x) : b < W.heap.size := (Array.getElem?_eq_some_iff.1 h.2).1
theorem litB.step {w0 W W' : World} {b : Nat} {x : Int} (h : litB w0 W b x) (hb : Below W.heap.size W W') : litB w0 W' b x := ⟨h.1, (hb.block b h.lt).trans h.2⟩
theorem litC.step {w0 W W' : World} {b : Nat} {x : Int} (h : litC w0 W b x) (hb : Below W.heap.size W W') : litC w0 W' b x := ⟨h.1, Nat.lt_of_lt_of_le h.2.1 hb.size, h.2.2.below hb (Nat.le_refl _)⟩
theorem litB.mark {w0 W W' : World} {b c : Nat} {x : Int} (h : litB w0 W b x) (hm : Marked c W W') (hne : b ≠ c) : litB w0 W' b x := ⟨h.1, (hm.but.block b h.lt hne).trans h.2⟩
theorem litC.mark {w0 W W' : World} {b c : Nat} {x : Int} (h : litC w0 W b x) (hm : Marked c W W') : litC w0 W' b x := ⟨h.1, by rw [hm.size]; exact h.2.1, h.2.2.cells hm.size hm.cell⟩
/-- building it. -/
theorem lit_build (w0 W : World) (x : Int) (hb : Below w0.heap.size w0 W) : ∃ W', (Instr.buildSlice 23 1 #[(0, .int .u8 x)]).run Tryd.prog W = .ok (.slice (some ⟨W.heap.size, 0, none⟩) 1 1) W' ∧ litB w0 W' W.heap.size x ∧ Below W.heap.size W W' ∧ Below w0.heap.size w0 W' :=
  ⟨_, build_b1 x W, ⟨hb.size, blk_alloc_new W _⟩, (Below.refl _ _).alloc (Nat.le_refl _) _, hb.alloc hb.size _⟩
theorem lit_conv (w0 W : World) (b : Nat) (x : Int) (h0 : 0 ≤ x) (h1 : x ≤ 255) (h : litB w0 W b x) (hb : Below w0.heap.size w0 W) : ∃ W', (convert 23 23 (.slice (some ⟨b, 0, none⟩) 1 1)).run Tryd.prog W = .ok (.slice (some ⟨b, 0, none⟩) 1 1) W' ∧ litC w0 W' b x ∧ Marked b W W' ∧ Below w0.heap.size w0 W' := by
  obtain ⟨W', hr, hm, hi⟩ := conv_mark W b x h0 h1 h.2
  exact ⟨W', hr, ⟨h.1, by rw [hm.size]; exact h.lt, hi⟩, hm, hb.trans (hm.but.below' h.1 hb.size)⟩
/-- a look that is refused. -/
theorem look_no {n p : Nat} {x : Nat → Pr} {key key2 : List Int} (hm : mayP x n) (hp : posAt x n key p) (hn : n ≤ 100) (hx : ∀ i, i < n → (x i).1.length + (x i).2.length ≤ 100000) (sv tv : Value) (w : World) (hs : spotsAt w sv (shM x n key p) (shY x n key p)) (hk : anyBytes w tv key2) (ht : tabIs w)
    (hno : ¬ lookOk n (shM x n key p) (shY x n key p) key2 (keyS x n)) :
    Calls Tryd.prog 22 #[.pointer none, .agg (rowV 32 (arrV (keyS x n))), tv, .agg #[.int .i64 n, sv]] w fun e w' => e = .returned (.tuple #[.slice none 0 0, .bool false, .int .i64 10]) ∧ Below w.heap.size w w' := by
  have hl := leavesTo_len x n
  refine (look_k frNone (.pointer none) [] 0 (keyS x n) (keyS_sum x n) n ⟨by omega, by omega⟩ (shM x n key p) sv tv (shY x n key p) key2 w w (Below.refl _ _) (fun _ h => h.elim) hs hk ht (bkNone _ _ _) (shM_le hp) (fun i => ?_) (fun i hi => ?_) (by simp) (by omega)).mono ?_
  · have := pathI_63 (leavesTo x n) (by rw [hl]; omega) ((shF x n key p + i : Nat) : Int)
    show (pathI (leavesTo x n) ((shF x n key p + i : Nat) : Int)).length ≤ 1000
    omega
  · have h1 := (shM_lt x n key p i).1 hi
    have h2 := (arL_lt x n key p).1
    have := hx (shF x n key p + i) (by omega)
    show (x (shF x n key p + i)).1.length + (x (shF x n key p + i)).2.length ≤ 1000000
    omega
  · rintro e w' ⟨h, hf⟩
    refine ⟨?_, frNone_below hf⟩
    rcases h with ⟨_, e⟩ | ⟨hok, _⟩
    · exact e
    · exact absurd hok hno
end Go.Proofs.YtkgegihkhdgdoaaDoor
