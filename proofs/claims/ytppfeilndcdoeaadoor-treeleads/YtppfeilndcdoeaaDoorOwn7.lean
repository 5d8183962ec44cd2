import Derived.Test.YtppfeilndcdoeaaDoorOwn5
import Derived.Test.YtppfeilndcdoeaaDoorOwn6
set_option linter.unusedVariables false
set_option linter.unusedSimpArgs false
/- tree.Path: its walk. -/
namespace Go.Proofs.YtppfeilndcdoeaaDoor
set_option linter.unusedSimpArgs false
set_option linter.unusedVariables false
open Go.RowKit Go.Deep Go.Shelf
attribute [local go_sem] Oper.semAt_some

set_option maxHeartbeats 1000000 in
set_option maxRecDepth 100000 in
theorem path_k (F : Nat → Prop) (kv : Value) (N : List Nt) (c : Int) (L : List (List Int)) (lv0 : Value) (at_ : Int) (w : World) (ha : -9223372036854775808 ≤ at_ ∧ at_ ≤ 9223372036854775807) (hk : bkAt kv w F N c) (h : sumsAt w lv0 L) (hvF : 0 < L.length → ∀ j, lv0.ownBlock = some j → ¬ F j)
    (hL : L.length ≤ 1000) (ht : tabIs w) (hF0 : ¬ F 0) (hN : N.length + L.length < 100000) (hc : 0 ≤ c ∧ c < 90000000) :
    Calls Tryd.prog 14 #[kv, lv0, .int .i64 at_] w fun e w' => ∃ v Fi, e = .returned v ∧ newSums w' w.heap.size v (pathI L at_) ∧ bkAt kv w' Fi (downN N (wayI L.length at_) L) (c + downC (wayI L.length at_) L) ∧ (∀ j, Fi j → F j ∨ w.heap.size ≤ j) ∧ (∀ j, v.ownBlock = some j → ¬ Fi j) ∧ Fr F w w' := by
  obtain ⟨ka, rfl⟩ : ∃ ka, kv = .pointer ka := by
    rcases hk with ⟨e, _⟩ | ⟨k, e, _⟩ <;> exact ⟨_, e⟩
  have hFlt := hk.lt
  have hvl : 0 < L.length → ∀ j, lv0.ownBlock = some j → j < w.heap.size := fun h0 j hj => by
    obtain ⟨_, a, cap, rfl, _, _, h5⟩ := h
    obtain ⟨g, o, rfl, hg, _⟩ := h5 h0
    have : g = j := by simpa [Value.ownBlock] using hj
    omega
  have hsl : ∃ a cap, lv0 = .slice a L.length cap := by
    obtain ⟨_, a, cap, e, _⟩ := h; exact ⟨a, cap, e⟩
  obtain ⟨way, hway⟩ : ∃ way, way = wayI L.length at_ := ⟨_, rfl⟩
  have hwl : 0 < way.length → ∃ p : Nat, way = wayL L.length p := fun h0 => by
    rw [hway] at h0 ⊢
    unfold wayI at h0 ⊢
    by_cases e : thereB (L.length : Int) at_ = true
    · rw [if_pos e]; exact ⟨at_.toNat, by rw [Int.toNat_natCast]⟩
    · rw [if_neg e] at h0; simp at h0
  obtain ⟨w3, hw3⟩ : ∃ w3, w3 = ((w.alloc (.cells #[.pointer ka] 24)).alloc (.cells #[lv0] 22)).alloc (.cells #[.slice none 0 0] 22) := ⟨_, rfl⟩
  have s3 : w3.heap.size = w.heap.size + 3 := by rw [hw3]; simp
  have b3 : Below w.heap.size w w3 := by rw [hw3]; exact (((Below.refl _ _).alloc (Nat.le_refl _) _).alloc (by simp) _).alloc (by simp; omega) _
  have x1 : w3.rowIs w.heap.size 24 1 (fun _ => .pointer ka) := by
    have r1 : (w.alloc (.cells #[.pointer ka] 24)).rowIs w.heap.size 24 1 (fun _ => .pointer ka) := rowIs_one _ _ _
    rw [hw3]
    exact (((Below.refl (w.alloc (.cells #[.pointer ka] 24)).heap.size _).alloc (Nat.le_refl _) _).alloc (by simp) _).row r1 (by simp)
  have x2 : w3.rowIs (w.heap.size + 1) 22 1 (fun _ => lv0) := by
    have r1 := rowIs_one (w.alloc (.cells #[.pointer ka] 24)) lv0 22
    rw [World.size_alloc] at r1
    rw [hw3]
    exact ((Below.refl ((w.alloc (.cells #[.pointer ka] 24)).alloc (.cells #[lv0] 22)).heap.size _).alloc (Nat.le_refl _) _).row r1 (by simp)
  have x3 : w3.rowIs (w.heap.size + 2) 22 1 (fun _ => .slice none 0 0) := by
    have r1 := rowIs_one ((w.alloc (.cells #[.pointer ka] 24)).alloc (.cells #[lv0] 22)) (.slice none 0 0) 22
    rw [World.size_alloc, World.size_alloc] at r1
    rw [hw3]; exact r1
  have cl3 := x2.cell (i := 0) (by omega)
  obtain ⟨W0, hW0⟩ : ∃ W0, W0 = wayW (L.length : Int) at_ w3 := ⟨_, rfl⟩
  have X3 := way_any (L.length : Int) at_ w3
  rw [← hW0] at X3
  have b0 : Below w3.heap.size w3 W0 := by rw [hW0]; unfold wayW; exact ((Below.refl _ _).alloc (Nat.le_refl _) _).alloc (by simp) _
  have hca : W0.cell? ⟨w3.heap.size, 0, none⟩ = some (.int .i64 (L.length : Int)) := by
    have r1 : (w3.alloc (.cells #[.int .i64 (L.length : Int)] 3)).rowIs w3.heap.size 3 1 (fun _ => .int .i64 (L.length : Int)) := rowIs_one _ _ _
    have bb : Below (w3.alloc (.cells #[.int .i64 (L.length : Int)] 3)).heap.size (w3.alloc (.cells #[.int .i64 (L.length : Int)] 3)) W0 := by rw [hW0]; unfold wayW; exact (Below.refl _ _).alloc (Nat.le_refl _) _
    exact (bb.row r1 (by simp)).cell (i := 0) (by omega)
  have hcb : W0.cell? ⟨w3.heap.size + 1, 0, none⟩ = some (.int .i64 at_) := by
    have r1 : W0.rowIs (w3.alloc (.cells #[.int .i64 (L.length : Int)] 3)).heap.size 3 1 (fun _ => .int .i64 at_) := by rw [hW0]; unfold wayW; exact rowIs_one _ _ _
    have := r1.cell (i := 0) (by omega)
    rwa [World.size_alloc] at this
  have sz0 : W0.heap.size = w3.heap.size + 2 := by rw [hW0]; unfold wayW; simp
  have HS := way1_hands 2 (L.length : Int) at_ (by omega) ha w3.heap.size (w3.heap.size + 1) W0 (by omega) (by omega) hca hcb
  rw [← hway] at HS
  have P0 : pathAt w W0 F (.pointer ka) N c lv0 L way 0 W0 := by
    have b00 := b3.trans (b0.mono (by omega))
    refine ⟨lv0, .slice none 0 0, F, b0.row x1 (by omega), b0.row x2 (by omega), ?_, rfl, b0.row x3 (by omega), newSums.nil _ _, ?_, fun j hj => Or.inl hj, fun j hj => (by cases hj), Fr.refl _ _⟩
    · rw [List.take_zero]; exact h.below b00 (Nat.le_refl _)
    · rw [List.take_zero]
      show bkAt (.pointer ka) W0 F N (c + 0)
      rw [Int.add_zero]; exact hk.below b00 (Nat.le_refl _)
  have t0 : tabIs W0 := ht.below (b3.trans (b0.mono (by omega))) ht.1
  have hw0 := ht.1
  have s0 : W0.heap.size = w.heap.size + 5 := by omega
  have B0 : Hid (Below w.heap.size w W0) := (show Below w.heap.size w W0 from b3.trans (b0.mono (by omega)))
  have HST : Hid _ := HS
  have HP0 : Hid _ := P0
  have T0 : Hid _ := t0
  have HW0 : Hid _ := hw0
  have S0 : Hid _ := s0
  have S3 : Hid _ := s3
  have HV : Hid _ := hvl
  have HVF : Hid _ := hvF
  have HFL : Hid _ := hFlt
  have HF0 : Hid _ := hF0
  have HN : Hid _ := hN
  have HC : Hid _ := hc
  have HWL : Hid _ := hwl
  have HWAY : Hid _ := hway
  obtain ⟨va, vc, rfl⟩ := hsl
  have q0 : (L.length : Int) ≤ 1000 := by omega
  refine callsIn_wide (n := 3) |>.1 ?_
  refine callsIn_of_wp_marks Tryd.func14 rfl trivial ?_ rfl
  refine wpIn_wide.2 ?_
  simp only [Tryd.ntmps14, List.size_toArray, List.length_cons, List.length_nil, Nat.reduceAdd, Nat.reduceSub, Array.replicate_succ, Array.replicate_zero, List.push_toArray, List.append_toArray, List.nil_append, List.cons_append]
  clear HS P0 t0 hw0 s0 hvl hvF hFlt hF0 hN hc hwl hway hca hcb b0 b3 x1 x2 x3 hW0 sz0 s3 hk h ht
  go_upto_region 2 with fail
  rw [← hw3]
  clear hw3
  go_wp2_with fail
  refine X3.mono ?_
  rintro e w' ⟨rfl, hw⟩
  obtain rfl := hw.symm
  clear X3 hw cl3
  go_wp2_with fail
  refine (wpIn_wide (n := 3)).1 ?_
  refine wpIn_range_at (gf := 39) (lb := #[.pointer (some ⟨w3.heap.size, 0, none⟩), .pointer (some ⟨w3.heap.size + 1, 0, none⟩)]) (encs := stepV) (ys := way) rfl (enters_of Tryd.func39 (by kernel_rfl) rfl) HST.out (fun _ => rfl)
    (fun k W => pathAt w W0 F (.pointer ka) N c (.slice va L.length vc) L way k W)
    (fun k W x y h hx => h.keep (by have := S0.out; omega) HFL.out HV.out ⟨rfl, rfl, rfl⟩ (by simp [World.putObj]) (fun j _ h1 h2 => putObj_block W _ _ h2))
    (fun k W h => h.keep (by have := S0.out; omega) HFL.out HV.out ⟨rfl, rfl, rfl⟩ (Nat.le_refl _) (fun j _ _ _ => rfl))
    (fun o o' => pathAt.keep HP0.out (by have := S0.out; omega) HFL.out HV.out ⟨rfl, rfl, rfl⟩ (by simp; omega) (fun j hj _ _ => (((Below.refl W0.heap.size W0).alloc (Nat.le_refl _) o).alloc (by simp) o').block j hj))
    (fun x => { tmps := #[.pointer ka, .slice va L.length vc, .int .i64 at_, .pointer (some ⟨w.heap.size, 0, none⟩), .pointer (some ⟨w.heap.size + 1, 0, none⟩), undef, .slice none 0 0, .pointer (some ⟨w.heap.size + 2, 0, none⟩), .int .i64 (x.1 : Int), .bool x.2, undef, undef, .slice va L.length vc, .int .i64 L.length, .int .i64 at_,
      .func (.func 39) #[] #[.pointer (some ⟨w3.heap.size, 0, none⟩), .pointer (some ⟨w3.heap.size + 1, 0, none⟩)], .int .i64 (x.1 : Int), .bool x.2, undef, undef, undef, undef, undef, undef, undef, undef, undef, undef, undef, undef, undef, undef, undef, undef, undef, undef, undef, undef, undef, undef, undef, undef], defers := [] }) ?assign ?body ?done
  case assign =>
    intro l x W K hK
    simp only [stepV, List.zip_toArray, List.zip_cons_cons, List.zip_nil_left, List.zip_nil_right, List.foldl_toArray, List.foldl_cons, List.foldl_nil, List.setIfInBounds_toArray, List.set_cons_succ, List.set_cons_zero]
    gi_wp2
    exact hK
  case body =>
    rintro l k hk W x0 hP hDd hDl
    obtain ⟨p, hp⟩ := HWL.out (by omega)
    obtain ⟨lv, pv, Fi, h1, h2, h3, h4, h5, h6, h7, h8, h9, h10⟩ := hP
    have hx : (wayL L.length p)[k]? = some way[k] := by rw [← hp]; exact List.getElem?_eq_getElem hk
    obtain ⟨x, hxe⟩ : ∃ x, x = way[k] := ⟨_, rfl⟩
    rw [← hxe] at hx ⊢
    obtain ⟨_, _, _, _, d5⟩ := down_at k L p N (by rw [← hp]; omega) (by
      have := way_two (show 0 < (wayL L.length p).length by rw [← hp]; omega)
      omega)
    obtain ⟨d6, d7⟩ := d5 x hx
    rw [hp] at h3 h6 h7
    have dk := keptF_le ((wayL L.length p).take k) L
    obtain ⟨K, hK⟩ : ∃ K, K = keptF ((wayL L.length p).take k) L := ⟨_, rfl⟩
    have h3k := h3
    rw [← hK] at d6 d7 h3k dk
    have hhf := halfN_is d6
    obtain ⟨ua, ra, sa, oa, xa, ya, rfl⟩ := h3k.to' x.1 (by omega)
    obtain ⟨ub, rb, sb, ob, xb, yb, rfl⟩ := h3k.from' x.1 (by omega)
    have hslv : ∃ a cap, lv = .slice a K.length cap := by
      obtain ⟨_, a, cap, e, _⟩ := h3k; exact ⟨a, cap, e⟩
    obtain ⟨la, lc, rfl⟩ := hslv
    have hD : W0.heap.size + 1 < W.heap.size := (Array.getElem?_eq_some_iff.1 hDl).1
    have c2 := h2.cell (i := 0) (by omega)
    have hL0 : 0 < L.length := by omega
    obtain ⟨wd, hwd⟩ : ∃ wd, wd = W.drew.drew := ⟨_, rfl⟩
    have bwd : Below W.heap.size W wd := by rw [hwd]; exact ((Below.refl W.heap.size W).drew).drew
    have hpv : ∃ pa pn pc, pv = .slice pa pn pc := by
      obtain ⟨pa, pc, e, _⟩ := ownsRow_slice h6.2; exact ⟨pa, _, pc, e⟩
    obtain ⟨pa, pn, pc, rfl⟩ := hpv
    have STEP := fun (ov kp : Value) (ho : sumsAt wd ov (otherL x (keptF ((wayL L.length p).take k) L))) (ho4 : ov.ownBlock = (Value.slice la K.length lc).ownBlock) (hkp : sumsAt wd kp (keptL x (keptF ((wayL L.length p).take k) L))) (hkp4 : kp.ownBlock = (Value.slice la K.length lc).ownBlock) =>
      pathAt.step (W := wd) (by have := S0.out; omega) HFL.out HF0.out T0.out HW0.out (fun j hj => ⟨HV.out hL0 j hj, HVF.out hL0 j hj⟩) hx hL HN.out HC.out (hwd ▸ h1) (hwd ▸ h2) (hwd ▸ h3) h4 (hwd ▸ h5) (hwd ▸ h6) (hwd ▸ (bkAt.drew (bkAt.drew h7))) h8 h9 (hwd ▸ h10.drew.drew) (hwd ▸ hD) ov kp ho ho4 hkp hkp4
    have hsa := sa.below bwd (Nat.le_refl _)
    have hsb := sb.below bwd (Nat.le_refl _)
    have c1 := h1.cell (i := 0) (by omega)
    have c5 := (World.rowIs.of_block (w' := wd) h5 (by rw [hwd]; rfl)).cell (i := 0) (by omega)
    have hDe : wd.heap[W0.heap.size]? = W.drew.heap[W0.heap.size]? ∧ wd.heap[W0.heap.size + 1]? = W.drew.heap[W0.heap.size + 1]? := by rw [hwd]; exact ⟨rfl, rfl⟩
    have HDE : Hid _ := hDe
    have HWD : Hid _ := hwd
    have C1 : Hid _ := c1
    have C5 : Hid _ := c5
    obtain ⟨xn, xl⟩ := x
    simp only at d7 ra rb hsa hsb ⊢
    have HIN : Hid ((0 : Int) ≤ (xn : Int) ∧ (xn : Int) < (K.length : Int)) := (show (0 : Int) ≤ (xn : Int) ∧ (xn : Int) < (K.length : Int) from by omega)
    have HSTEP : Hid _ := STEP
    have HK : Hid _ := hK
    have HP : Hid _ := hp
    have HSA : Hid _ := hsa
    have HSB : Hid _ := hsb
    have HOA : Hid _ := oa
    have HOB : Hid _ := ob
    clear STEP hwd bwd hDe c1 c5 hK hp hsa hsb oa ob h1 h2 h3 h4 h5 h6 h7 h8 h9 h10 h3k hD hDd hDl hx d5 d6 d7 dk hhf sa sb hxe HWL
    gi_wp2_with fail
    refine wpIn_region_round (S := fun w' => w'.cell? ⟨w.heap.size + 1, 0, none⟩ = some (.slice la K.length lc)) (by kernel_rfl) (by kernel_rfl) c2 (fun hHeld => ?_)
    refine take_op (i := 0) (v := ?va0) rfl (by kernel_rfl) (by kernel_rfl) (by kernel_rfl) (fun _ _ _ h => h) rfl hHeld ?ya0 ?ra0
    case ya0 => (intro wz hz; go_simp; first | done | with_reducible rfl)
    try simp only [Act.put, List.setIfInBounds_toArray, List.set_cons_zero, List.set_cons_succ]
    refine take_op (i := 1) (v := ?va1) rfl (by kernel_rfl) (by kernel_rfl) (by kernel_rfl) (fun _ _ _ h => h) rfl hHeld ?ya1 ?ra1
    case ya1 => (intro wz hz; go_simp; first | done | with_reducible rfl)
    try simp only [Act.put, List.setIfInBounds_toArray, List.set_cons_zero, List.set_cons_succ]
    refine take_op (i := 2) (v := ?va2) rfl (by kernel_rfl) (by kernel_rfl) (by kernel_rfl) (fun _ _ _ h => h) rfl hHeld ?ya2 ?ra2
    case ya2 => (intro wz hz; have hcz := ra wz; go_simp; first | done | with_reducible rfl)
    try simp only [Act.put, List.setIfInBounds_toArray, List.set_cons_zero, List.set_cons_succ]
    refine take_op (i := 3) (v := ?va3) rfl (by kernel_rfl) (by kernel_rfl) (by kernel_rfl) (fun _ _ _ h => h) rfl hHeld ?ya3 ?ra3
    case ya3 => (intro wz hz; go_simp; first | done | with_reducible rfl)
    try simp only [Act.put, List.setIfInBounds_toArray, List.set_cons_zero, List.set_cons_succ]
    refine take_op (i := 4) (v := ?va4) rfl (by kernel_rfl) (by kernel_rfl) (by kernel_rfl) (fun _ _ _ h => h) rfl hHeld ?ya4 ?ra4
    case ya4 => (intro wz hz; go_simp; first | done | with_reducible rfl)
    try simp only [Act.put, List.setIfInBounds_toArray, List.set_cons_zero, List.set_cons_succ]
    refine take_op (i := 5) (v := ?va5) rfl (by kernel_rfl) (by kernel_rfl) (by kernel_rfl) (fun _ _ _ h => h) rfl hHeld ?ya5 ?ra5
    case ya5 => (intro wz hz; have hcz := rb wz; go_simp; first | done | with_reducible rfl)
    try simp only [Act.put, List.setIfInBounds_toArray, List.set_cons_zero, List.set_cons_succ]
    refine take_op (i := 6) (v := ?va6) rfl (by kernel_rfl) (by kernel_rfl) (by kernel_rfl) (fun _ _ _ h => h) rfl hHeld ?ya6 ?ra6
    case ya6 => (intro wz hz; go_simp; first | done | with_reducible rfl)
    try simp only [Act.put, List.setIfInBounds_toArray, List.set_cons_zero, List.set_cons_succ]
    refine take_op (i := 7) (v := ?va7) rfl (by kernel_rfl) (by kernel_rfl) (by kernel_rfl) (fun _ _ _ h => h) rfl hHeld ?ya7 ?ra7
    case ya7 => (intro wz hz; go_simp; first | done | with_reducible rfl)
    try simp only [Act.put, List.setIfInBounds_toArray, List.set_cons_zero, List.set_cons_succ]
    refine wpAnyH_done (by kernel_rfl) ?_ _
    refine Calm.normal ?_
    clear c2 hHeld
    cases xl with
    | true =>
      have X7 := HSTEP.out (.slice xb (K.length - xn) yb) (.slice xa xn ya) (by unfold otherL; rw [if_pos rfl, ← HK.out]; exact HSB.out) HOB.out (by unfold keptL; rw [if_pos rfl, ← HK.out]; exact HSA.out) HOA.out
      generalize rootS (otherL (xn, true) (keptF ((wayL L.length p).take k) L)) = q at X7
      rw [← HP.out] at X7
      clear HSTEP HSA HSB HOA HOB HK HP ra rb
      gi_wp2_with fail
      refine wpIn_region_round (S := fun w' => w'.cell? ⟨w.heap.size, 0, none⟩ = some (.pointer ka)) (by kernel_rfl) (by kernel_rfl) C1.out (fun hHeld => ?_)
      rw [← HWD.out] at hHeld ⊢
      refine take_op (i := 1) (v := ?vpm1) rfl (by kernel_rfl) (by kernel_rfl) (by kernel_rfl) (fun _ _ _ h => h) rfl hHeld ?ypm1 ?rpm1
      case ypm1 => (intro wz hz; go_simp; first | done | with_reducible rfl)
      try simp only [Act.put, List.setIfInBounds_toArray, List.set_cons_zero, List.set_cons_succ]
      refine take_op (i := 2) (v := ?vpm2) rfl (by kernel_rfl) (by kernel_rfl) (by kernel_rfl) (fun _ _ _ h => h) rfl hHeld ?ypm2 ?rpm2
      case ypm2 => (intro wz hz; go_simp; first | done | with_reducible rfl)
      try simp only [Act.put, List.setIfInBounds_toArray, List.set_cons_zero, List.set_cons_succ]
      refine take_op (i := 6) (v := ?vpm6) rfl (by kernel_rfl) (by kernel_rfl) (by kernel_rfl) (fun _ _ _ h => h) rfl hHeld ?ypm6 ?rpm6
      case ypm6 => (intro wz hz; go_simp; first | done | with_reducible rfl)
      try simp only [Act.put, List.setIfInBounds_toArray, List.set_cons_zero, List.set_cons_succ]
      refine take_pair (i := 0) (j := 3) rfl rfl (by kernel_rfl) rfl rfl ?p1 ?p2
      case p1 =>
        intro K hK
        refine wp_of_run (v := .slice pa pn pc) (w' := wd) ?p3 ?_
        case p3 => (have hcz := C5.out; go_simp; first | done | with_reducible rfl)
        refine hK.out _ _ hHeld (fun hHeld => ?_)
        clear hK K
        try simp only [Act.put, List.setIfInBounds_toArray, List.set_cons_zero, List.set_cons_succ]
        refine take_one (i := 3) rfl (by kernel_rfl) rfl (fun K hK => ?_)
        go_simp
        refine Calls.mono X7 ?_
        rintro e wR ⟨rfl, r5, r1, hS⟩
        obtain ⟨wS, hwS⟩ : ∃ wS, wS = wR.alloc (.cells (rowV 32 (arrV q)) 28) := ⟨_, rfl⟩
        obtain ⟨s5, s1, aa, am, ac, w8, hr, t5, t2, t1, h9⟩ := hS wS hwS
        clear X7 hS
        refine hK.out _ _ (r1.cell (i := 0) (by omega)) (fun hHeld => ?_)
        clear hK K
        try simp only [Act.put, List.setIfInBounds_toArray, List.set_cons_zero, List.set_cons_succ]
        refine take_one (i := 4) rfl (by kernel_rfl) rfl (fun K hK => ?_)
        refine wp_of_run (w' := wS) (by rw [hwS]; exact exec_bslice1' 22 1 0 (.tmp 28) _ rfl rfl (build_one (arrV q) wR)) ?_
        refine hK.out _ _ (s1.cell (i := 0) (by omega)) (fun hHeld => ?_)
        clear hK K
        try simp only [Act.put, List.setIfInBounds_toArray, List.set_cons_zero, List.set_cons_succ]
        refine take_one (i := 5) rfl (by kernel_rfl) rfl (fun K hK => ?_)
        refine wp_append_run (.tmp 25) (.tmp 29) _ rfl rfl rfl hr ?_
        refine hK.out _ _ (t1.cell (i := 0) (by omega)) (fun hHeld => ?_)
        clear hK K hr
        try simp only [Act.put, List.setIfInBounds_toArray, List.set_cons_zero, List.set_cons_succ]
        have c8 := t5.cell (i := 0) (by omega)
        have f8 := t5.frozen 0
        have y1 : (w8.setCell ⟨w.heap.size + 2, 0, none⟩ (.slice aa am ac)).rowIs w.heap.size 24 1 (fun _ => .pointer ka) := World.rowIs.of_block t1 (blk_setCell_other _ _ _ _ (fun e => by have : w.heap.size = w.heap.size + 2 := e; omega))
        have y2 : (w8.setCell ⟨w.heap.size + 2, 0, none⟩ (.slice aa am ac)).rowIs (w.heap.size + 1) 22 1 (fun _ => .slice la K.length lc) := World.rowIs.of_block t2 (blk_setCell_other _ _ _ _ (fun e => by have : w.heap.size + 1 = w.heap.size + 2 := e; omega))
        obtain ⟨w9, hw9⟩ : ∃ w9, w9 = (w8.setCell ⟨w.heap.size + 2, 0, none⟩ (.slice aa am ac)).setCell ⟨w.heap.size + 1, 0, none⟩ (.slice xa xn ya) := ⟨_, rfl⟩
        obtain ⟨g1, g2, g3, g4⟩ := h9 w9 hw9
        have G2 : Hid _ := g2
        have G3 : Hid _ := g3
        have G4 : Hid _ := g4
        clear g2 g3 g4 h9
        refine take_one (i := 7) rfl (by kernel_rfl) rfl (fun K hK => ?_)
        go_simp
        refine hK.out _ _ (y1.cell (i := 0) (by omega)) (fun hHeld => ?_)
        clear hK K c8 f8
        try simp only [Act.put, List.setIfInBounds_toArray, List.set_cons_zero, List.set_cons_succ]
        have c9 := y2.cell (i := 0) (by omega)
        have f9 := y2.frozen 0
        refine take_one (i := 8) rfl (by kernel_rfl) rfl (fun K hK => ?_)
        go_simp
        rw [← hw9]
        refine hK.out _ _ (g1.cell (i := 0) (by omega)) (fun hHeld => ?_)
        clear hK K c9 f9
        try simp only [Act.put, List.setIfInBounds_toArray, List.set_cons_zero, List.set_cons_succ]
        refine wpAnyH_done (by kernel_rfl) ?_ _
        refine Calm.normal ?_
        clear hw9 y1 y2 g1 t1 t2 t5 hHeld
        gi_wp2
        exact ⟨G2.out.trans HDE.out.1, G3.out.trans HDE.out.2, G4.out⟩
      case p2 =>
        intro K hK
        go_simp
        refine Calls.mono X7 ?_
        rintro e wR ⟨rfl, r5, r1, hS⟩
        obtain ⟨wS, hwS⟩ : ∃ wS, wS = wR.alloc (.cells (rowV 32 (arrV q)) 28) := ⟨_, rfl⟩
        obtain ⟨s5, s1, aa, am, ac, w8, hr, t5, t2, t1, h9⟩ := hS wS hwS
        clear X7 hS
        refine hK.out _ _ (r1.cell (i := 0) (by omega)) (fun hHeld => ?_)
        clear hK K
        try simp only [Act.put, List.setIfInBounds_toArray, List.set_cons_zero, List.set_cons_succ]
        refine take_pair (i := 0) (j := 4) rfl rfl (by kernel_rfl) rfl rfl ?p4 ?p5
        case p4 =>
          intro K hK
          refine wp_of_run (v := .slice pa pn pc) (w' := wR) ?p6 ?_
          case p6 => (have hcz := r5.cell (i := 0) (by omega); go_simp; first | done | with_reducible rfl)
          refine hK.out _ _ hHeld (fun hHeld => ?_)
          clear hK K
          try simp only [Act.put, List.setIfInBounds_toArray, List.set_cons_zero, List.set_cons_succ]
          refine take_one (i := 4) rfl (by kernel_rfl) rfl (fun K hK => ?_)
          refine wp_of_run (w' := wS) (by rw [hwS]; exact exec_bslice1' 22 1 0 (.tmp 28) _ rfl rfl (build_one (arrV q) wR)) ?_
          refine hK.out _ _ (s1.cell (i := 0) (by omega)) (fun hHeld => ?_)
          clear hK K
          try simp only [Act.put, List.setIfInBounds_toArray, List.set_cons_zero, List.set_cons_succ]
          refine take_one (i := 5) rfl (by kernel_rfl) rfl (fun K hK => ?_)
          refine wp_append_run (.tmp 25) (.tmp 29) _ rfl rfl rfl hr ?_
          refine hK.out _ _ (t1.cell (i := 0) (by omega)) (fun hHeld => ?_)
          clear hK K hr
          try simp only [Act.put, List.setIfInBounds_toArray, List.set_cons_zero, List.set_cons_succ]
          have c8 := t5.cell (i := 0) (by omega)
          have f8 := t5.frozen 0
          have y1 : (w8.setCell ⟨w.heap.size + 2, 0, none⟩ (.slice aa am ac)).rowIs w.heap.size 24 1 (fun _ => .pointer ka) := World.rowIs.of_block t1 (blk_setCell_other _ _ _ _ (fun e => by have : w.heap.size = w.heap.size + 2 := e; omega))
          have y2 : (w8.setCell ⟨w.heap.size + 2, 0, none⟩ (.slice aa am ac)).rowIs (w.heap.size + 1) 22 1 (fun _ => .slice la K.length lc) := World.rowIs.of_block t2 (blk_setCell_other _ _ _ _ (fun e => by have : w.heap.size + 1 = w.heap.size + 2 := e; omega))
          obtain ⟨w9, hw9⟩ : ∃ w9, w9 = (w8.setCell ⟨w.heap.size + 2, 0, none⟩ (.slice aa am ac)).setCell ⟨w.heap.size + 1, 0, none⟩ (.slice xa xn ya) := ⟨_, rfl⟩
          obtain ⟨g1, g2, g3, g4⟩ := h9 w9 hw9
          have G2 : Hid _ := g2
          have G3 : Hid _ := g3
          have G4 : Hid _ := g4
          clear g2 g3 g4 h9
          refine take_one (i := 7) rfl (by kernel_rfl) rfl (fun K hK => ?_)
          go_simp
          refine hK.out _ _ (y1.cell (i := 0) (by omega)) (fun hHeld => ?_)
          clear hK K c8 f8
          try simp only [Act.put, List.setIfInBounds_toArray, List.set_cons_zero, List.set_cons_succ]
          have c9 := y2.cell (i := 0) (by omega)
          have f9 := y2.frozen 0
          refine take_one (i := 8) rfl (by kernel_rfl) rfl (fun K hK => ?_)
          go_simp
          rw [← hw9]
          refine hK.out _ _ (g1.cell (i := 0) (by omega)) (fun hHeld => ?_)
          clear hK K c9 f9
          try simp only [Act.put, List.setIfInBounds_toArray, List.set_cons_zero, List.set_cons_succ]
          refine wpAnyH_done (by kernel_rfl) ?_ _
          refine Calm.normal ?_
          clear hw9 y1 y2 g1 t1 t2 t5 hHeld
          gi_wp2
          exact ⟨G2.out.trans HDE.out.1, G3.out.trans HDE.out.2, G4.out⟩
        case p5 =>
          intro K hK
          refine wp_of_run (w' := wS) (by rw [hwS]; exact exec_bslice1' 22 1 0 (.tmp 28) _ rfl rfl (build_one (arrV q) wR)) ?_
          refine hK.out _ _ (s1.cell (i := 0) (by omega)) (fun hHeld => ?_)
          clear hK K
          try simp only [Act.put, List.setIfInBounds_toArray, List.set_cons_zero, List.set_cons_succ]
          refine take_run (i := 0) (v := .slice pa pn pc) (w' := wS) rfl (by kernel_rfl) rfl ?p7 hHeld ?_
          case p7 => (clear hwS; have hcz := s5.cell (i := 0) (by omega); go_simp; first | done | with_reducible rfl)
          try simp only [Act.put, List.setIfInBounds_toArray, List.set_cons_zero, List.set_cons_succ]
          refine take_one (i := 5) rfl (by kernel_rfl) rfl (fun K hK => ?_)
          refine wp_append_run (.tmp 25) (.tmp 29) _ rfl rfl rfl hr ?_
          refine hK.out _ _ (t1.cell (i := 0) (by omega)) (fun hHeld => ?_)
          clear hK K hr
          try simp only [Act.put, List.setIfInBounds_toArray, List.set_cons_zero, List.set_cons_succ]
          have c8 := t5.cell (i := 0) (by omega)
          have f8 := t5.frozen 0
          have y1 : (w8.setCell ⟨w.heap.size + 2, 0, none⟩ (.slice aa am ac)).rowIs w.heap.size 24 1 (fun _ => .pointer ka) := World.rowIs.of_block t1 (blk_setCell_other _ _ _ _ (fun e => by have : w.heap.size = w.heap.size + 2 := e; omega))
          have y2 : (w8.setCell ⟨w.heap.size + 2, 0, none⟩ (.slice aa am ac)).rowIs (w.heap.size + 1) 22 1 (fun _ => .slice la K.length lc) := World.rowIs.of_block t2 (blk_setCell_other _ _ _ _ (fun e => by have : w.heap.size + 1 = w.heap.size + 2 := e; omega))
          obtain ⟨w9, hw9⟩ : ∃ w9, w9 = (w8.setCell ⟨w.heap.size + 2, 0, none⟩ (.slice aa am ac)).setCell ⟨w.heap.size + 1, 0, none⟩ (.slice xa xn ya) := ⟨_, rfl⟩
          obtain ⟨g1, g2, g3, g4⟩ := h9 w9 hw9
          have G2 : Hid _ := g2
          have G3 : Hid _ := g3
          have G4 : Hid _ := g4
          clear g2 g3 g4 h9
          refine take_one (i := 7) rfl (by kernel_rfl) rfl (fun K hK => ?_)
          go_simp
          refine hK.out _ _ (y1.cell (i := 0) (by omega)) (fun hHeld => ?_)
          clear hK K c8 f8
          try simp only [Act.put, List.setIfInBounds_toArray, List.set_cons_zero, List.set_cons_succ]
          have c9 := y2.cell (i := 0) (by omega)
          have f9 := y2.frozen 0
          refine take_one (i := 8) rfl (by kernel_rfl) rfl (fun K hK => ?_)
          go_simp
          rw [← hw9]
          refine hK.out _ _ (g1.cell (i := 0) (by omega)) (fun hHeld => ?_)
          clear hK K c9 f9
          try simp only [Act.put, List.setIfInBounds_toArray, List.set_cons_zero, List.set_cons_succ]
          refine wpAnyH_done (by kernel_rfl) ?_ _
          refine Calm.normal ?_
          clear hw9 y1 y2 g1 t1 t2 t5 hHeld
          gi_wp2
          exact ⟨G2.out.trans HDE.out.1, G3.out.trans HDE.out.2, G4.out⟩
    | false =>
      have X7 := HSTEP.out (.slice xa xn ya) (.slice xb (K.length - xn) yb) (by unfold otherL; rw [if_neg (by simp), ← HK.out]; exact HSA.out) HOA.out (by unfold keptL; rw [if_neg (by simp), ← HK.out]; exact HSB.out) HOB.out
      generalize rootS (otherL (xn, false) (keptF ((wayL L.length p).take k) L)) = q at X7
      rw [← HP.out] at X7
      clear HSTEP HSA HSB HOA HOB HK HP ra rb
      gi_wp2_with fail
      refine wpIn_region_round (S := fun w' => w'.cell? ⟨w.heap.size, 0, none⟩ = some (.pointer ka)) (by kernel_rfl) (by kernel_rfl) C1.out (fun hHeld => ?_)
      rw [← HWD.out] at hHeld ⊢
      refine take_op (i := 1) (v := ?vqm1) rfl (by kernel_rfl) (by kernel_rfl) (by kernel_rfl) (fun _ _ _ h => h) rfl hHeld ?yqm1 ?rqm1
      case yqm1 => (intro wz hz; go_simp; first | done | with_reducible rfl)
      try simp only [Act.put, List.setIfInBounds_toArray, List.set_cons_zero, List.set_cons_succ]
      refine take_op (i := 2) (v := ?vqm2) rfl (by kernel_rfl) (by kernel_rfl) (by kernel_rfl) (fun _ _ _ h => h) rfl hHeld ?yqm2 ?rqm2
      case yqm2 => (intro wz hz; go_simp; first | done | with_reducible rfl)
      try simp only [Act.put, List.setIfInBounds_toArray, List.set_cons_zero, List.set_cons_succ]
      refine take_op (i := 6) (v := ?vqm6) rfl (by kernel_rfl) (by kernel_rfl) (by kernel_rfl) (fun _ _ _ h => h) rfl hHeld ?yqm6 ?rqm6
      case yqm6 => (intro wz hz; go_simp; first | done | with_reducible rfl)
      try simp only [Act.put, List.setIfInBounds_toArray, List.set_cons_zero, List.set_cons_succ]
      refine take_pair (i := 0) (j := 3) rfl rfl (by kernel_rfl) rfl rfl ?q1 ?q2
      case q1 =>
        intro K hK
        refine wp_of_run (v := .slice pa pn pc) (w' := wd) ?q3 ?_
        case q3 => (have hcz := C5.out; go_simp; first | done | with_reducible rfl)
        refine hK.out _ _ hHeld (fun hHeld => ?_)
        clear hK K
        try simp only [Act.put, List.setIfInBounds_toArray, List.set_cons_zero, List.set_cons_succ]
        refine take_one (i := 3) rfl (by kernel_rfl) rfl (fun K hK => ?_)
        go_simp
        refine Calls.mono X7 ?_
        rintro e wR ⟨rfl, r5, r1, hS⟩
        obtain ⟨wS, hwS⟩ : ∃ wS, wS = wR.alloc (.cells (rowV 32 (arrV q)) 28) := ⟨_, rfl⟩
        obtain ⟨s5, s1, aa, am, ac, w8, hr, t5, t2, t1, h9⟩ := hS wS hwS
        clear X7 hS
        refine hK.out _ _ (r1.cell (i := 0) (by omega)) (fun hHeld => ?_)
        clear hK K
        try simp only [Act.put, List.setIfInBounds_toArray, List.set_cons_zero, List.set_cons_succ]
        refine take_one (i := 4) rfl (by kernel_rfl) rfl (fun K hK => ?_)
        refine wp_of_run (w' := wS) (by rw [hwS]; exact exec_bslice1' 22 1 0 (.tmp 35) _ rfl rfl (build_one (arrV q) wR)) ?_
        refine hK.out _ _ (s1.cell (i := 0) (by omega)) (fun hHeld => ?_)
        clear hK K
        try simp only [Act.put, List.setIfInBounds_toArray, List.set_cons_zero, List.set_cons_succ]
        refine take_one (i := 5) rfl (by kernel_rfl) rfl (fun K hK => ?_)
        refine wp_append_run (.tmp 32) (.tmp 36) _ rfl rfl rfl hr ?_
        refine hK.out _ _ (t1.cell (i := 0) (by omega)) (fun hHeld => ?_)
        clear hK K hr
        try simp only [Act.put, List.setIfInBounds_toArray, List.set_cons_zero, List.set_cons_succ]
        have c8 := t5.cell (i := 0) (by omega)
        have f8 := t5.frozen 0
        have y1 : (w8.setCell ⟨w.heap.size + 2, 0, none⟩ (.slice aa am ac)).rowIs w.heap.size 24 1 (fun _ => .pointer ka) := World.rowIs.of_block t1 (blk_setCell_other _ _ _ _ (fun e => by have : w.heap.size = w.heap.size + 2 := e; omega))
        have y2 : (w8.setCell ⟨w.heap.size + 2, 0, none⟩ (.slice aa am ac)).rowIs (w.heap.size + 1) 22 1 (fun _ => .slice la K.length lc) := World.rowIs.of_block t2 (blk_setCell_other _ _ _ _ (fun e => by have : w.heap.size + 1 = w.heap.size + 2 := e; omega))
        obtain ⟨w9, hw9⟩ : ∃ w9, w9 = (w8.setCell ⟨w.heap.size + 2, 0, none⟩ (.slice aa am ac)).setCell ⟨w.heap.size + 1, 0, none⟩ (.slice xb (K.length - xn) yb) := ⟨_, rfl⟩
        obtain ⟨g1, g2, g3, g4⟩ := h9 w9 hw9
        have G2 : Hid _ := g2
        have G3 : Hid _ := g3
        have G4 : Hid _ := g4
        clear g2 g3 g4 h9
        refine take_one (i := 7) rfl (by kernel_rfl) rfl (fun K hK => ?_)
        go_simp
        refine hK.out _ _ (y1.cell (i := 0) (by omega)) (fun hHeld => ?_)
        clear hK K c8 f8
        try simp only [Act.put, List.setIfInBounds_toArray, List.set_cons_zero, List.set_cons_succ]
        have c9 := y2.cell (i := 0) (by omega)
        have f9 := y2.frozen 0
        refine take_one (i := 8) rfl (by kernel_rfl) rfl (fun K hK => ?_)
        go_simp
        rw [← hw9]
        refine hK.out _ _ (g1.cell (i := 0) (by omega)) (fun hHeld => ?_)
        clear hK K c9 f9
        try simp only [Act.put, List.setIfInBounds_toArray, List.set_cons_zero, List.set_cons_succ]
        refine wpAnyH_done (by kernel_rfl) ?_ _
        refine Calm.normal ?_
        clear hw9 y1 y2 g1 t1 t2 t5 hHeld
        gi_wp2
        exact ⟨G2.out.trans HDE.out.1, G3.out.trans HDE.out.2, G4.out⟩
      case q2 =>
        intro K hK
        go_simp
        refine Calls.mono X7 ?_
        rintro e wR ⟨rfl, r5, r1, hS⟩
        obtain ⟨wS, hwS⟩ : ∃ wS, wS = wR.alloc (.cells (rowV 32 (arrV q)) 28) := ⟨_, rfl⟩
        obtain ⟨s5, s1, aa, am, ac, w8, hr, t5, t2, t1, h9⟩ := hS wS hwS
        clear X7 hS
        refine hK.out _ _ (r1.cell (i := 0) (by omega)) (fun hHeld => ?_)
        clear hK K
        try simp only [Act.put, List.setIfInBounds_toArray, List.set_cons_zero, List.set_cons_succ]
        refine take_pair (i := 0) (j := 4) rfl rfl (by kernel_rfl) rfl rfl ?q4 ?q5
        case q4 =>
          intro K hK
          refine wp_of_run (v := .slice pa pn pc) (w' := wR) ?q6 ?_
          case q6 => (have hcz := r5.cell (i := 0) (by omega); go_simp; first | done | with_reducible rfl)
          refine hK.out _ _ hHeld (fun hHeld => ?_)
          clear hK K
          try simp only [Act.put, List.setIfInBounds_toArray, List.set_cons_zero, List.set_cons_succ]
          refine take_one (i := 4) rfl (by kernel_rfl) rfl (fun K hK => ?_)
          refine wp_of_run (w' := wS) (by rw [hwS]; exact exec_bslice1' 22 1 0 (.tmp 35) _ rfl rfl (build_one (arrV q) wR)) ?_
          refine hK.out _ _ (s1.cell (i := 0) (by omega)) (fun hHeld => ?_)
          clear hK K
          try simp only [Act.put, List.setIfInBounds_toArray, List.set_cons_zero, List.set_cons_succ]
          refine take_one (i := 5) rfl (by kernel_rfl) rfl (fun K hK => ?_)
          refine wp_append_run (.tmp 32) (.tmp 36) _ rfl rfl rfl hr ?_
          refine hK.out _ _ (t1.cell (i := 0) (by omega)) (fun hHeld => ?_)
          clear hK K hr
          try simp only [Act.put, List.setIfInBounds_toArray, List.set_cons_zero, List.set_cons_succ]
          have c8 := t5.cell (i := 0) (by omega)
          have f8 := t5.frozen 0
          have y1 : (w8.setCell ⟨w.heap.size + 2, 0, none⟩ (.slice aa am ac)).rowIs w.heap.size 24 1 (fun _ => .pointer ka) := World.rowIs.of_block t1 (blk_setCell_other _ _ _ _ (fun e => by have : w.heap.size = w.heap.size + 2 := e; omega))
          have y2 : (w8.setCell ⟨w.heap.size + 2, 0, none⟩ (.slice aa am ac)).rowIs (w.heap.size + 1) 22 1 (fun _ => .slice la K.length lc) := World.rowIs.of_block t2 (blk_setCell_other _ _ _ _ (fun e => by have : w.heap.size + 1 = w.heap.size + 2 := e; omega))
          obtain ⟨w9, hw9⟩ : ∃ w9, w9 = (w8.setCell ⟨w.heap.size + 2, 0, none⟩ (.slice aa am ac)).setCell ⟨w.heap.size + 1, 0, none⟩ (.slice xb (K.length - xn) yb) := ⟨_, rfl⟩
          obtain ⟨g1, g2, g3, g4⟩ := h9 w9 hw9
          have G2 : Hid _ := g2
          have G3 : Hid _ := g3
          have G4 : Hid _ := g4
          clear g2 g3 g4 h9
          refine take_one (i := 7) rfl (by kernel_rfl) rfl (fun K hK => ?_)
          go_simp
          refine hK.out _ _ (y1.cell (i := 0) (by omega)) (fun hHeld => ?_)
          clear hK K c8 f8
          try simp only [Act.put, List.setIfInBounds_toArray, List.set_cons_zero, List.set_cons_succ]
          have c9 := y2.cell (i := 0) (by omega)
          have f9 := y2.frozen 0
          refine take_one (i := 8) rfl (by kernel_rfl) rfl (fun K hK => ?_)
          go_simp
          rw [← hw9]
          refine hK.out _ _ (g1.cell (i := 0) (by omega)) (fun hHeld => ?_)
          clear hK K c9 f9
          try simp only [Act.put, List.setIfInBounds_toArray, List.set_cons_zero, List.set_cons_succ]
          refine wpAnyH_done (by kernel_rfl) ?_ _
          refine Calm.normal ?_
          clear hw9 y1 y2 g1 t1 t2 t5 hHeld
          gi_wp2
          exact ⟨G2.out.trans HDE.out.1, G3.out.trans HDE.out.2, G4.out⟩
        case q5 =>
          intro K hK
          refine wp_of_run (w' := wS) (by rw [hwS]; exact exec_bslice1' 22 1 0 (.tmp 35) _ rfl rfl (build_one (arrV q) wR)) ?_
          refine hK.out _ _ (s1.cell (i := 0) (by omega)) (fun hHeld => ?_)
          clear hK K
          try simp only [Act.put, List.setIfInBounds_toArray, List.set_cons_zero, List.set_cons_succ]
          refine take_run (i := 0) (v := .slice pa pn pc) (w' := wS) rfl (by kernel_rfl) rfl ?q7 hHeld ?_
          case q7 => (clear hwS; have hcz := s5.cell (i := 0) (by omega); go_simp; first | done | with_reducible rfl)
          try simp only [Act.put, List.setIfInBounds_toArray, List.set_cons_zero, List.set_cons_succ]
          refine take_one (i := 5) rfl (by kernel_rfl) rfl (fun K hK => ?_)
          refine wp_append_run (.tmp 32) (.tmp 36) _ rfl rfl rfl hr ?_
          refine hK.out _ _ (t1.cell (i := 0) (by omega)) (fun hHeld => ?_)
          clear hK K hr
          try simp only [Act.put, List.setIfInBounds_toArray, List.set_cons_zero, List.set_cons_succ]
          have c8 := t5.cell (i := 0) (by omega)
          have f8 := t5.frozen 0
          have y1 : (w8.setCell ⟨w.heap.size + 2, 0, none⟩ (.slice aa am ac)).rowIs w.heap.size 24 1 (fun _ => .pointer ka) := World.rowIs.of_block t1 (blk_setCell_other _ _ _ _ (fun e => by have : w.heap.size = w.heap.size + 2 := e; omega))
          have y2 : (w8.setCell ⟨w.heap.size + 2, 0, none⟩ (.slice aa am ac)).rowIs (w.heap.size + 1) 22 1 (fun _ => .slice la K.length lc) := World.rowIs.of_block t2 (blk_setCell_other _ _ _ _ (fun e => by have : w.heap.size + 1 = w.heap.size + 2 := e; omega))
          obtain ⟨w9, hw9⟩ : ∃ w9, w9 = (w8.setCell ⟨w.heap.size + 2, 0, none⟩ (.slice aa am ac)).setCell ⟨w.heap.size + 1, 0, none⟩ (.slice xb (K.length - xn) yb) := ⟨_, rfl⟩
          obtain ⟨g1, g2, g3, g4⟩ := h9 w9 hw9
          have G2 : Hid _ := g2
          have G3 : Hid _ := g3
          have G4 : Hid _ := g4
          clear g2 g3 g4 h9
          refine take_one (i := 7) rfl (by kernel_rfl) rfl (fun K hK => ?_)
          go_simp
          refine hK.out _ _ (y1.cell (i := 0) (by omega)) (fun hHeld => ?_)
          clear hK K c8 f8
          try simp only [Act.put, List.setIfInBounds_toArray, List.set_cons_zero, List.set_cons_succ]
          have c9 := y2.cell (i := 0) (by omega)
          have f9 := y2.frozen 0
          refine take_one (i := 8) rfl (by kernel_rfl) rfl (fun K hK => ?_)
          go_simp
          rw [← hw9]
          refine hK.out _ _ (g1.cell (i := 0) (by omega)) (fun hHeld => ?_)
          clear hK K c9 f9
          try simp only [Act.put, List.setIfInBounds_toArray, List.set_cons_zero, List.set_cons_succ]
          refine wpAnyH_done (by kernel_rfl) ?_ _
          refine Calm.normal ?_
          clear hw9 y1 y2 g1 t1 t2 t5 hHeld
          gi_wp2
          exact ⟨G2.out.trans HDE.out.1, G3.out.trans HDE.out.2, G4.out⟩
  case done =>
    rintro W hP hDd
    obtain ⟨lv, pv, Fi, h1, h2, h3, h4, h5, h6, h7, h8, h9, h10⟩ := hP
    rw [List.take_length] at h6 h7
    have hpv : ∃ pa pn pc, pv = .slice pa pn pc := by
      obtain ⟨pa, pc, e, _⟩ := ownsRow_slice h6.2; exact ⟨pa, _, pc, e⟩
    obtain ⟨pa, pn, pc, rfl⟩ := hpv
    have hlD : (downF way L).length ≤ 1000 := by
      rw [downF_len, HWAY.out]
      have := wayI_len (L.length : Int) at_ (by omega)
      omega
    have XR := revSums_any (W0.heap.size + 2) _ _ W h6 hlD
    have c5 := h5.cell (i := 0) (by omega)
    have POST : Hid (∀ w4, newSums w4 (W0.heap.size + 2) (.slice pa pn pc) (downF way L).reverse → w4.heap.size = W.heap.size → (∀ j, (Value.slice pa pn pc).ownBlock ≠ some j → j < W.heap.size → w4.heap[j]? = W.heap[j]?) → Below (W0.heap.size + 2) W w4 →
        w4.cell? ⟨w.heap.size + 2, 0, none⟩ = some (.slice pa pn pc) ∧ w4.heap[W0.heap.size]? = some (.deferred (some [])) ∧ ∃ v Fi, Ending.returned (.slice pa pn pc) = .returned v ∧ newSums (w4.putObj W0.heap.size (.deferred none)) w.heap.size v (pathI L at_) ∧ bkAt (.pointer ka) (w4.putObj W0.heap.size (.deferred none)) Fi (downN N way L) (c + downC way L) ∧ (∀ j, Fi j → F j ∨ w.heap.size ≤ j) ∧ (∀ j, v.ownBlock = some j → ¬ Fi j) ∧ Fr F w (w4.putObj W0.heap.size (.deferred none))) := (show _ from by
      intro w4 n4 z4 k4 b4
      have hs0 := S0.out
      have hz := h10.size
      have hnF : ∀ j, Fi j → j ≠ W0.heap.size := fun j hj e => by
        rcases h8 j hj with h | h
        · have := HFL.out j h; omega
        · omega
      have hpz : (w4.putObj W0.heap.size (.deferred none)).heap.size = w4.heap.size := by simp [World.putObj]
      refine ⟨(World.rowIs.of_block h5 (b4.block _ (by omega))).cell (i := 0) (by omega), (b4.block _ (by omega)).trans hDd, _, Fi, rfl, ?_, ?_, ?_, h9, ?_⟩
      · unfold pathI
        rw [← HWAY.out]
        exact (n4.lower (by omega)).far (fun j hj => putObj_block w4 _ _ (by have := n4.block j hj; omega))
      · exact h7.far (fun j hj hl => (putObj_block w4 _ _ (hnF j hj)).trans (k4 j (fun e => h9 j e hj) hl)) (by omega)
      · intro j hj
        rcases h8 j hj with h | h
        · exact Or.inl h
        · exact Or.inr (by omega)
      · have b0 := B0.out
        refine ⟨b4.os.trans (h10.os.trans b0.os), b4.tape.trans (h10.tape.trans b0.tape), b4.output.trans (h10.output.trans b0.output), by omega, fun j hj hn => ?_⟩
        exact (putObj_block w4 _ _ (by omega)).trans ((b4.block j (by omega)).trans ((h10.block j (by omega) (fun h => by rcases h with h | h | h; exact hn h; omega; omega)).trans (b0.block j hj))))
    have HW2 : Hid _ := HWAY.out
    clear h1 h2 h3 h4 h5 h6 h7 h8 h9 h10 hDd hlD
    go_wp2_with fail
    refine XR.mono ?_
    rintro e w4 ⟨rfl, n4, z4, k4, b4⟩
    clear XR c5
    obtain ⟨c4, d4, fin⟩ := POST.out w4 n4 z4 k4 b4
    have D4 : Hid _ := d4
    have FIN : Hid _ := fin
    clear POST n4 z4 k4 b4 d4 fin
    go_wp2
    refine bodyPostM_mark rfl D4.out (results_tmp rfl _ _ _) ?_
    rw [← HWAY.out]
    obtain ⟨v, Fi, hv, g1, g2, g3, g4, g5⟩ := FIN.out
    exact ⟨v, Fi, hv, g1, g2, g3, g4, g5⟩
end Go.Proofs.YtppfeilndcdoeaaDoor

/- tree.Lead: where a path leads. -/
namespace Go.Proofs.YtppfeilndcdoeaaDoor
set_option linter.unusedSimpArgs false
set_option linter.unusedVariables false
open Go.RowKit Go.Deep Go.Shelf
attribute [local go_sem] Oper.semAt_some

/-- behind k steps up. -/
def leadAt (wL : World) (F : Nat → Prop) (kv : Value) (N : List Nt) (c : Int) (leaf : List Int) (U : List (Bool × List Int)) (sb k : Nat) (wr : World) : Prop :=
  ∃ Fi, bkAt kv wr Fi (leadFN N (U.take k) leaf) (c + k) ∧ (∀ j, Fi j → F j ∨ wL.heap.size ≤ j) ∧ Fr (fun j => F j ∨ j = sb) wL wr ∧ wr.rowIs sb 28 32 (arrV (leadF (U.take k) leaf))
theorem ups_get {w : List (Nat × Bool)} {path : List (List Int)} {k : Nat} (h1 : k < w.length) (h2 : k < path.length) : (ups w path)[k]? = some ((w.reverse[k]'(by rw [List.length_reverse]; exact h1)).2, path[k]) := by
  unfold ups
  rw [List.getElem?_eq_getElem (by rw [List.length_zip, List.length_reverse, List.length_map]; omega), List.getElem_zip]
  simp
theorem leadAt_step {wL : World} {F : Nat → Prop} {kv : Value} {N : List Nt} {c : Int} {leaf : List Int} {U : List (Bool × List Int)} {sb k : Nat} {wr wa wn : World} {Fi : Nat → Prop} (hk : k < U.length)
    (h2 : ∀ j, Fi j → F j ∨ wL.heap.size ≤ j) (h3 : Fr (fun j => F j ∨ j = sb) wL wr) (h4 : wr.rowIs sb 28 32 (arrV (leadF (U.take k) leaf))) (hsb : sb < wL.heap.size) (hF : ¬ F sb)
    (ba : Below wr.heap.size wr wa) (hb : bkAt kv wn (Gr Fi wa wn) (addN (leadFN N (U.take k) leaf) (ntOf (upL (leadF (U.take k) leaf) U[k]))) (c + k + 1)) (hf : Fr Fi wa wn) :
    leadAt wL F kv N c leaf U sb (k + 1) (wn.setCells sb 0 (rowV 32 (arrV (nodeS (upL (leadF (U.take k) leaf) U[k])))).toList) ∧ (wn.setCells sb 0 (rowV 32 (arrV (nodeS (upL (leadF (U.take k) leaf) U[k])))).toList).heap.size = wn.heap.size := by
  have s1 := ba.size
  have s2 := hf.size
  have s3 := h3.size
  have hFi : ¬ Fi sb := fun h => by
    rcases h2 _ h with h | h
    · exact hF h
    · omega
  have ra : wa.rowIs sb 28 32 (arrV (leadF (U.take k) leaf)) := ba.row h4 h4.lt
  have rn : wn.rowIs sb 28 32 (arrV (leadF (U.take k) leaf)) := World.rowIs.of_block ra (hf.block sb (by omega) hFi)
  have hst := stow32T_row wn sb (nodeS (upL (leadF (U.take k) leaf) U[k])) rn
  refine ⟨⟨Gr Fi wa wn, ?_, ?_, ?_, ?_⟩, hst.2.1⟩
  · rw [take_snoc U k hk, leadFN_snoc, show c + ((k + 1 : Nat) : Int) = c + k + 1 by omega]
    refine hb.far (fun j hj hl => hst.2.2.block j hl (fun e => ?_)) (by omega)
    subst e
    rcases hj with hj | hj
    · exact hFi hj
    · omega
  · intro j hj
    rcases hj with hj | hj
    · exact h2 j hj
    · exact Or.inr (by omega)
  · refine ((h3.trans (Fr.of_below (fun _ => False) ba) (fun _ _ h => h.elim)).trans (G := Fi) ⟨hf.os, hf.tape, hf.output, by omega, fun j hj hn => hf.block j (by omega) hn⟩ (fun j hj hfi => ?_)).trans (G := fun j => j = sb) ⟨hst.2.2.os, hst.2.2.tape, hst.2.2.output, hst.2.2.size, fun j hj hn => hst.2.2.block j hj hn⟩ (fun j hj e => Or.inr e)
    rcases h2 j hfi with h | h
    · exact Or.inl h
    · omega
  · rw [take_snoc U k hk, leadF_snoc]; exact hst.1
set_option maxHeartbeats 1000000 in
set_option maxRecDepth 100000 in
theorem lead_yes (F : Nat → Prop) (kv : Value) (N : List Nt) (c : Int) (n at_ : Int) (hn : -9223372036854775808 ≤ n ∧ n ≤ 9223372036854775807) (ha : -9223372036854775808 ≤ at_ ∧ at_ ≤ 9223372036854775807) (leaf : List Int) (path : List (List Int)) (pv : Value) (w : World)
    (hl : isSum leaf) (hk : bkAt kv w F N c) (hp : sumsAt w pv path) (hpF : 0 < path.length → ∀ j, pv.ownBlock = some j → ¬ F j) (ht : tabIs w) (hF0 : ¬ F 0) (hN : N.length + path.length < 100000) (hc : 0 ≤ c ∧ c < 100000000) (hlen : path.length ≤ 1000) (hok : okLead n at_ path = true) :
    Calls Tryd.prog 16 #[kv, .int .i64 n, .int .i64 at_, sumV leaf, pv] w fun e w' => e = .returned (.tuple #[sumV (leadF (ups (wayI n at_) path) leaf), .int .i64 0]) ∧ bkAt kv w' (Gr F w w') (leadFN N (ups (wayI n at_) path) leaf) (c + path.length) ∧ Fr F w w' := by
  have hz32 := zero_s32
  have hth : thereB n at_ = true := by simp [okLead] at hok; exact hok.1
  have hpl : path.length = (wayI n at_).length := by simp [okLead] at hok; exact hok.2
  have hwl := wayI_len n at_ hn.2
  obtain ⟨w1, hw1⟩ : ∃ w1, w1 = (w.alloc (.cells (rowV 32 (arrV leaf)) 28)).alloc (.cells (rowV 32 (fun _ => .int .u8 0)) 28) := ⟨_, rfl⟩
  have s1 : w1.heap.size = w.heap.size + 2 := by rw [hw1]; simp
  have b1 : Below w.heap.size w w1 := by rw [hw1]; exact ((Below.refl _ _).alloc (Nat.le_refl _) _).alloc (by simp) _
  have r1 : w1.rowIs (w.heap.size + 1) 28 32 (fun _ => .int .u8 0) := by
    rw [hw1]
    have := rowIs_box (w.alloc (.cells (rowV 32 (arrV leaf)) 28)) 28 32 (fun _ => .int .u8 0)
    rwa [World.size_alloc] at this
  have l1 : w1.rowIs w.heap.size 28 32 (arrV leaf) := by
    rw [hw1]
    exact ((Below.refl (w.alloc (.cells (rowV 32 (arrV leaf)) 28)).heap.size _).alloc (Nat.le_refl _) _).row (rowIs_box w 28 32 (arrV leaf)) (by simp)
  have X1 := within_any n at_ w1
  have X2 := depth_any n at_ hn ha w1
  rw [hth] at X1
  have HP : Hid _ := hp
  obtain ⟨_, pa, pc, rfl, hpc, _, hpg⟩ := hp
  have q0 : (path.length : Int) ≤ 1000 := by omega
  rw [← hpl] at X2
  refine callsIn_wide (n := 3) |>.1 ?_
  refine callsIn_of_wp_marks Tryd.func16 rfl trivial ?_ rfl
  refine wpIn_wide.2 ?_
  simp only [Tryd.ntmps16, List.size_toArray, List.length_cons, List.length_nil, Nat.reduceAdd, Nat.reduceSub, Array.replicate_succ, Array.replicate_zero, List.push_toArray, List.append_toArray, List.nil_append, List.cons_append]
  unfold sumV
  go_upto_region 1 with fail
  rw [← hw1]
  have S1 : Hid _ := s1
  have B1 : Hid _ := b1
  have HPL : Hid _ := hpl
  have HPG : Hid _ := hpg
  have HK : Hid _ := hk
  have HPF : Hid _ := hpF
  have HT : Hid _ := ht
  have HF0 : Hid _ := hF0
  have HN : Hid _ := hN
  have HC : Hid _ := hc
  have HL : Hid _ := hl
  have HWL : Hid _ := hwl
  clear hw1 s1 b1 hpl hok hpg hz32 hk hpF ht hF0 hN hc hl hwl
  go_wp2_with fail
  refine X1.mono ?_
  rintro e w' ⟨rfl, hw⟩
  obtain rfl := hw.symm
  clear X1 hw
  go_wp2_with fail
  refine X2.mono ?_
  rintro e w2 ⟨rfl, b2⟩
  clear X2
  have s2 := b2.size
  have B2 : Hid _ := b2
  have r2 : w2.rowIs (w.heap.size + 1) 28 32 (fun _ => .int .u8 0) := b2.row r1 (by have := S1.out; omega)
  have l2 : w2.rowIs w.heap.size 28 32 (arrV leaf) := b2.row l1 (by have := S1.out; omega)
  have R2 : Hid _ := r2
  have L2 : Hid _ := l2
  have S2 : Hid _ := s2
  have hmk := run_make_room (P := Tryd.prog) 60 4 (.bool false) 1 Tryd.underlying60 infoB rfl .i64 .i64 path.length (by omega) (by omega) w2
  clear b2 r1 l1 r2 l2 s2
  go_upto_region 4 with (at_make; refine wpList_make_run rfl _ _ _ rfl rfl rfl hmk ?_)
  clear hmk
  obtain ⟨w3, hw3⟩ : ∃ w3, w3 = (w2.alloc (.cells (madeCells #[Value.bool false] path.length) 4)).alloc (.cells #[.slice (some ⟨w2.heap.size, 0, none⟩) 0 path.length] 60) := ⟨_, rfl⟩
  have st3 : stepsAt w3 w2.heap.size (w2.heap.size + 1) [] := by
    rw [hw3]
    refine ⟨.slice (some ⟨w2.heap.size, 0, none⟩) 0 path.length, ?_, ?_, fun j hj => ?_⟩
    · have := rowIs_one (w2.alloc (.cells (madeCells #[Value.bool false] path.length) 4)) (.slice (some ⟨w2.heap.size, 0, none⟩) 0 path.length) 60
      rwa [World.size_alloc] at this
    · refine owns.alloc ?_ _
      exact ⟨rfl, Or.inr ⟨w2.heap.size, path.length, _, rfl, Nat.le_refl _, blk_alloc_new _ _, Nat.zero_le _, by unfold maxLen; omega, by rw [size_madeCells]; simp, by simp [boolsV]⟩⟩
    · have : w2.heap.size = j := by simpa [Value.ownBlock] using hj
      omega
  have s3 : w3.heap.size = w2.heap.size + 2 := by rw [hw3]; simp
  have b3 : Below w2.heap.size w2 w3 := by rw [hw3]; exact ((Below.refl _ _).alloc (Nat.le_refl _) _).alloc (by simp) _
  rw [← hw3]
  have ST3 : Hid _ := st3
  have S3 : Hid _ := s3
  have B3 : Hid _ := b3
  have X3 := way_any n at_ w3
  obtain ⟨W0, hW0⟩ : ∃ W0, W0 = wayW n at_ w3 := ⟨_, rfl⟩
  rw [← hW0] at X3
  have b0 : Below w3.heap.size w3 W0 := by rw [hW0]; unfold wayW; exact ((Below.refl _ _).alloc (Nat.le_refl _) _).alloc (by simp) _
  have hca : W0.cell? ⟨w3.heap.size, 0, none⟩ = some (.int .i64 n) := by
    have r1 : (w3.alloc (.cells #[.int .i64 n] 3)).rowIs w3.heap.size 3 1 (fun _ => .int .i64 n) := rowIs_one _ _ _
    have bb : Below (w3.alloc (.cells #[.int .i64 n] 3)).heap.size (w3.alloc (.cells #[.int .i64 n] 3)) W0 := by rw [hW0]; unfold wayW; exact (Below.refl _ _).alloc (Nat.le_refl _) _
    exact (bb.row r1 (by simp)).cell (i := 0) (by omega)
  have hcb : W0.cell? ⟨w3.heap.size + 1, 0, none⟩ = some (.int .i64 at_) := by
    have r1 : W0.rowIs (w3.alloc (.cells #[.int .i64 n] 3)).heap.size 3 1 (fun _ => .int .i64 at_) := by rw [hW0]; unfold wayW; exact rowIs_one _ _ _
    have := r1.cell (i := 0) (by omega)
    rwa [World.size_alloc] at this
  have sz0 : W0.heap.size = w3.heap.size + 2 := by rw [hW0]; unfold wayW; simp
  have HS := way1_hands 2 n at_ hn ha w3.heap.size (w3.heap.size + 1) W0 (by omega) (by omega) hca hcb
  have HST : Hid _ := HS
  have B0 : Hid _ := b0
  have SZ0 : Hid _ := sz0
  clear hw3 st3 s3 b3 hW0 hca hcb HS b0 sz0
  go_wp2_with fail
  refine X3.mono ?_
  rintro e w' ⟨rfl, hw⟩
  obtain rfl := hw.symm
  clear X3 hw
  go_wp2_with fail
  refine (wpIn_wide (n := 3)).1 ?_
  refine wpIn_range_at (gf := 39) (lb := #[.pointer (some ⟨w3.heap.size, 0, none⟩), .pointer (some ⟨w3.heap.size + 1, 0, none⟩)]) (encs := stepV) (ys := wayI n at_) rfl (enters_of Tryd.func39 (by kernel_rfl) rfl) HST.out (fun _ => rfl)
    (fun k W => stepsAt W w2.heap.size (w2.heap.size + 1) ((wayI n at_).take k) ∧ Below w2.heap.size w2 W)
    (fun k W x y h hx => ⟨h.1.put _ hx rfl, h.2.trans ⟨rfl, rfl, rfl, by simp [World.putObj], fun j hj => putObj_block W _ _ (by have := SZ0.out; have := S3.out; omega)⟩⟩)
    (fun k W h => ⟨h.1, h.2.drew⟩) (fun o o' => ?start)
    (fun x => { tmps := #[kv, .int .i64 n, .int .i64 at_, .agg (rowV 32 (arrV leaf)), .slice pa path.length pc, undef, undef, undef, .pointer (some ⟨w.heap.size, 0, none⟩), undef, .pointer (some ⟨w.heap.size + 1, 0, none⟩), .int .i64 0, .pointer (some ⟨w2.heap.size + 1, 0, none⟩), undef, .bool x.2, undef, undef, undef,
      .int .i64 n, .int .i64 at_, .bool true, .bool false, .bool false, .slice pa path.length pc, .int .i64 path.length, .int .i64 n, .int .i64 at_, .int .i64 path.length, .bool false, .bool false, undef, .slice pa path.length pc, .int .i64 path.length, .slice (some ⟨w2.heap.size, 0, none⟩) 0 path.length, .int .i64 n, .int .i64 at_,
      .func (.func 39) #[] #[.pointer (some ⟨w3.heap.size, 0, none⟩), .pointer (some ⟨w3.heap.size + 1, 0, none⟩)], .int .i64 (x.1 : Int), .bool x.2, undef, undef, undef, undef, undef, undef, undef, undef, undef, undef, undef, undef, undef, undef, undef, undef, undef, undef, undef, undef, undef, undef, undef, undef, undef, undef, undef, undef, undef, undef, undef, undef, undef], defers := [] }) ?assign ?body ?done
  case start =>
    have bb : Below W0.heap.size W0 ((W0.alloc o).alloc o') := ((Below.refl _ _).alloc (Nat.le_refl _) _).alloc (by simp) _
    have b00 : Below w3.heap.size w3 ((W0.alloc o).alloc o') := B0.out.trans (bb.mono (by have := SZ0.out; omega))
    refine ⟨stepsAt.far ST3.out (fun j _ hj => b00.block j hj) (b00.block _ (by have := S3.out; omega)), B3.out.trans (b00.mono (by have := S3.out; omega))⟩
  case assign =>
    intro l x W K hK
    simp only [stepV, List.zip_toArray, List.zip_cons_cons, List.zip_nil_left, List.zip_nil_right, List.foldl_toArray, List.foldl_cons, List.foldl_nil, List.setIfInBounds_toArray, List.set_cons_succ, List.set_cons_zero]
    gi_wp2
    exact hK
  case body =>
    rintro l k hk W x ⟨⟨v, hbx, how, hvb⟩, hB⟩ hDd hDl
    have hkl : ((wayI n at_).take k).length = k := by simp; omega
    have hbk : (boolsV ((wayI n at_).take k)).length = k := by simp [boolsV]; omega
    have szW := hB.size
    have hsv : ∃ va vc, v = .slice va k vc := by
      obtain ⟨va, vc, e, _⟩ := ownsRow_slice how
      rw [hbk] at e; exact ⟨va, vc, e⟩
    obtain ⟨va, vc, rfl⟩ := hsv
    have cbx := hbx.cell (i := 0) (by omega)
    have hnd := owns_not_loop how hDd rfl
    have hnl := owns_not_loop how hDl rfl
    have hlD : W0.heap.size + 1 < W.heap.size := (Array.getElem?_eq_some_iff.1 hDl).1
    obtain ⟨a8, c8, w8, hr8, ho8, hb8, hk8, hat8⟩ := bl_append_run W w2.heap.size _ (.bool (wayI n at_)[k].2) _ how rfl (by rw [hbk]; have := HPL.out; omega) szW
    rw [hbk] at hr8 ho8 hat8
    have hlx : w2.heap.size + 1 < W.heap.size := by have := SZ0.out; have := S3.out; omega
    have hbx8 : w8.rowIs (w2.heap.size + 1) 60 1 (fun _ => .slice va k vc) := World.rowIs.of_block hbx (hk8 _ hlx (fun e => hvb _ e rfl))
    have c8' := hbx8.cell (i := 0) (by omega)
    have f8' := hbx8.frozen 0
    have hne0 : W0.heap.size ≠ w2.heap.size + 1 := by have := SZ0.out; have := S3.out; omega
    have hne1 : W0.heap.size + 1 ≠ w2.heap.size + 1 := by have := SZ0.out; have := S3.out; omega
    have FIN : Hid (stepsAt (w8.setCell ⟨w2.heap.size + 1, 0, none⟩ (.slice a8 (k + 1) c8)) w2.heap.size (w2.heap.size + 1) ((wayI n at_).take (k + 1)) ∧ Below w2.heap.size w2 (w8.setCell ⟨w2.heap.size + 1, 0, none⟩ (.slice a8 (k + 1) c8)) ∧
        (w8.setCell ⟨w2.heap.size + 1, 0, none⟩ (.slice a8 (k + 1) c8)).heap[W0.heap.size]? = W.heap[W0.heap.size]? ∧ (w8.setCell ⟨w2.heap.size + 1, 0, none⟩ (.slice a8 (k + 1) c8)).heap[W0.heap.size + 1]? = W.heap[W0.heap.size + 1]?) := (show _ from by
      have e8 : boolsV ((wayI n at_).take k) ++ [.bool (wayI n at_)[k].2] = boolsV ((wayI n at_).take (k + 1)) := by rw [take_snoc _ _ hk]; unfold boolsV; rw [List.map_append]; rfl
      rw [e8] at ho8
      have h8b : ∀ j, (Value.slice a8 (k + 1) c8).ownBlock = some j → j ≠ w2.heap.size + 1 := fun j hj => by
        rcases hat8 with h | h
        · exact hvb j (h ▸ hj)
        · rw [h] at hj
          have : W.heap.size + 1 = j := by simpa using hj
          omega
      have r9 := World.rowIs.set hbx8 0 (.slice a8 (k + 1) c8)
      refine ⟨⟨.slice a8 (k + 1) c8, r9.congr (fun i hi => by rw [if_pos (by omega)]), ho8.far (fun j hj => blk_setCell_other _ _ _ _ (h8b j hj)), h8b⟩, (hB.trans hb8).setCell (p := ⟨w2.heap.size + 1, 0, none⟩) (Nat.le_succ _) _, ?_, ?_⟩
      · exact (blk_setCell_other _ _ _ _ (fun e => hne0 e)).trans (hk8 _ (by omega) (fun e => hnd _ e rfl))
      · exact (blk_setCell_other _ _ _ _ (fun e => hne1 e)).trans (hk8 _ (by omega) (fun e => hnl _ e rfl)))
    clear how hvb hB hDd hDl hbx hbx8 ho8 hb8 hk8 hat8 hkl hbk hnd hnl szW
    generalize (wayI n at_)[k] = y at hr8 ⊢
    gi_wp2_with (gi_at_builtin; refine wpListIn_append_run rfl _ _ _ rfl rfl rfl hr8 ?_)
    exact ⟨FIN.out.2.2.1, FIN.out.2.2.2, FIN.out.1, FIN.out.2.1⟩
  case done =>
    rintro W ⟨⟨v, hbx, how, hvb⟩, hB⟩ hDd
    rw [List.take_length] at how
    have hbl : (boolsV (wayI n at_)).length = path.length := by rw [HPL.out]; simp [boolsV]
    have hsv : ∃ va vc, v = .slice va path.length vc := by
      obtain ⟨va, vc, e, _⟩ := ownsRow_slice how
      rw [hbl] at e; exact ⟨va, vc, e⟩
    obtain ⟨va, vc, rfl⟩ := hsv
    have XR := revBools_any w2.heap.size _ (wayI n at_) W how (by have := HPL.out; omega)
    have cbx := hbx.cell (i := 0) (by omega)
    have hDw : W0.heap.size < W.heap.size := (Array.getElem?_eq_some_iff.1 hDd).1
    have hnd := owns_not_loop how hDd rfl
    have szW := hB.size
    have HDD : Hid _ := hDd
    have HB : Hid _ := hB
    have HBX : Hid _ := hbx
    have HVB : Hid _ := hvb
    have HND : Hid _ := hnd
    have HDW : Hid _ := hDw
    have SZW : Hid _ := szW
    have HBLE : Hid _ := hbl
    clear how hB hDd hbx hvb hnd hDw szW hbl
    go_wp2_with fail
    refine XR.mono ?_
    rintro e w4 ⟨rfl, how4, hs4, hk4, b4⟩
    clear XR cbx
    have hlx : w2.heap.size + 1 < W.heap.size := by have := HDW.out; have := SZ0.out; have := S3.out; omega
    have hbx4 : w4.rowIs (w2.heap.size + 1) 60 1 (fun _ => .slice va path.length vc) := World.rowIs.of_block HBX.out (hk4 _ (fun e => HVB.out _ e rfl) hlx)
    have hDd4 : w4.heap[W0.heap.size]? = some (.deferred (some [])) := (hk4 _ (fun e => HND.out _ e rfl) HDW.out).trans HDD.out
    have b24 : Below w2.heap.size w2 w4 := Below.trans HB.out b4
    have l4 : w4.rowIs w.heap.size 28 32 (arrV leaf) := b24.row L2.out (by have := S2.out; have := S1.out; omega)
    have rb4 : w4.rowIs (w.heap.size + 1) 28 32 (fun _ => .int .u8 0) := b24.row R2.out (by have := S2.out; have := S1.out; omega)
    have ld4 : ∀ j, j < 32 → w4.cell? ⟨w.heap.size, 0 + j, none⟩ = some (arrV leaf j) := fun j hj => by rw [Nat.zero_add]; exact l4.cell hj
    have rn4 := rowIs_box w4 28 32 (fun _ => .int .u8 0)
    have bn4 : Below w4.heap.size w4 (w4.alloc (.cells (rowV 32 (fun _ => .int .u8 0)) 28)) := (Below.refl _ _).alloc (Nat.le_refl _) _
    have LD4 : Hid _ := ld4
    have RN4 : Hid _ := rn4
    have BN4 : Hid _ := bn4
    have HBX4 : Hid _ := hbx4
    have HDD4 : Hid _ := hDd4
    have B24 : Hid _ := b24
    have RB4 : Hid _ := rb4
    have HS4 : Hid _ := hs4
    have HOW4 : Hid _ := how4
    clear how4 hs4 hk4 b4 hlx hbx4 hDd4 b24 l4 rb4 ld4 rn4 bn4
    have hz32 := zero_s32
    go_upto_region 9 with (first | (refine wpList_load_seg rfl 28 _ rfl w.heap.size 0 32 (arrV leaf) rfl _ Tryd.underlying28 rfl hi32' LD4.out ?_) | (refine wpList_store_row rfl 28 _ _ rfl rfl w4.heap.size 0 32 (arrV leaf) rfl rfl hi32' (fun _ _ => rfl) _ _ _ RN4.out (by omega) ?_; intro w6 r6 hz6 hb6))
    clear hz32
    have s6 : w6.heap.size = w4.heap.size + 1 := by rw [hz6]; simp
    have b46 : Below w4.heap.size w4 w6 := BN4.out.trans ((hb6.mono (by simp)).below (Nat.le_refl _))
    have hw24 : w.heap.size + 2 ≤ w2.heap.size := by have := S1.out; have := S2.out; omega
    have hw2W : W0.heap.size = w2.heap.size + 4 := by have := SZ0.out; have := S3.out; omega
    have hD4 : W0.heap.size < w4.heap.size := by have := HS4.out; have := HDW.out; omega
    have b06 : Below w.heap.size w w6 := (B1.out.trans ((B2.out.mono (by have := S1.out; omega)).trans ((B24.out.mono (by omega)).trans (b46.mono (by omega)))))
    have hFlt : ∀ j, F j → j < w.heap.size := bkAt.lt HK.out
    have cbx6 : w6.cell? ⟨w2.heap.size + 1, 0, none⟩ = some (.slice va path.length vc) := (b46.row HBX4.out (by omega)).cell (i := 0) (by omega)
    have L0 : leadAt w6 F kv N c leaf (ups (wayI n at_) path) w4.heap.size 0 w6 := ⟨F, by
      rw [List.take_zero, leadFN_nil, show c + ((0 : Nat) : Int) = c by omega]
      exact bkAt.below HK.out b06 (Nat.le_refl _), fun j hj => Or.inl hj, Fr.refl _ _, r6.congr fun i hi => by rw [if_pos (by omega), Nat.sub_zero]; rfl⟩
    have hUl : (ups (wayI n at_) path).length = path.length := by rw [ups_len HPL.out]; exact HPL.out.symm
    -- what lies in a round's world
    have FACT : Hid (∀ (wr : World) (k : Nat), leadAt w6 F kv N c leaf (ups (wayI n at_) path) w4.heap.size k wr → w6.heap.size ≤ wr.heap.size ∧ wr.rowIs (w.heap.size + 1) 28 32 (fun _ => .int .u8 0) ∧ wr.heap[W0.heap.size]? = some (.deferred (some [])) ∧ tabIs wr ∧
        ∀ (hk : k < path.length), ∃ g o gs y, pa = some ⟨g, o, none⟩ ∧ va = some ⟨gs, 0, none⟩ ∧ (∀ j, j < 32 → wr.cell? ⟨g, o + k * 32 + j, none⟩ = some (arrV path[k] j)) ∧ wr.cell? ⟨gs, k, none⟩ = some (.bool y.1) ∧ (ups (wayI n at_) path)[k]? = some y ∧ y.2 = path[k]) := (show _ from by
      intro wr k ⟨Fi, h1, h2, h3, h4⟩
      have hsz := h3.size
      have keep : ∀ j, j < w6.heap.size → ¬ F j → j ≠ w4.heap.size → wr.heap[j]? = w6.heap[j]? := fun j hj hf hn => h3.block j hj (fun h => by rcases h with h | h; exact hf h; exact hn h)
      have nF : ∀ j, w.heap.size ≤ j → ¬ F j := fun j hj hf => by have := hFlt j hf; omega
      refine ⟨hsz, ?_, ?_, ?_, fun hk => ?_⟩
      · exact World.rowIs.of_block (b46.row RB4.out (by omega)) (keep _ (by omega) (nF _ (by omega)) (by omega))
      · exact (keep _ (by omega) (nF _ (by omega)) (by omega)).trans ((b46.block _ hD4).trans HDD4.out)
      · have := HT.out.1
        exact tabIs.far (tabIs.below HT.out b06 this) (keep 0 (by omega) HF0.out (by omega)) hsz
      · obtain ⟨g, o, hpa, hg, hcell⟩ := HPG.out (by omega)
        have how4 := HOW4.out
        obtain ⟨gs, gcap, e, hgs, hgl, _, _, hgc, _⟩ := owns.shape how4 (by simp [boolsV]; have := HPL.out; omega)
        have e2 : va = some ⟨gs, 0, none⟩ := by
          injection e
        have hgF : ¬ F g := HPF.out (by omega) g (by rw [hpa]; rfl)
        have hku : k < (ups (wayI n at_) path).length := by rw [hUl]; exact hk
        have hkw : k < (wayI n at_).length := by have := HPL.out; omega
        refine ⟨g, o, gs, _, hpa, e2, fun j hj => ?_, ?_, ups_get hkw hk, rfl⟩
        · have e3 : wr.heap[g]? = w.heap[g]? := (keep g (by omega) hgF (by omega)).trans (b06.block g hg)
          exact (World.cell?_of_block (w := w) (a := ⟨g, o + k * 32 + j, none⟩) e3).trans (hcell k hk j hj)
        · have e3 : wr.heap[gs]? = w4.heap[gs]? := (keep gs (by omega) (nF _ (by omega)) (by omega)).trans (b46.block gs hgl)
          refine (World.cell?_of_block (w := w4) (a := ⟨gs, k, none⟩) e3).trans (hgc k _ ?_)
          rw [boolsV_get _ k (by rw [List.length_reverse]; have := HPL.out; omega)])
    have RES : Hid (∀ (wr : World), leadAt w6 F kv N c leaf (ups (wayI n at_) path) w4.heap.size path.length wr → ∀ wz, wz.rowIs (w.heap.size + 1) 28 32 (arrV (leadF (ups (wayI n at_) path) leaf)) → wz.heap.size = wr.heap.size → But wr.heap.size (w.heap.size + 1) wr wz →
        wz.heap[W0.heap.size]? = some (.deferred (some [])) ∧ (wz.putObj W0.heap.size (.deferred none)).rowIs (w.heap.size + 1) 28 32 (arrV (leadF (ups (wayI n at_) path) leaf)) ∧ bkAt kv (wz.putObj W0.heap.size (.deferred none)) (Gr F w (wz.putObj W0.heap.size (.deferred none))) (leadFN N (ups (wayI n at_) path) leaf) (c + path.length) ∧ Fr F w (wz.putObj W0.heap.size (.deferred none))) := (show _ from by
      intro wr hL wz hr hz hb
      have hf := FACT.out wr _ hL
      obtain ⟨Fi, h1, h2, h3, h4⟩ := hL
      rw [List.take_of_length_le (by omega)] at h1
      have hpz : (wz.putObj W0.heap.size (.deferred none)).heap.size = wz.heap.size := by simp [World.putObj]
      have hFi : ∀ j, w.heap.size ≤ j → j < w6.heap.size → ¬ Fi j := fun j h5 h6 h => by
        rcases h2 j h with h | h
        · have := hFlt j h; omega
        · omega
      have hblk : ∀ j, j < wr.heap.size → j ≠ w.heap.size + 1 → j ≠ W0.heap.size → (wz.putObj W0.heap.size (.deferred none)).heap[j]? = wr.heap[j]? := fun j hj h5 h6 => (putObj_block wz _ _ h6).trans (hb.block j hj h5)
      refine ⟨(hb.block _ (by omega) (by omega)).trans hf.2.2.1, World.rowIs.of_block hr (putObj_block wz _ _ (by omega)), ?_, ?_⟩
      · refine (bkAt.far h1 (fun j hj hl => hblk j hl (fun e => hFi j (by omega) (by omega) hj) (fun e => hFi j (by omega) (by omega) hj)) (by omega)).grow (fun j hj => ?_) (fun j hj => ?_)
        · rcases h2 j hj with h | h
          · exact Or.inl h
          · exact Or.inr ⟨by omega, by have := h1.lt j hj; omega⟩
        · rcases hj with h | h
          · have := hFlt j h; omega
          · exact h.2
      · refine ⟨hb.os.trans (h3.os.trans b06.os), hb.tape.trans (h3.tape.trans b06.tape), hb.output.trans (h3.output.trans b06.output), by omega, fun j hj hn => ?_⟩
        exact (hblk j (by omega) (by omega) (by omega)).trans ((h3.block j (by omega) (fun h => by rcases h with h | h; exact hn h; omega)).trans (b06.block j hj)))
    have HLL : Hid _ := L0
    have HUL : Hid _ := hUl
    have H0 : Hid _ := hw24
    have H1 : Hid _ := hFlt
    have h6p : w4.heap.size < w6.heap.size ∧ w.heap.size ≤ w4.heap.size := by omega
    have H6 : Hid _ := h6p
    clear h6p
    clear L0 hUl b06 b46 s6 hw24 hw2W hD4 hFlt r6 hz6 hb6
    go_wp2
    go_loopw [48] (fun i wr => ∃ k : Nat, i = .int .i64 k ∧ k ≤ path.length ∧ leadAt w6 F kv N c leaf (ups (wayI n at_) path) w4.heap.size k wr) (fun i _ => path.length - (intOf i).toNat)
    case atStart => exact ⟨0, rfl, by omega, HLL.out⟩
    case round =>
      obtain ⟨k, rfl, hk, hL⟩ := hrel
      obtain ⟨f1, f2, f3, f4, f5⟩ := FACT.out wr k hL
      have RES2 := RES.out wr
      have HRES : Hid _ := RES2
      clear HLL RES RES2 FACT cbx6
      by_cases hlt : k < path.length
      · obtain ⟨g, o, gs, y, rfl, rfl, cp, cs, hy, ey⟩ := f5 hlt
        have hys : isSum y.2 := by rw [ey]; exact HP.out.1 _ (List.getElem_mem _)
        rw [← ey] at cp
        obtain ⟨Fi, h1, h2, h3, h4⟩ := hL
        obtain ⟨S, hS⟩ : ∃ S, S = leadF ((ups (wayI n at_) path).take k) leaf := ⟨_, rfl⟩
        have hSs : isSum S := by rw [hS]; exact leadF_sum _ _ HL.out
        obtain ⟨wd, hwd⟩ : ∃ wd, wd = wr.drew := ⟨_, rfl⟩
        have cpd : ∀ j, j < 32 → wd.cell? ⟨g, o + k * 32 + j, none⟩ = some (arrV y.2 j) := by rw [hwd]; exact cp
        have csd : ∀ j, j < 32 → wd.cell? ⟨w4.heap.size, 0 + j, none⟩ = some (arrV S j) := fun j hj => by rw [hwd, Nat.zero_add, hS]; exact h4.cell hj
        obtain ⟨L2, hL2⟩ : ∃ L2, L2 = upL S y := ⟨_, rfl⟩
        have hL2s : ∀ x ∈ L2, isSum x := by rw [hL2]; exact upL_sums hSs hys
        have hL22 : L2.length = 2 := by rw [hL2]; unfold upL; split <;> rfl
        have lnN := leadFN_len ((ups (wayI n at_) path).take k) N leaf
        have lnT : ((ups (wayI n at_) path).take k).length ≤ path.length := by rw [List.length_take, HUL.out]; omega
        have szd : wd.heap.size = wr.heap.size := by rw [hwd]; rfl
        have bd : Below wr.heap.size wr wd := by rw [hwd]; exact (Below.refl _ _).drew
        have NODE : Hid (∀ p q, L2 = [p, q] → Calls Tryd.prog 27 #[kv, .slice (some ⟨wd.heap.size, 0, none⟩) 2 2] (wd.alloc (.cells (rowV 64 (fun j => if j < 32 then arrV p j else arrV q (j - 32))) 28)) fun e w' => e = .returned (.agg (rowV 32 (arrV (nodeS L2)))) ∧
            w'.rowIs w4.heap.size 28 32 (arrV S) ∧ leadAt w6 F kv N c leaf (ups (wayI n at_) path) w4.heap.size (k + 1) (w'.setCells w4.heap.size 0 (rowV 32 (arrV (nodeS L2))).toList)) := (show _ from by
          intro p q hpq
          have ba : Below wd.heap.size wd (wd.alloc (.cells (rowV 64 (fun j => if j < 32 then arrV p j else arrV q (j - 32))) 28)) := (Below.refl _ _).alloc (Nat.le_refl _) _
          have bra := bd.trans (ba.mono (show wr.heap.size ≤ _ by omega))
          have h1a := bkAt.below h1 bra (Nat.le_refl _)
          have ht2 := two_sums wd p q (hL2s p (by rw [hpq]; simp)) (hL2s q (by rw [hpq]; simp))
          rw [← hpq] at ht2
          have hX := node_k Fi kv _ _ L2 _ _ h1a ht2 (by omega) (tabIs.below f4 bra f4.1) (fun h => by
            rcases h2 0 h with h | h
            · exact HF0.out h
            · have := H6.out; omega) (by have hn0 : N.length + path.length < 100000 := HN.out; omega) (by have hc0 : 0 ≤ c ∧ c < 100000000 := HC.out; omega)
          refine hX.mono ?_
          rintro e wn ⟨rfl, hb, hf⟩
          have hk' : k < (ups (wayI n at_) path).length := by rw [HUL.out]; exact hlt
          have hy' : (ups (wayI n at_) path)[k] = y := by
            rw [List.getElem?_eq_getElem hk'] at hy; exact Option.some.inj hy
          have hst := leadAt_step hk' h2 h3 h4 H6.out.1 (fun h => by have := H1.out _ h; have := H6.out; omega) bra (by rw [hy', ← hS, ← hL2]; exact hb) hf
          rw [hy', ← hS, ← hL2] at hst
          refine ⟨rfl, ?_, hst.1⟩
          refine World.rowIs.of_block (bra.row (hS ▸ h4) h4.lt) (hf.block _ (by have := h4.lt; have := bra.size; omega) (fun h => ?_))
          rcases h2 _ h with h | h
          · have := H1.out _ h; have := H6.out; omega
          · have := H6.out; omega)
        have k0 : (0 : Int) ≤ (k : Int) := by omega
        have k1 : (k : Int) < (path.length : Int) := by omega
        obtain ⟨yb, ys⟩ := y
        have HL2 : Hid _ := hL2
        have HWD : Hid _ := hwd
        clear f1 f2 f3 f4 f5 hy hys ey h1 h2 h3 h4 hS hSs hL2 hL2s hL22 lnN lnT szd bd cp hwd
        simp only at cs cpd
        cases yb with
        | true =>
          have EL : Hid (L2 = [S, ys]) := (show L2 = [S, ys] from HL2.out)
          have X7 := NODE.out S ys EL.out
          clear NODE HL2
          go_upto_region 13 with fail
          refine wp_region_noPanic ?_
          refine wp_region_held_drew (S := fun w' => True) (by kernel_rfl) trivial (fun hHeld => ?_)
          rw [← HWD.out]
          refine take_op (i := 0) (v := ?vm590) rfl (by kernel_rfl) (by kernel_rfl) (by kernel_rfl) (fun _ _ _ h => h) rfl hHeld ?ym590 ?rm590
          case ym590 => (intro wz hz; go_simp; first | done | with_reducible rfl)
          try simp only [Act.put, List.setIfInBounds_toArray, List.set_cons_zero, List.set_cons_succ]
          refine take_op (i := 2) (v := ?vm592) rfl (by kernel_rfl) (by kernel_rfl) (by kernel_rfl) (fun _ _ _ h => h) rfl hHeld ?ym592 ?rm592
          case ym592 => (intro wz hz; go_simp; first | done | with_reducible rfl)
          try simp only [Act.put, List.setIfInBounds_toArray, List.set_cons_zero, List.set_cons_succ]
          refine take_op (i := 3) (v := ?vm593) rfl (by kernel_rfl) (by kernel_rfl) (by kernel_rfl) (fun _ _ _ h => h) rfl hHeld ?ym593 ?rm593
          case ym593 => (intro wz hz; go_simp; first | done | with_reducible rfl)
          try simp only [Act.put, List.setIfInBounds_toArray, List.set_cons_zero, List.set_cons_succ]
          refine take_op (i := 4) (v := ?vm594) rfl (by kernel_rfl) (by kernel_rfl) (by kernel_rfl) (fun _ _ _ h => h) rfl hHeld ?ym594 ?rm594
          case ym594 => (intro wz hz; go_simp; first | done | with_reducible rfl)
          try simp only [Act.put, List.setIfInBounds_toArray, List.set_cons_zero, List.set_cons_succ]
          refine take_two (i := 1) (j := 5) (u := .agg (rowV 32 (arrV S))) (v := .agg (rowV 32 (arrV ys))) rfl rfl (by kernel_rfl) rfl rfl trivial ?ha59 ?hb59 ?oa59 ?ob59
          case ha59 => exact exec_load_row 28 _ rfl w4.heap.size 0 32 (arrV S) rfl _ Tryd.underlying28 rfl hi32' csd
          case hb59 => exact exec_load_row 28 _ rfl g (o + k * 32) 32 (arrV ys) rfl _ Tryd.underlying28 rfl hi32' cpd
          case oa59 =>
            try simp only [Act.put, List.setIfInBounds_toArray, List.set_cons_zero, List.set_cons_succ]
            refine take_run (i := 5) (v := .agg (rowV 32 (arrV ys))) (w' := wd) rfl (by kernel_rfl) rfl ?hc59 trivial ?_
            case hc59 => exact exec_load_row 28 _ rfl g (o + k * 32) 32 (arrV ys) rfl _ Tryd.underlying28 rfl hi32' cpd
            try simp only [Act.put, List.setIfInBounds_toArray, List.set_cons_zero, List.set_cons_succ]
            refine take_one (i := 6) rfl (by kernel_rfl) rfl (fun K hK => ?_)
            refine wp_of_run (exec_bslice2' 22 2 0 1 (.tmp 55) (.tmp 59) _ _ rfl rfl rfl (build_two (arrV S) (arrV ys) wd)) ?_
            refine hK.out _ _ trivial (fun hHeld => ?_)
            clear hK K
            try simp only [Act.put, List.setIfInBounds_toArray, List.set_cons_zero, List.set_cons_succ]
            refine take_one (i := 7) rfl (by kernel_rfl) rfl (fun K hK => ?_)
            go_simp
            refine Calls.mono X7 ?_
            rintro e wn ⟨rfl, rn, hfin⟩
            refine hK.out _ _ trivial (fun hHeld => ?_)
            clear hK K
            try simp only [Act.put, List.setIfInBounds_toArray, List.set_cons_zero, List.set_cons_succ]
            refine take_one (i := 8) rfl (by kernel_rfl) rfl (fun K hK => ?_)
            have hst := stow32T_run wn w4.heap.size (nodeS L2) rn
            unfold Oper.wp execOp
            simp only [Instr.storeAt, Instr.sureAddr, Sem.run_bind, Sem.run_pure, Result.andThen_ok]
            simp [Act.eval, hst, Oper.upon]
            clear hst
            generalize wn.setCells w4.heap.size 0 (rowV 32 (arrV (nodeS L2))).toList = w9 at hfin ⊢
            refine hK.out _ _ trivial (fun hHeld => ?_)
            clear hK K hHeld
            try simp only [Act.put, List.setIfInBounds_toArray, List.set_cons_zero, List.set_cons_succ]
            refine wpAnyH_done (by kernel_rfl) ?_ _
            refine NoPanic.normal ?_
            have HFIN : Hid _ := hfin
            clear hfin rn cpd csd cs
            go_wp2
            go_light
            exact ⟨⟨k + 1, by go_num, by omega, HFIN.out⟩, by simp [intOf]; omega⟩
          case ob59 =>
            try simp only [Act.put, List.setIfInBounds_toArray, List.set_cons_zero, List.set_cons_succ]
            refine take_run (i := 1) (v := .agg (rowV 32 (arrV S))) (w' := wd) rfl (by kernel_rfl) rfl ?hd59 trivial ?_
            case hd59 => exact exec_load_row 28 _ rfl w4.heap.size 0 32 (arrV S) rfl _ Tryd.underlying28 rfl hi32' csd
            try simp only [Act.put, List.setIfInBounds_toArray, List.set_cons_zero, List.set_cons_succ]
            refine take_one (i := 6) rfl (by kernel_rfl) rfl (fun K hK => ?_)
            refine wp_of_run (exec_bslice2' 22 2 0 1 (.tmp 55) (.tmp 59) _ _ rfl rfl rfl (build_two (arrV S) (arrV ys) wd)) ?_
            refine hK.out _ _ trivial (fun hHeld => ?_)
            clear hK K
            try simp only [Act.put, List.setIfInBounds_toArray, List.set_cons_zero, List.set_cons_succ]
            refine take_one (i := 7) rfl (by kernel_rfl) rfl (fun K hK => ?_)
            go_simp
            refine Calls.mono X7 ?_
            rintro e wn ⟨rfl, rn, hfin⟩
            refine hK.out _ _ trivial (fun hHeld => ?_)
            clear hK K
            try simp only [Act.put, List.setIfInBounds_toArray, List.set_cons_zero, List.set_cons_succ]
            refine take_one (i := 8) rfl (by kernel_rfl) rfl (fun K hK => ?_)
            have hst := stow32T_run wn w4.heap.size (nodeS L2) rn
            unfold Oper.wp execOp
            simp only [Instr.storeAt, Instr.sureAddr, Sem.run_bind, Sem.run_pure, Result.andThen_ok]
            simp [Act.eval, hst, Oper.upon]
            clear hst
            generalize wn.setCells w4.heap.size 0 (rowV 32 (arrV (nodeS L2))).toList = w9 at hfin ⊢
            refine hK.out _ _ trivial (fun hHeld => ?_)
            clear hK K hHeld
            try simp only [Act.put, List.setIfInBounds_toArray, List.set_cons_zero, List.set_cons_succ]
            refine wpAnyH_done (by kernel_rfl) ?_ _
            refine NoPanic.normal ?_
            have HFIN : Hid _ := hfin
            clear hfin rn cpd csd cs
            go_wp2
            go_light
            exact ⟨⟨k + 1, by go_num, by omega, HFIN.out⟩, by simp [intOf]; omega⟩
        | false =>
          have EL : Hid (L2 = [ys, S]) := (show L2 = [ys, S] from HL2.out)
          have X7 := NODE.out ys S EL.out
          clear NODE HL2
          go_upto_region 14 with fail
          refine wp_region_noPanic ?_
          refine wp_region_held_drew (S := fun w' => True) (by kernel_rfl) trivial (fun hHeld => ?_)
          rw [← HWD.out]
          refine take_op (i := 0) (v := ?vm660) rfl (by kernel_rfl) (by kernel_rfl) (by kernel_rfl) (fun _ _ _ h => h) rfl hHeld ?ym660 ?rm660
          case ym660 => (intro wz hz; go_simp; first | done | with_reducible rfl)
          try simp only [Act.put, List.setIfInBounds_toArray, List.set_cons_zero, List.set_cons_succ]
          refine take_op (i := 1) (v := ?vm661) rfl (by kernel_rfl) (by kernel_rfl) (by kernel_rfl) (fun _ _ _ h => h) rfl hHeld ?ym661 ?rm661
          case ym661 => (intro wz hz; go_simp; first | done | with_reducible rfl)
          try simp only [Act.put, List.setIfInBounds_toArray, List.set_cons_zero, List.set_cons_succ]
          refine take_op (i := 2) (v := ?vm662) rfl (by kernel_rfl) (by kernel_rfl) (by kernel_rfl) (fun _ _ _ h => h) rfl hHeld ?ym662 ?rm662
          case ym662 => (intro wz hz; go_simp; first | done | with_reducible rfl)
          try simp only [Act.put, List.setIfInBounds_toArray, List.set_cons_zero, List.set_cons_succ]
          refine take_op (i := 3) (v := ?vm663) rfl (by kernel_rfl) (by kernel_rfl) (by kernel_rfl) (fun _ _ _ h => h) rfl hHeld ?ym663 ?rm663
          case ym663 => (intro wz hz; go_simp; first | done | with_reducible rfl)
          try simp only [Act.put, List.setIfInBounds_toArray, List.set_cons_zero, List.set_cons_succ]
          refine take_two (i := 4) (j := 5) (u := .agg (rowV 32 (arrV ys))) (v := .agg (rowV 32 (arrV S))) rfl rfl (by kernel_rfl) rfl rfl trivial ?ha66 ?hb66 ?oa66 ?ob66
          case ha66 => exact exec_load_row 28 _ rfl g (o + k * 32) 32 (arrV ys) rfl _ Tryd.underlying28 rfl hi32' cpd
          case hb66 => exact exec_load_row 28 _ rfl w4.heap.size 0 32 (arrV S) rfl _ Tryd.underlying28 rfl hi32' csd
          case oa66 =>
            try simp only [Act.put, List.setIfInBounds_toArray, List.set_cons_zero, List.set_cons_succ]
            refine take_run (i := 5) (v := .agg (rowV 32 (arrV S))) (w' := wd) rfl (by kernel_rfl) rfl ?hc66 trivial ?_
            case hc66 => exact exec_load_row 28 _ rfl w4.heap.size 0 32 (arrV S) rfl _ Tryd.underlying28 rfl hi32' csd
            try simp only [Act.put, List.setIfInBounds_toArray, List.set_cons_zero, List.set_cons_succ]
            refine take_one (i := 6) rfl (by kernel_rfl) rfl (fun K hK => ?_)
            refine wp_of_run (exec_bslice2' 22 2 0 1 (.tmp 66) (.tmp 67) _ _ rfl rfl rfl (build_two (arrV ys) (arrV S) wd)) ?_
            refine hK.out _ _ trivial (fun hHeld => ?_)
            clear hK K
            try simp only [Act.put, List.setIfInBounds_toArray, List.set_cons_zero, List.set_cons_succ]
            refine take_one (i := 7) rfl (by kernel_rfl) rfl (fun K hK => ?_)
            go_simp
            refine Calls.mono X7 ?_
            rintro e wn ⟨rfl, rn, hfin⟩
            refine hK.out _ _ trivial (fun hHeld => ?_)
            clear hK K
            try simp only [Act.put, List.setIfInBounds_toArray, List.set_cons_zero, List.set_cons_succ]
            refine take_one (i := 8) rfl (by kernel_rfl) rfl (fun K hK => ?_)
            have hst := stow32T_run wn w4.heap.size (nodeS L2) rn
            unfold Oper.wp execOp
            simp only [Instr.storeAt, Instr.sureAddr, Sem.run_bind, Sem.run_pure, Result.andThen_ok]
            simp [Act.eval, hst, Oper.upon]
            clear hst
            generalize wn.setCells w4.heap.size 0 (rowV 32 (arrV (nodeS L2))).toList = w9 at hfin ⊢
            refine hK.out _ _ trivial (fun hHeld => ?_)
            clear hK K hHeld
            try simp only [Act.put, List.setIfInBounds_toArray, List.set_cons_zero, List.set_cons_succ]
            refine wpAnyH_done (by kernel_rfl) ?_ _
            refine NoPanic.normal ?_
            have HFIN : Hid _ := hfin
            clear hfin rn cpd csd cs
            go_wp2
            go_light
            exact ⟨⟨k + 1, by go_num, by omega, HFIN.out⟩, by simp [intOf]; omega⟩
          case ob66 =>
            try simp only [Act.put, List.setIfInBounds_toArray, List.set_cons_zero, List.set_cons_succ]
            refine take_run (i := 4) (v := .agg (rowV 32 (arrV ys))) (w' := wd) rfl (by kernel_rfl) rfl ?hd66 trivial ?_
            case hd66 => exact exec_load_row 28 _ rfl g (o + k * 32) 32 (arrV ys) rfl _ Tryd.underlying28 rfl hi32' cpd
            try simp only [Act.put, List.setIfInBounds_toArray, List.set_cons_zero, List.set_cons_succ]
            refine take_one (i := 6) rfl (by kernel_rfl) rfl (fun K hK => ?_)
            refine wp_of_run (exec_bslice2' 22 2 0 1 (.tmp 66) (.tmp 67) _ _ rfl rfl rfl (build_two (arrV ys) (arrV S) wd)) ?_
            refine hK.out _ _ trivial (fun hHeld => ?_)
            clear hK K
            try simp only [Act.put, List.setIfInBounds_toArray, List.set_cons_zero, List.set_cons_succ]
            refine take_one (i := 7) rfl (by kernel_rfl) rfl (fun K hK => ?_)
            go_simp
            refine Calls.mono X7 ?_
            rintro e wn ⟨rfl, rn, hfin⟩
            refine hK.out _ _ trivial (fun hHeld => ?_)
            clear hK K
            try simp only [Act.put, List.setIfInBounds_toArray, List.set_cons_zero, List.set_cons_succ]
            refine take_one (i := 8) rfl (by kernel_rfl) rfl (fun K hK => ?_)
            have hst := stow32T_run wn w4.heap.size (nodeS L2) rn
            unfold Oper.wp execOp
            simp only [Instr.storeAt, Instr.sureAddr, Sem.run_bind, Sem.run_pure, Result.andThen_ok]
            simp [Act.eval, hst, Oper.upon]
            clear hst
            generalize wn.setCells w4.heap.size 0 (rowV 32 (arrV (nodeS L2))).toList = w9 at hfin ⊢
            refine hK.out _ _ trivial (fun hHeld => ?_)
            clear hK K hHeld
            try simp only [Act.put, List.setIfInBounds_toArray, List.set_cons_zero, List.set_cons_succ]
            refine wpAnyH_done (by kernel_rfl) ?_ _
            refine NoPanic.normal ?_
            have HFIN : Hid _ := hfin
            clear hfin rn cpd csd cs
            go_wp2
            go_light
            exact ⟨⟨k + 1, by go_num, by omega, HFIN.out⟩, by simp [intOf]; omega⟩
      · obtain rfl : k = path.length := by omega
        have k1 : ¬ (path.length : Int) < (path.length : Int) := by omega
        obtain ⟨Fi, h1, h2, h3, h4⟩ := id hL
        rw [List.take_of_length_le (Nat.le_of_eq HUL.out)] at h4
        have HLL : Hid _ := hL
        have lds : ∀ j, j < 32 → wr.cell? ⟨w4.heap.size, 0 + j, none⟩ = some (arrV (leadF (ups (wayI n at_) path) leaf) j) := fun j hj => by rw [Nat.zero_add]; exact h4.cell hj
        have LDS : Hid _ := lds
        have RF2 : Hid _ := f2
        clear lds f1 f2 f3 f4 f5 h1 h2 h3 h4 hL
        go_wp2_with (first | (refine wpList_load_seg rfl 28 _ rfl w4.heap.size 0 32 (arrV (leadF (ups (wayI n at_) path) leaf)) rfl _ Tryd.underlying28 rfl hi32' LDS.out ?_) | (refine wpList_store_row rfl 28 _ _ rfl rfl (w.heap.size + 1) 0 32 (arrV (leadF (ups (wayI n at_) path) leaf)) rfl rfl hi32' (fun _ _ => rfl) _ _ _ RF2.out (by omega) ?_; intro w9 r9 hz9 hb9))
        obtain ⟨e1, e2, e3, e4⟩ := HRES.out HLL.out w9 (r9.congr fun i hi => by rw [if_pos (by omega), Nat.sub_zero]) hz9 hb9
        exact bodyPostM_mark rfl e1 (results_cell_seg2 rfl _ _ (w.heap.size + 1) 28 32 (arrV (leadF (ups (wayI n at_) path) leaf)) _ rfl Tryd.underlying28 rfl hi32' e2) ⟨rfl, e3, e4⟩
end Go.Proofs.YtppfeilndcdoeaaDoor

/- The leaves of the laws' examples. -/
namespace Go.Proofs.YtppfeilndcdoeaaDoor
set_option linter.unusedSimpArgs false
set_option linter.unusedVariables false
open Go.RowKit Go.Deep

def leafS (i : Nat) : List Int := ((i : Int) + 1) :: List.replicate 31 0
def leavesL (n : Nat) : List (List Int) := (List.range n).map leafS
theorem leavesL_len (n : Nat) : (leavesL n).length = n := by simp [leavesL]
theorem leafS_sum {i : Nat} (h : i < 200) : isSum (leafS i) := by
  refine ⟨by simp [leafS], fun j => ?_⟩
  unfold leafS
  match j with
  | 0 => simp; omega
  | j + 1 =>
    rw [List.getD_cons_succ, List.getD_eq_getElem?_getD]
    by_cases hj : j < 31
    · rw [List.getElem?_replicate, if_pos hj]; simp
    · rw [List.getElem?_replicate, if_neg hj]; simp
theorem leavesL_sum {n : Nat} (h : n ≤ 200) : ∀ x ∈ leavesL n, isSum x := by
  intro x hx
  obtain ⟨i, hi, rfl⟩ := List.mem_map.1 hx
  exact leafS_sum (by have := List.mem_range.1 hi; omega)
section
variable {P : Program}
theorem wpList_exec {ops : Array Oper} {rest : List Oper} {o : Oper} {a : Act} {w w' : World} {Q : Exit → Act → World → Prop} {v : Value} (hgd : o.guard = none) (hr : (execOp a.eval o).run P w = .ok (.value v) w') (h : wpList P ops Q rest (a.put o.dst v) w') : wpList P ops Q (o :: rest) a w :=
  wpList_plain hgd fun _ hK => wp_of_run hr (hK _ _ h)
theorem exec_build1' {o : Oper} {ev : Operand → Value} {w w' : World} {v : Value} (t : TypeId) (i : Nat) (x : Operand) (a : Value) (ho : o.op = .build t #[(i, x)]) (hx : ev x = a)
    (hr : (Instr.build t #[(i, a)]).run P w = .ok v w') : (execOp ev o).run P w = .ok (.value v) w' := by
  unfold execOp
  simp only [ho, List.map_toArray, List.map_cons, List.map_nil, hx, Sem.run_bind, hr, Result.andThen_ok, Sem.run_pure]
theorem wpList_build1 {ops : Array Oper} {rest : List Oper} {o : Oper} {a : Act} {w w' : World} {Q : Exit → Act → World → Prop} {v u : Value} (hgd : o.guard = none) (t : TypeId) (i : Nat) (x : Operand) (ho : o.op = .build t #[(i, x)]) (hx : a.eval x = u)
    (hr : (Instr.build t #[(i, u)]).run P w = .ok v w') (h : wpList P ops Q rest (a.put o.dst v) w') : wpList P ops Q (o :: rest) a w := wpList_exec hgd (exec_build1' t i x u ho hx hr) h
theorem wpList_bslice1 {ops : Array Oper} {rest : List Oper} {o : Oper} {a : Act} {w w' : World} {Q : Exit → Act → World → Prop} {v u : Value} (hgd : o.guard = none) (t : TypeId) (n i : Nat) (x : Operand) (ho : o.op = .buildSlice t n #[(i, x)]) (hx : a.eval x = u)
    (hr : (Instr.buildSlice t n #[(i, u)]).run P w = .ok v w') (h : wpList P ops Q rest (a.put o.dst v) w') : wpList P ops Q (o :: rest) a w := wpList_exec hgd (exec_bslice1' t n i x u ho hx hr) h
end
theorem build_leaf0 (x : Int) (w : World) : (Instr.build 28 #[(0, .int .u8 x)]).run Tryd.prog w = .ok (.agg (rowV 32 (fun j => .int .u8 (if j = 0 then x else 0)))) w := by
  show (_ : Result Value) = _
  kernel_rfl
theorem build_leaf (i : Nat) (w : World) : (Instr.build 28 #[(0, .int .u8 ((i : Int) + 1))]).run Tryd.prog w = .ok (.agg (rowV 32 (arrV (leafS i)))) w := by
  have e : rowV 32 (fun j => Value.int .u8 (if j = 0 then (i : Int) + 1 else 0)) = rowV 32 (arrV (leafS i)) := rowV_congr fun j hj => by
    unfold arrV leafS
    match j with
    | 0 => rfl
    | j + 1 => rw [List.getD_cons_succ, List.getD_eq_getElem?_getD, List.getElem?_replicate, if_neg (Nat.succ_ne_zero j), if_pos (show j < 31 by omega)]; rfl
  rw [build_leaf0, e]
theorem wrap_u8 (k : Nat) (h : k < 200) : IntKind.wrap .u8 ((k : Int) + 1) = (k : Int) + 1 := by
  simp [IntKind.wrap, IntKind.bits, IntKind.signed]; omega
set_option maxHeartbeats 1000000 in
set_option maxRecDepth 100000 in
theorem leaves_any (n : Nat) (hn : n ≤ 200) (w : World) : Calls Tryd.prog 24 #[.int .i64 n] w fun e w' => ∃ v, e = .returned v ∧ newSums w' w.heap.size v (leavesL n) ∧ Below w.heap.size w w' := by
  go_enter Tryd.func24, Tryd.ntmps24
  go_wp2
  go_loopw [3, 4] (fun s i wr => ∃ k : Nat, i = .int .i64 k ∧ k ≤ n ∧ newSums wr w.heap.size s (leavesL k) ∧ Below w.heap.size w wr) (fun _ i _ => n - (intOf i).toNat)
  case atStart => exact ⟨0, rfl, by omega, newSums.nil _ _, Below.refl _ _⟩
  case round =>
    obtain ⟨k, rfl, hk, hs, hb⟩ := hrel
    obtain ⟨sa, sc, hse, _, _, _⟩ := ownsRow_slice hs.2
    rw [leavesL_len] at hse
    subst hse
    by_cases hlt : k < n
    · have k0 : (0 : Int) ≤ (k : Int) := by omega
      have k1 : (k : Int) < (n : Int) := by omega
      have k2 : (k : Int) + 1 < 256 := by omega
      have hwr := wrap_u8 k (by omega)
      obtain ⟨q, hq⟩ : ∃ q, q = leafS k := ⟨_, rfl⟩
      have bl := fun wz => build_leaf k wz
      rw [← hq] at bl
      have hqs : isSum q := hq ▸ leafS_sum (by omega)
      have ba : Below wr.heap.size wr (wr.alloc (.cells (rowV 32 (arrV q)) 28)) := (Below.refl _ _).alloc (Nat.le_refl _) _
      have sz := hb.size
      obtain ⟨a8, c8, w8, hr8, hn8, hg8, hat8⟩ := sums_append _ w.heap.size _ _ (hs.below ba (Nat.le_refl _)) _ _ (one_sum wr q hqs) (by rw [leavesL_len]; simp; omega) (by simp; omega)
      rw [leavesL_len] at hr8 hn8
      have FIN : Hid (newSums w8 w.heap.size (.slice a8 (k + 1) c8) (leavesL (k + 1)) ∧ Below w.heap.size w w8) := (show _ from by
        have e : leavesL k ++ [q] = leavesL (k + 1) := by unfold leavesL; rw [List.range_succ, List.map_append, hq]; rfl
        refine ⟨e ▸ hn8, (hb.trans (ba.mono sz)).trans (below_grown hg8 (fun j hj => (hs.block j hj).1) (by simp; omega))⟩)
      have hl1 : ([q] : List (List Int)).length = 1 := rfl
      rw [hl1] at hr8
      have HB : Hid _ := hb
      clear hs hb ba sz hn8 hg8 hat8 hqs hq hl1
      go_wp2_with (first | (refine wpList_build1 (u := .int .u8 ((k : Int) + 1)) (v := .agg (rowV 32 (arrV q))) (w' := wr) rfl 28 0 (.tmp 13) rfl rfl ?_ ?_; exact bl wr) | (refine wpList_bslice1 (u := .agg (rowV 32 (arrV q))) (v := .slice (some ⟨wr.heap.size, 0, none⟩) 1 1) (w' := wr.alloc (.cells (rowV 32 (arrV q)) 28)) rfl 22 1 0 (.tmp 14) rfl rfl ?_ ?_; exact build_one (arrV q) wr) | (at_builtin; refine wpList_append_run rfl _ _ _ rfl rfl rfl hr8 ?_))
      go_light
      exact ⟨⟨k + 1, by go_num, by omega, FIN.out⟩, by simp [intOf]; omega⟩
    · obtain rfl : k = n := by omega
      have k1 : ¬ (k : Int) < (k : Int) := by omega
      have HS : Hid _ := hs
      have HB : Hid _ := hb
      clear hs hb
      go_wp2
      go_ret
      exact ⟨_, rfl, HS.out, HB.out⟩
end Go.Proofs.YtppfeilndcdoeaaDoor

/- The document's Node and Root. -/
namespace Go.Proofs.YtppfeilndcdoeaaDoor
set_option linter.unusedSimpArgs false
set_option linter.unusedVariables false
open Go.RowKit Go.Deep

theorem build_sl2 (a b : Value) (ha : a.oneCell' = true) (hb : b.oneCell' = true) (w : World) (x y : Option Addr) (m n c d : Nat) (ea : a = .slice x m c) (eb : b = .slice y n d) : (Instr.buildSlice 67 2 #[(0, a), (1, b)]).run Tryd.prog w = .ok (.slice (some ⟨w.heap.size, 0, none⟩) 2 2) (w.alloc (.cells #[a, b] 64)) := by
  subst ea eb
  show (_ : Result Value) = _
  kernel_rfl
theorem row_bytes {w : World} {b : Nat} {t : TypeId} {p : List Int} (h : w.rowIs b t 32 (arrV p)) (hp : isSum p) : isBytes w (.slice (some ⟨b, 0, none⟩) 32 32) p :=
  Or.inr ⟨b, 0, 32, by rw [hp.1], by rw [hp.1]; exact Nat.le_refl _, by unfold maxLen; omega, h.lt, fun i hi => by rw [Nat.zero_add, h.cell (by rw [hp.1] at hi; exact hi)]; rfl, hp.2⟩
set_option maxHeartbeats 2000000 in
set_option maxRecDepth 100000 in
theorem rnode_any (p q : List Int) (w : World) (hp : isSum p) (hq : isSum q) :
    Calls Tryd.prog 26 #[.agg (rowV 32 (arrV p)), .agg (rowV 32 (arrV q))] w fun e w' => e = .returned (sumV (nodeS [p, q])) ∧ Below w.heap.size w w' := by
  have hz32 := zero_s32
  obtain ⟨w1, hw1⟩ : ∃ w1, w1 = w.alloc (.cells (rowV 32 (arrV p)) 28) := ⟨_, rfl⟩
  have r1 : w1.rowIs w.heap.size 28 32 (arrV p) := by rw [hw1]; exact rowIs_box w _ _ _
  have b1 : Below w.heap.size w w1 := by rw [hw1]; exact (Below.refl _ _).alloc (Nat.le_refl _) _
  have s1 : w1.heap.size = w.heap.size + 1 := by rw [hw1]; simp
  obtain ⟨w2, hw2⟩ : ∃ w2, w2 = w1.alloc (.cells (rowV 32 (arrV q)) 28) := ⟨_, rfl⟩
  have r2 : w2.rowIs w1.heap.size 28 32 (arrV q) := by rw [hw2]; exact rowIs_box w1 _ _ _
  have b2 : Below w1.heap.size w1 w2 := by rw [hw2]; exact (Below.refl _ _).alloc (Nat.le_refl _) _
  have s2 : w2.heap.size = w.heap.size + 2 := by rw [hw2]; simp; omega
  obtain ⟨w3, hw3⟩ : ∃ w3, w3 = w2.alloc (.cells (rowV 32 (fun _ => .int .u8 0)) 28) := ⟨_, rfl⟩
  have r3 : w3.rowIs w2.heap.size 28 32 (fun _ => .int .u8 0) := by rw [hw3]; exact rowIs_box w2 _ _ _
  have b3 : Below w2.heap.size w2 w3 := by rw [hw3]; exact (Below.refl _ _).alloc (Nat.le_refl _) _
  have s3 : w3.heap.size = w.heap.size + 3 := by rw [hw3]; simp; omega
  rw [s1] at r2
  rw [s2] at r3
  have bw3 : Below w.heap.size w w3 := (b1.trans (b2.mono (by omega))).trans (b3.mono (by omega))
  have p3 : w3.rowIs w.heap.size 28 32 (arrV p) := b3.row (b2.row r1 (by omega)) (by omega)
  have q3 : w3.rowIs (w.heap.size + 1) 28 32 (arrV q) := b3.row r2 (by omega)
  obtain ⟨w4, hw4⟩ : ∃ w4, w4 = w3.drew.alloc (.cells #[.slice (some ⟨w.heap.size, 0, none⟩) 32 32, .slice (some ⟨w.heap.size + 1, 0, none⟩) 32 32] 64) := ⟨_, rfl⟩
  have b4 : Below w3.heap.size w3 w4 := by rw [hw4]; exact ((Below.refl w3.heap.size w3).drew).alloc (Nat.le_refl _) _
  have s4 : w3.heap.size < w4.heap.size := by rw [hw4]; simp
  have bs := build_sl2 (.slice (some ⟨w.heap.size, 0, none⟩) 32 32) (.slice (some ⟨w.heap.size + 1, 0, none⟩) 32 32) rfl rfl w3.drew _ _ _ _ _ _ rfl rfl
  rw [← hw4] at bs
  have hpp : isParts w4 (.slice (some ⟨w3.drew.heap.size, 0, none⟩) 2 2) 2 (fun i => [p, q].getD i []) := by
    have hr := rowIs_new w3.drew #[.slice (some ⟨w.heap.size, 0, none⟩) 32 32, .slice (some ⟨w.heap.size + 1, 0, none⟩) 32 32] 64 2 (fun i => if i = 0 then .slice (some ⟨w.heap.size, 0, none⟩) 32 32 else .slice (some ⟨w.heap.size + 1, 0, none⟩) 32 32) rfl (fun i hi => by
      have : i = 0 ∨ i = 1 := by omega
      rcases this with rfl | rfl <;> rfl)
    rw [← hw4] at hr
    refine Or.inr ⟨w3.drew.heap.size, 0, 2, fun i => if i = 0 then .slice (some ⟨w.heap.size, 0, none⟩) 32 32 else .slice (some ⟨w.heap.size + 1, 0, none⟩) 32 32, rfl, s4, by unfold maxLen; omega, fun i hi => ?_⟩
    rw [Nat.zero_add]
    refine ⟨hr.cell hi, ?_⟩
    have : i = 0 ∨ i = 1 := by omega
    rcases this with rfl | rfl
    · exact Or.inl (row_bytes (b4.row p3 (by omega)) hp)
    · exact Or.inl (row_bytes (b4.row q3 (by omega)) hq)
  have X := rof_any 2 2 _ _ w4 hpp.any (nodeS_light [p, q] (by simp) (fun x hx => by
    rcases List.mem_cons.1 hx with rfl | hx
    · exact hp
    · rw [List.mem_singleton.1 hx]; exact hq))
  have X' : Calls Tryd.prog 25 #[.int .i64 2, .slice (some ⟨w3.drew.heap.size, 0, none⟩) 2 2] w4 fun e w' => e = .returned (.agg (rowV 32 (arrV (nodeS [p, q])))) ∧ Below w4.heap.size w4 w' := X
  clear X hw4
  unfold sumV
  go_enter Tryd.func26, Tryd.ntmps26
  go_upto_region 1 with fail
  rw [← hw1]
  rw [← hw2]
  rw [← hw3]
  have S : Hid (w1.heap.size = w.heap.size + 1 ∧ w2.heap.size = w.heap.size + 2 ∧ w3.heap.size = w.heap.size + 3 ∧ w3.heap.size < w4.heap.size) := (show w1.heap.size = w.heap.size + 1 ∧ w2.heap.size = w.heap.size + 2 ∧ w3.heap.size = w.heap.size + 3 ∧ w3.heap.size < w4.heap.size from ⟨s1, s2, s3, s4⟩)
  have BW : Hid _ := bw3
  have B4 : Hid _ := b4
  have R3 : Hid _ := r3
  clear hw1 hw2 hw3 hz32 s1 s2 s3 s4 bw3 b4 r3 r1 r2 b1 b2 b3 p3 q3 hpp
  refine wp_region_noPanic ?_
  refine wp_region_held_drew (S := fun w' => True) (by kernel_rfl) trivial (fun hHeld => ?_)
  refine take_op (i := 0) (v := ?va0) rfl (by kernel_rfl) (by kernel_rfl) (by kernel_rfl) (fun _ _ _ h => h) rfl hHeld ?ya0 ?ra0
  case ya0 => (intro wz hz; go_simp; first | done | with_reducible rfl)
  try simp only [Act.put, List.setIfInBounds_toArray, List.set_cons_zero, List.set_cons_succ]
  refine take_op (i := 1) (v := ?va1) rfl (by kernel_rfl) (by kernel_rfl) (by kernel_rfl) (fun _ _ _ h => h) rfl hHeld ?ya1 ?ra1
  case ya1 => (intro wz hz; go_simp; first | done | with_reducible rfl)
  try simp only [Act.put, List.setIfInBounds_toArray, List.set_cons_zero, List.set_cons_succ]
  refine take_one (i := 2) rfl (by kernel_rfl) rfl (fun K hK => ?_)
  refine wp_of_run (exec_bslice2' 67 2 0 1 (.tmp 5) (.tmp 6) _ _ rfl rfl rfl bs) ?_
  refine hK.out _ _ trivial (fun hHeld => ?_)
  clear hK K bs
  try simp only [Act.put, List.setIfInBounds_toArray, List.set_cons_zero, List.set_cons_succ]
  refine take_one (i := 3) rfl (by kernel_rfl) rfl (fun K hK => ?_)
  go_simp
  refine Calls.mono X' ?_
  rintro e w5 ⟨rfl, b5⟩
  clear X'
  have hs := S.out
  have s5 := b5.size
  have r5 : w5.rowIs (w.heap.size + 2) 28 32 (fun _ => .int .u8 0) := b5.row (B4.out.row R3.out (by omega)) (by omega)
  have bw5 : Below w.heap.size w w5 := (BW.out.trans (B4.out.mono (by omega))).trans (b5.mono (by omega))
  refine hK.out _ _ trivial (fun hHeld => ?_)
  clear hK K
  try simp only [Act.put, List.setIfInBounds_toArray, List.set_cons_zero, List.set_cons_succ]
  refine take_one (i := 4) rfl (by kernel_rfl) rfl (fun K hK => ?_)
  have hst := stow32T_run w5 (w.heap.size + 2) (nodeS [p, q]) r5
  have h9 := stow32T_row w5 (w.heap.size + 2) (nodeS [p, q]) r5
  have r9 := h9.1
  have hz9 := h9.2.1
  have hb9 := h9.2.2
  clear h9
  unfold Oper.wp execOp
  simp only [Instr.storeAt, Instr.sureAddr, Sem.run_bind, Sem.run_pure, Result.andThen_ok]
  simp [Act.eval, hst, Oper.upon]
  clear hst
  generalize w5.setCells ((w.heap.size + 2)) 0 (rowV 32 (arrV ((nodeS [p, q])))).toList = w9 at r9 hz9 hb9 ⊢
  refine hK.out _ _ trivial (fun hHeld => ?_)
  clear hK K hHeld
  try simp only [Act.put, List.setIfInBounds_toArray, List.set_cons_zero, List.set_cons_succ]
  refine wpAnyH_done (by kernel_rfl) ?_ _
  refine NoPanic.normal ?_
  have RES : Hid (Below w.heap.size w w9) := (show Below w.heap.size w w9 from bw5.trans (hb9.below' (by omega) bw5.size))
  clear bw5 b5 hb9 r5 hs
  go_wp2
  exact bodyPost_ret (results_cell_seg rfl _ _ (w.heap.size + 2) 28 32 (arrV (nodeS [p, q])) _ rfl Tryd.underlying28 rfl hi32' r9) rfl ⟨rfl, RES.out⟩
set_option maxHeartbeats 2000000 in
set_option maxRecDepth 100000 in
theorem rroot_small (L : List (List Int)) (v : Value) (w : World) (hn : L.length ≤ 1) (h : sumsAt w v L) :
    Calls Tryd.prog 10 #[v] w fun e w' => e = .returned (sumV (rootS L)) ∧ Below w.heap.size w w' := by
  have hz32 := zero_s32
  obtain ⟨w1, hw1⟩ : ∃ w1, w1 = w.alloc (.cells (rowV 32 (fun _ => .int .u8 0)) 28) := ⟨_, rfl⟩
  have r1 : w1.rowIs w.heap.size 28 32 (fun _ => .int .u8 0) := by rw [hw1]; exact rowIs_box w _ _ _
  have b1 : Below w.heap.size w w1 := by rw [hw1]; exact (Below.refl _ _).alloc (Nat.le_refl _) _
  have s1 : w1.heap.size = w.heap.size + 1 := by rw [hw1]; simp
  by_cases h0 : L.length = 0
  · have X := rof_any 2 0 (.slice none 0 0) (fun i => ([] : List (List Int)).getD i []) w1 (Or.inl (Or.inl ⟨rfl, rfl⟩)) (nodeS_light [] (by simp) (fun x hx => by simp at hx))
    have ES := rootS_none h0
    have X' : Calls Tryd.prog 25 #[.int .i64 2, .slice none 0 0] w1 fun e w' => e = .returned (.agg (rowV 32 (arrV (rootS L)))) ∧ Below w1.heap.size w1 w' := by rw [ES]; exact X
    unfold sumV
    clear X ES
    obtain ⟨_, a, cap, rfl, _, _, _⟩ := h
    rw [h0]
    go_enter Tryd.func10, Tryd.ntmps10
    go_upto_region 1 with fail
    rw [← hw1]
    have S1 : Hid _ := s1
    clear hw1 hz32 s1
    go_wp2_with fail
    refine X'.mono ?_
    rintro e wx ⟨rfl, bx⟩
    clear X'
    have s1 := S1.out
    have sx := bx.size
    have rx := bx.row r1 (by omega)
    have BX : Hid _ := b1.trans (bx.mono (by omega))
    clear bx s1 r1
    go_wp2_with (first | (refine wpList_store_row rfl 28 _ _ rfl rfl w.heap.size 0 32 (arrV (rootS L)) rfl rfl hi32' (fun _ _ => rfl) _ _ _ rx (by omega) ?_; intro w6 r6 hz6 hb6))
    exact bodyPost_ret (results_cell_seg rfl _ _ w.heap.size 28 32 (arrV (rootS L)) _ rfl Tryd.underlying28 rfl hi32' (r6.congr fun i hi => by rw [if_pos (by omega), Nat.sub_zero])) rfl ⟨rfl, BX.out.trans (hb6.below' (Nat.le_refl _) (Below.size BX.out))⟩
  · have h1 : L.length = 1 := by omega
    have ES : rootS L = L[0] := by rw [rootS_one h1, List.getD_eq_getElem?_getD, List.getElem?_eq_getElem (by omega)]; rfl
    obtain ⟨hs, a, cap, rfl, hc1, hm1, hcl⟩ := h
    obtain ⟨g, o, rfl, hg, hcell⟩ := hcl (by omega)
    have ld : ∀ j, j < 32 → w1.cell? ⟨g, o + j, none⟩ = some (arrV (rootS L) j) := fun j hj => by
      have := hcell 0 (by omega) j hj
      rw [show o + 0 * 32 + j = o + j by omega] at this
      rw [b1.cell (p := ⟨g, o + j, none⟩) hg, this, ES]
    have LD : Hid _ := ld
    clear ld hcell hcl hs ES
    rw [h1]
    unfold sumV
    go_enter Tryd.func10, Tryd.ntmps10
    go_upto_region 1 with fail
    rw [← hw1]
    have S1 : Hid _ := s1
    clear hw1 hz32 s1
    go_wp2_with (first | (refine wpList_load_seg rfl 28 _ rfl g o 32 (arrV (rootS L)) rfl _ Tryd.underlying28 rfl hi32' LD.out ?_) | (refine wpList_store_row rfl 28 _ _ rfl rfl w.heap.size 0 32 (arrV (rootS L)) rfl rfl hi32' (fun _ _ => rfl) _ _ _ r1 (by omega) ?_; intro w6 r6 hz6 hb6))
    have s1 := S1.out
    exact bodyPost_ret (results_cell_seg rfl _ _ w.heap.size 28 32 (arrV (rootS L)) _ rfl Tryd.underlying28 rfl hi32' (r6.congr fun i hi => by rw [if_pos (by omega), Nat.sub_zero])) rfl ⟨rfl, b1.trans (hb6.below' (Nat.le_refl _) (by omega))⟩
set_option maxHeartbeats 2000000 in
set_option maxRecDepth 100000 in
theorem rroot_any : ∀ (n : Nat) (L : List (List Int)) (v : Value) (w : World), L.length ≤ n → n ≤ 1000 → sumsAt w v L →
    Calls Tryd.prog 10 #[v] w fun e w' => e = .returned (sumV (rootS L)) ∧ Below w.heap.size w w' := by
  intro n
  induction n with
  | zero =>
    intro L v w hn h1000 h
    exact rroot_small L v w (by omega) h
  | succ n ih =>
  intro L v w hn h1000 h
  by_cases hsm : L.length ≤ 1
  · exact rroot_small L v w hsm h
  have h2 : 2 ≤ L.length := by omega
  have hh := half_take h2
  have hz32 := zero_s32
  obtain ⟨w1, hw1⟩ : ∃ w1, w1 = w.alloc (.cells (rowV 32 (fun _ => .int .u8 0)) 28) := ⟨_, rfl⟩
  have r1 : w1.rowIs w.heap.size 28 32 (fun _ => .int .u8 0) := by rw [hw1]; exact rowIs_box w _ _ _
  have b1 : Below w.heap.size w w1 := by rw [hw1]; exact (Below.refl _ _).alloc (Nat.le_refl _) _
  have s1 : w1.heap.size = w.heap.size + 1 := by rw [hw1]; simp
  have X1 := rhalf_any (L.length : Int) (by omega) (by omega) w1
  obtain ⟨ua, ra, sa, oa, xa, ya, rfl⟩ := h.to' (halfN L.length) (by omega)
  obtain ⟨ub, rb, sb, ob, xb, yb, rfl⟩ := h.from' (halfN L.length) (by omega)
  obtain ⟨TL, hTL⟩ : ∃ TL, TL = L.take (halfN L.length) := ⟨_, rfl⟩
  obtain ⟨DL, hDL⟩ : ∃ DL, DL = L.drop (halfN L.length) := ⟨_, rfl⟩
  have ES : rootS L = nodeS [rootS TL, rootS DL] := by rw [hTL, hDL]; exact rootS_more h2
  have hsT : isSum (rootS TL) := rootS_sum (by rw [hTL]; exact sa.1)
  have hsD : isSum (rootS DL) := rootS_sum (by rw [hDL]; exact sb.1)
  have lT : TL.length = halfN L.length := by rw [hTL]; exact hh.1
  have lD : DL.length = L.length - halfN L.length := by rw [hDL]; exact hh.2.1
  rw [← hTL] at sa
  rw [← hDL] at sb
  have XA := ih TL _ w1.drew (by omega) (by omega) ((sa.below b1 (Nat.le_refl _)).below ((Below.refl _ _).drew) (Nat.le_refl _))
  unfold sumV at XA ⊢
  have HES : Hid _ := ES
  have hsl : ∃ a cap, v = .slice a L.length cap := by
    obtain ⟨_, a, cap, e, _⟩ := h; exact ⟨a, cap, e⟩
  obtain ⟨va, vc, rfl⟩ := hsl
  have q0 : (2 : Int) ≤ (L.length : Int) := by omega
  have q1 : (L.length : Int) ≤ 1001 := by omega
  have n0 : ¬ (L.length : Int) = 0 := by omega
  have n1 : ¬ (L.length : Int) = 1 := by omega
  have hI : halfI (L.length : Int) = (halfN L.length : Int) := by unfold halfI; rw [Int.toNat_natCast]
  rw [hI] at X1
  have hh2 := hh.2.2
  clear hI ES hTL hDL hh hsm
  go_enter Tryd.func10, Tryd.ntmps10
  go_upto_region 1 with fail
  rw [← hw1]
  have S1 : Hid _ := s1
  have R1 : Hid _ := r1
  have B1 : Hid _ := b1
  have SB : Hid _ := sb
  clear hw1 hz32 s1 r1 b1 sa sb h oa ob
  go_wp2_with fail
  refine X1.mono ?_
  rintro e w' ⟨rfl, hw⟩
  obtain rfl := hw.symm
  clear X1 hw
  go_upto_region 6 with fail
  refine wp_region_noPanic ?_
  refine wp_region_held_drew (S := fun w' => True) (by kernel_rfl) trivial (fun hHeld => ?_)
  refine take_op (i := 0) (v := ?va0) rfl (by kernel_rfl) (by kernel_rfl) (by kernel_rfl) (fun _ _ _ h => h) rfl hHeld ?ya0 ?ra0
  case ya0 => (intro wz hz; go_simp; first | done | with_reducible rfl)
  try simp only [Act.put, List.setIfInBounds_toArray, List.set_cons_zero, List.set_cons_succ]
  refine take_op (i := 1) (v := ?va1) rfl (by kernel_rfl) (by kernel_rfl) (by kernel_rfl) (fun _ _ _ h => h) rfl hHeld ?ya1 ?ra1
  case ya1 => (intro wz hz; go_simp; first | done | with_reducible rfl)
  try simp only [Act.put, List.setIfInBounds_toArray, List.set_cons_zero, List.set_cons_succ]
  refine take_op (i := 2) (v := ?va2) rfl (by kernel_rfl) (by kernel_rfl) (by kernel_rfl) (fun _ _ _ h => h) rfl hHeld ?ya2 ?ra2
  case ya2 => (intro wz hz; have hcz := ra wz; go_simp; first | done | with_reducible rfl)
  try simp only [Act.put, List.setIfInBounds_toArray, List.set_cons_zero, List.set_cons_succ]
  refine take_op (i := 4) (v := ?va4) rfl (by kernel_rfl) (by kernel_rfl) (by kernel_rfl) (fun _ _ _ h => h) rfl hHeld ?ya4 ?ra4
  case ya4 => (intro wz hz; go_simp; first | done | with_reducible rfl)
  try simp only [Act.put, List.setIfInBounds_toArray, List.set_cons_zero, List.set_cons_succ]
  refine take_op (i := 5) (v := ?va5) rfl (by kernel_rfl) (by kernel_rfl) (by kernel_rfl) (fun _ _ _ h => h) rfl hHeld ?ya5 ?ra5
  case ya5 => (intro wz hz; go_simp; first | done | with_reducible rfl)
  try simp only [Act.put, List.setIfInBounds_toArray, List.set_cons_zero, List.set_cons_succ]
  refine take_op (i := 6) (v := ?va6) rfl (by kernel_rfl) (by kernel_rfl) (by kernel_rfl) (fun _ _ _ h => h) rfl hHeld ?ya6 ?ra6
  case ya6 => (intro wz hz; have hcz := rb wz; go_simp; first | done | with_reducible rfl)
  try simp only [Act.put, List.setIfInBounds_toArray, List.set_cons_zero, List.set_cons_succ]
  refine take_one (i := 3) rfl (by kernel_rfl) rfl (fun K hK => ?_)
  go_simp
  refine Calls.mono XA ?_
  rintro e w5 ⟨rfl, b5⟩
  clear XA
  have s1 := S1.out
  have b5' : Below w1.heap.size w1 w5 := ((Below.refl w1.heap.size w1).drew).trans b5
  have b5w : Below w.heap.size w w5 := B1.out.trans (b5'.mono (by omega))
  have s5 := b5'.size
  have XB := ih DL _ w5 (by omega) (by omega) (sumsAt.below SB.out b5w (Nat.le_refl _))
  unfold sumV at XB
  refine hK.out _ _ trivial (fun hHeld => ?_)
  clear hK K
  try simp only [Act.put, List.setIfInBounds_toArray, List.set_cons_zero, List.set_cons_succ]
  refine take_one (i := 7) rfl (by kernel_rfl) rfl (fun K hK => ?_)
  go_simp
  refine Calls.mono XB ?_
  rintro e w10 ⟨rfl, b10⟩
  clear XB
  have b10w : Below w.heap.size w w10 := b5w.trans (b10.mono (by omega))
  have s10 := b10.size
  have r10 : w10.rowIs w.heap.size 28 32 (fun _ => .int .u8 0) := b10.row (b5'.row R1.out (by omega)) (by omega)
  refine hK.out _ _ trivial (fun hHeld => ?_)
  clear hK K
  try simp only [Act.put, List.setIfInBounds_toArray, List.set_cons_zero, List.set_cons_succ]
  have XC := rnode_any (rootS TL) (rootS DL) w10 hsT hsD
  unfold sumV at XC
  refine take_one (i := 8) rfl (by kernel_rfl) rfl (fun K hK => ?_)
  go_simp
  refine Calls.mono XC ?_
  rintro e w12 ⟨rfl, b12⟩
  clear XC
  have s12 := b12.size
  have b12w : Below w.heap.size w w12 := b10w.trans (b12.mono (by omega))
  have r12 : w12.rowIs w.heap.size 28 32 (fun _ => .int .u8 0) := b12.row r10 (by omega)
  rw [← HES.out]
  refine hK.out _ _ trivial (fun hHeld => ?_)
  clear hK K
  try simp only [Act.put, List.setIfInBounds_toArray, List.set_cons_zero, List.set_cons_succ]
  refine take_one (i := 9) rfl (by kernel_rfl) rfl (fun K hK => ?_)
  have hst := stow32T_run w12 w.heap.size (rootS L) r12
  have h9 := stow32T_row w12 w.heap.size (rootS L) r12
  have r9 := h9.1
  have hz9 := h9.2.1
  have hb9 := h9.2.2
  clear h9
  unfold Oper.wp execOp
  simp only [Instr.storeAt, Instr.sureAddr, Sem.run_bind, Sem.run_pure, Result.andThen_ok]
  simp [Act.eval, hst, Oper.upon]
  clear hst
  generalize w12.setCells (w.heap.size) 0 (rowV 32 (arrV ((rootS L)))).toList = w9 at r9 hz9 hb9 ⊢
  refine hK.out _ _ trivial (fun hHeld => ?_)
  clear hK K hHeld
  try simp only [Act.put, List.setIfInBounds_toArray, List.set_cons_zero, List.set_cons_succ]
  refine wpAnyH_done (by kernel_rfl) ?_ _
  refine NoPanic.normal ?_
  have RES : Hid (Below w.heap.size w w9) := (show Below w.heap.size w w9 from b12w.trans (hb9.below' (Nat.le_refl _) b12w.size))
  clear b12w b12 b10 b10w b5 b5w b5' hb9 r12 r10
  go_wp2
  exact bodyPost_ret (results_cell_seg rfl _ _ w.heap.size 28 32 (arrV (rootS L)) _ rfl Tryd.underlying28 rfl hi32' r9) rfl ⟨rfl, RES.out⟩
end Go.Proofs.YtppfeilndcdoeaaDoor
