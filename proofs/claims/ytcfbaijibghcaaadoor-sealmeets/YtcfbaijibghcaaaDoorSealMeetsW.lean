import Derived.Test.YtcfbaijibghcaaaDoorSealBoth
/- SealMeets' walk. -/
namespace Go.Proofs.YtcfbaijibghcaaaDoor
set_option linter.unusedSimpArgs false
set_option linter.unusedVariables false
open Go.RowKit Go.Deep

theorem three_new (w : World) : threeAt w ((((w.alloc (.cells #[.pointer none] 29)).alloc (.cells #[.pointer none] 29)).alloc (.cells #[.pointer none] 29)).alloc (.cells #[.pointer (some ⟨w.heap.size, 0, none⟩), .pointer (some ⟨w.heap.size + 1, 0, none⟩), .pointer (some ⟨w.heap.size + 1 + 1, 0, none⟩)] 26)) (fun _ => []) := by
  obtain ⟨w1, hw1⟩ : ∃ w1, w1 = w.alloc (.cells #[.pointer none] 29) := ⟨_, rfl⟩
  obtain ⟨w2, hw2⟩ : ∃ w2, w2 = w1.alloc (.cells #[.pointer none] 29) := ⟨_, rfl⟩
  obtain ⟨w3, hw3⟩ : ∃ w3, w3 = w2.alloc (.cells #[.pointer none] 29) := ⟨_, rfl⟩
  obtain ⟨w4, hw4⟩ : ∃ w4, w4 = w3.alloc (.cells #[.pointer (some ⟨w.heap.size, 0, none⟩), .pointer (some ⟨w.heap.size + 1, 0, none⟩), .pointer (some ⟨w.heap.size + 1 + 1, 0, none⟩)] 26) := ⟨_, rfl⟩
  rw [← hw1, ← hw2, ← hw3, ← hw4]
  have s1 : w1.heap.size = w.heap.size + 1 := by rw [hw1]; simp
  have s2 : w2.heap.size = w.heap.size + 2 := by rw [hw2]; simp; omega
  have s3 : w3.heap.size = w.heap.size + 3 := by rw [hw3]; simp; omega
  have s4 : w4.heap.size = w.heap.size + 4 := by rw [hw4]; simp; omega
  have b1 : Below w.heap.size w w1 := by rw [hw1]; exact (Below.refl _ _).alloc (Nat.le_refl _) _
  have b2 : Below w1.heap.size w1 w2 := by rw [hw2]; exact (Below.refl _ _).alloc (Nat.le_refl _) _
  have b3 : Below w2.heap.size w2 w3 := by rw [hw3]; exact (Below.refl _ _).alloc (Nat.le_refl _) _
  have b4 : Below w3.heap.size w3 w4 := by rw [hw4]; exact (Below.refl _ _).alloc (Nat.le_refl _) _
  have rb : ∀ (u : World), (u.alloc (.cells #[.pointer none] 29)).rowIs u.heap.size 29 1 (fun _ => .pointer none) := fun u => rowIs_new u _ _ 1 _ rfl (fun i hi => by
    obtain rfl : i = 0 := by omega
    rfl)
  have r1 : w4.rowIs w.heap.size 29 1 (fun _ => .pointer none) := b4.row (b3.row (b2.row (hw1 ▸ rb w) (by omega)) (by omega)) (by omega)
  have r2 : w4.rowIs (w.heap.size + 1) 29 1 (fun _ => .pointer none) := b4.row (b3.row (s1 ▸ hw2 ▸ rb w1) (by omega)) (by omega)
  have r3 : w4.rowIs (w.heap.size + 2) 29 1 (fun _ => .pointer none) := b4.row (s2 ▸ hw3 ▸ rb w2) (by omega)
  refine ⟨fun b j => j = w.heap.size + b, fun b hb => bookAt.new w w4 _ ?_, fun b j hb hj => ⟨by omega, by omega⟩, fun b c j _ _ hne h1 h2 => hne (by omega), ?_, ?_⟩
  · have : b = 0 ∨ b = 1 ∨ b = 2 := by omega
    rcases this with rfl | rfl | rfl
    · exact r1
    · exact r2
    · exact r3
  · rw [hw4, ← s3]
    exact rowIs_new w3 _ _ 3 _ rfl (fun i hi => by
      have : i = 0 ∨ i = 1 ∨ i = 2 := by omega
      rcases this with rfl | rfl | rfl <;> rfl)
  · exact ((b1.trans (b2.mono (by omega))).trans (b3.mono (by omega))).trans (b4.mono (by omega))
/-- none of the pairs ahead is the one that Clash tells. -/
def hit (acts : Nat → AR) (A B : List Int) (i j : Nat) : Prop := (acts i).sum = (acts j).sum ∧ (acts i).bytes ≠ (acts j).bytes ∧ bothB (acts i).bytes (acts j).bytes A B
theorem act_sum {w : World} {qb o : Nat} {x : AR} {pv bv : Value} (hqb : qb < w.heap.size) (hcell : ∀ j, j < 36 → w.cell? ⟨qb, o + j, none⟩ = some (actV x.what x.kind pv bv x.sum j)) {wz : World} (hz : Below w.heap.size w wz) : ∀ i, i < 32 → wz.cell? ⟨qb, o + 3 + i, none⟩ = some (arrV x.sum i) := fun i hi => by
  rw [hz.cell (p := ⟨qb, o + 3 + i, none⟩) hqb]
  have := hcell (3 + i) (by omega)
  rw [← Nat.add_assoc] at this
  rw [this, actV, if_neg (by omega), if_neg (by omega), if_neg (by omega), if_pos (by omega), show 3 + i - 3 = i by omega]
theorem act_bytes {w : World} {qb o : Nat} {x : AR} {pv bv : Value} (hqb : qb < w.heap.size) (hcell : ∀ j, j < 36 → w.cell? ⟨qb, o + j, none⟩ = some (actV x.what x.kind pv bv x.sum j)) {wz : World} (hz : Below w.heap.size w wz) : wz.cell? ⟨qb, o + 35, none⟩ = some bv :=
  (hz.cell (p := ⟨qb, o + 35, none⟩) hqb).trans (hcell 35 (by omega))
theorem tmod3 (k : Nat) : Int.tmod (k : Int) 3 = ((k % 3 : Nat) : Int) := by rw [Int.tmod_eq_emod_of_nonneg (by omega)]; omega
set_option maxHeartbeats 4000000 in
set_option maxRecDepth 100000 in
theorem sealMeets_any (n : Nat) (v : Value) (acts : Nat → AR) (w : World) (ht : tabIs w) (h : isActs w v n acts) :
    Calls Tryd.prog 7 #[v] w fun e w' => e = .returned (.bool true) ∧ Below w.heap.size w w' := by
  have ht0 := ht.1
  have HV := heavy_any n v acts w h
  have AW0 := awake_any w ht
  have AW : Hid (∀ wz, Below w.heap.size w wz → Calls Tryd.prog 10 #[] wz fun e w' => e = .returned (.bool true) ∧ Below wz.heap.size wz w') := (show ∀ wz, Below w.heap.size w wz → Calls Tryd.prog 10 #[] wz fun e w' => e = .returned (.bool true) ∧ Below wz.heap.size wz w' from fun wz hz => awake_any wz (ht.below hz ht0))
  obtain ⟨a, cap, rfl, hc, hm, hact⟩ := h.open
  unfold maxLen at hm
  have q0 : (n : Int) ≤ 9223372036854775807 := by omega
  have HH : Hid (isActs w (.slice a n cap) n acts) := (show isActs w (.slice a n cap) n acts from h)
  clear h
  go_enter Tryd.func7, Tryd.ntmps7
  go_wp2_with fail
  refine HV.mono ?_
  rintro e w' ⟨r, rfl, hw, hl⟩
  obtain rfl := hw.symm
  clear hw HV
  cases r with
  | true =>
    clear hl
    go_wp2_with fail
    refine AW0.mono ?_
    rintro e w2 ⟨rfl, b2⟩
    go_wp2
    go_ret
    exact ⟨rfl, b2⟩
  | false =>
    obtain ⟨_, h500, hwt⟩ := hl rfl
    clear hl
    by_cases h100 : 100 < n
    · have q1 : (100 : Int) < (n : Int) := by omega
      go_wp2_with fail
      refine AW0.mono ?_
      rintro e w2 ⟨rfl, b2⟩
      go_wp2
      go_ret
      exact ⟨rfl, b2⟩
    · have q1 : (n : Int) ≤ 100 := by omega
      have q2 : ¬ (100 : Int) < (n : Int) := by omega
      have hsz : ∀ j, j < n → (acts j).bytes.length ≤ 60000 := fun j hj => by have := wtA_one acts n j hj; omega
      have HSZ : Hid _ := hsz
      clear h500 hwt AW0 hsz
      have M4 : Hid (threeAt w _ (fun _ => [])) := (show threeAt w _ (fun _ => []) from three_new w)
      have HA : Hid _ := hact
      clear hact
      go_wp2
      go_loopw [4] (fun i wr => ∃ k : Nat, k ≤ n ∧ i = .int .i64 k ∧ threeAt w wr (fun b => bookN acts b k)) (fun i _ => n - (intOf i).toNat)
      case atStart => exact ⟨0, by omega, rfl, M4.out⟩
      case round =>
        obtain ⟨k, hk, rfl, hthr⟩ := hrel
        clear M4
        have HT : Hid (threeAt w wr (fun b => bookN acts b k)) := (show threeAt w wr (fun b => bookN acts b k) from hthr)
        have p0 : (0 : Int) ≤ (k : Int) := by omega
        by_cases hlt : k < n
        · obtain ⟨qb, qo, rfl, hqb, pv, bv, hcell, _, hbv, hsum⟩ := HA.out k hlt
          have p1 : (k : Int) < (n : Int) := by omega
          have hk3 : k % 3 < 3 := by omega
          have hmod := tmod3 k
          have p2 : (0 : Int) ≤ ((k % 3 : Nat) : Int) := by omega
          have p3 : ((k % 3 : Nat) : Int) < 3 := by omega
          have hbw : Below w.heap.size w wr := hthr.choose_spec.2.2.2.2
          have hrow : wr.rowIs (w.heap.size + 3) 26 3 (fun b => .pointer (some ⟨w.heap.size + b, 0, none⟩)) := hthr.choose_spec.2.2.2.1
          obtain ⟨F, hbk, hFge, hstep⟩ := hthr.note (k % 3) hk3
          obtain ⟨b, hbe⟩ : ∃ b, b = k % 3 := ⟨_, rfl⟩
          rw [← hbe] at hmod p2 p3 hbk hstep hk3
          have cb : wr.cell? ⟨w.heap.size + 1 + 1 + 1, b, none⟩ = some (.pointer (some ⟨w.heap.size + b, 0, none⟩)) := hrow.cell hk3
          have CS : Hid (∀ wz, Below w.heap.size w wz → ∀ i, i < 32 → wz.cell? ⟨qb, qo + k * 36 + 3 + i, none⟩ = some (arrV (acts k).sum i)) := (show ∀ wz, Below w.heap.size w wz → ∀ i, i < 32 → wz.cell? ⟨qb, qo + k * 36 + 3 + i, none⟩ = some (arrV (acts k).sum i) from fun wz hz i hi => by
            rw [hz.cell (p := ⟨qb, qo + k * 36 + 3 + i, none⟩) hqb]
            have := hcell (3 + i) (by omega)
            rw [← Nat.add_assoc] at this
            rw [this, actV, if_neg (by omega), if_neg (by omega), if_neg (by omega), if_pos (by omega), show 3 + i - 3 = i by omega])
          have CB : Hid (∀ wz, Below w.heap.size w wz → wz.cell? ⟨qb, qo + k * 36 + 35, none⟩ = some bv) := (show ∀ wz, Below w.heap.size w wz → wz.cell? ⟨qb, qo + k * 36 + 35, none⟩ = some bv from fun wz hz => (hz.cell (p := ⟨qb, qo + k * 36 + 35, none⟩) hqb).trans (hcell 35 (by omega)))
          obtain ⟨q, hq⟩ : ∃ q, q = (acts k).sum := ⟨_, rfl⟩
          obtain ⟨l, hl⟩ : ∃ l, l = (acts k).bytes := ⟨_, rfl⟩
          rw [← hq] at CS hsum
          rw [← hl] at hbv
          have X := note_any' F (w.heap.size + b) _ 0 q l bv wr.drew (bookAt.below hbk ((Below.refl _ _).drew) (Nat.le_refl _)) hsum (hbv.below (hbw.drew) (Nat.le_refl _)) (fun h2 j hj hf => by
            have h1 := hFge j hf
            rcases hbv with h3 | ⟨_, rfl⟩
            · have := h3.block j hj; omega
            · simp at h2) (by have := bookN_len acts b k; omega)
          unfold sumV at X
          obtain ⟨ba, bc, rfl, _⟩ := hbv.slice
          have HX : Hid _ := X
          have HST : Hid _ := hstep
          have HBW : Hid (Below w.heap.size w wr) := (show Below w.heap.size w wr from hbw)
          have HE : Hid (noteOf (acts k) = (q, strOf l) ∧ b = k % 3) := (show noteOf (acts k) = (q, strOf l) ∧ b = k % 3 from ⟨by rw [hq, hl]; rfl, hbe⟩)
          clear X hstep hbw hbk hrow hthr hcell hbv hbe hq hl HA
          go_upto_region 7 with fail
          refine wp_region_noPanic ?_
          refine wp_region_held_drew (S := fun w' => Below w.heap.size w w' ∧ w'.cell? ⟨w.heap.size + 1 + 1 + 1, b, none⟩ = some (.pointer (some ⟨w.heap.size + b, 0, none⟩))) (by kernel_rfl) ⟨HBW.out.drew, cb⟩ (fun hHeld => ?_)
          clear cb
          refine take_op (i := 0) (v := ?va0) rfl (by kernel_rfl) (by kernel_rfl) (by kernel_rfl) (fun _ _ _ h => h) rfl hHeld ?ya0 ?ra0
          case ya0 => (intro wz hz; go_simp; first | done | with_reducible rfl)
          try simp only [Act.put, List.setIfInBounds_toArray, List.set_cons_zero, List.set_cons_succ]
          refine take_op (i := 1) (v := ?va1) rfl (by kernel_rfl) (by kernel_rfl) (by kernel_rfl) (fun _ _ _ h => h) rfl hHeld ?ya1 ?ra1
          case ya1 => (intro wz hz; go_simp; first | done | with_reducible rfl)
          try simp only [Act.put, List.setIfInBounds_toArray, List.set_cons_zero, List.set_cons_succ]
          refine take_op (i := 2) (v := ?va2) rfl (by kernel_rfl) (by kernel_rfl) (by kernel_rfl) (fun _ _ _ h => h) rfl hHeld ?ya2 ?ra2
          case ya2 => (intro wz hz; have hcz := hmod; go_simp; first | done | with_reducible rfl)
          try simp only [Act.put, List.setIfInBounds_toArray, List.set_cons_zero, List.set_cons_succ]
          refine take_op (i := 3) (v := ?va3) rfl (by kernel_rfl) (by kernel_rfl) (by kernel_rfl) (fun _ _ _ h => h) rfl hHeld ?ya3 ?ra3
          case ya3 => (intro wz hz; go_simp; first | done | with_reducible rfl)
          try simp only [Act.put, List.setIfInBounds_toArray, List.set_cons_zero, List.set_cons_succ]
          refine take_op (i := 4) (v := ?va4) rfl (by kernel_rfl) (by kernel_rfl) (by kernel_rfl) (fun _ _ _ h => h) rfl hHeld ?ya4 ?ra4
          case ya4 => (intro wz hz; have hcz := hz.2; go_simp; first | done | with_reducible rfl)
          try simp only [Act.put, List.setIfInBounds_toArray, List.set_cons_zero, List.set_cons_succ]
          refine take_op (i := 5) (v := ?va5) rfl (by kernel_rfl) (by kernel_rfl) (by kernel_rfl) (fun _ _ _ h => h) rfl hHeld ?ya5 ?ra5
          case ya5 => (intro wz hz; go_simp; first | done | with_reducible rfl)
          try simp only [Act.put, List.setIfInBounds_toArray, List.set_cons_zero, List.set_cons_succ]
          refine take_op (i := 6) (v := ?va6) rfl (by kernel_rfl) (by kernel_rfl) (by kernel_rfl) (fun _ _ _ h => h) rfl hHeld ?ya6 ?ra6
          case ya6 => (intro wz hz; go_simp; first | done | with_reducible rfl)
          try simp only [Act.put, List.setIfInBounds_toArray, List.set_cons_zero, List.set_cons_succ]
          refine take_op (i := 7) (v := ?va7) rfl (by kernel_rfl) (by kernel_rfl) (by kernel_rfl) (fun _ _ _ h => h) rfl hHeld ?ya7 ?ra7
          case ya7 => (intro wz hz; go_simp; first | done | with_reducible rfl)
          try simp only [Act.put, List.setIfInBounds_toArray, List.set_cons_zero, List.set_cons_succ]
          refine take_op (i := 8) (v := ?va8) rfl (by kernel_rfl) (by kernel_rfl) (by kernel_rfl) (fun _ _ _ h => h) rfl hHeld ?ya8 ?ra8
          case ya8 => (intro wz hz; go_simp; first | done | with_reducible rfl)
          try simp only [Act.put, List.setIfInBounds_toArray, List.set_cons_zero, List.set_cons_succ]
          refine take_load (i := 9) rfl (by kernel_rfl) (by kernel_rfl) (by kernel_rfl) 23 _ rfl qb (qo + k * 36 + 3) 32 (arrV q) rfl _ Tryd.underlying23 rfl (by kernel_rfl) (fun _ _ _ h => h) rfl hHeld (fun wz hz => CS.out wz hz.1) ?_
          try simp only [Act.put, List.setIfInBounds_toArray, List.set_cons_zero, List.set_cons_succ]
          refine take_op (i := 10) (v := ?va10) rfl (by kernel_rfl) (by kernel_rfl) (by kernel_rfl) (fun _ _ _ h => h) rfl hHeld ?ya10 ?ra10
          case ya10 => (intro wz hz; go_simp; first | done | with_reducible rfl)
          try simp only [Act.put, List.setIfInBounds_toArray, List.set_cons_zero, List.set_cons_succ]
          refine take_op (i := 11) (v := ?va11) rfl (by kernel_rfl) (by kernel_rfl) (by kernel_rfl) (fun _ _ _ h => h) rfl hHeld ?ya11 ?ra11
          case ya11 => (intro wz hz; go_simp; first | done | with_reducible rfl)
          try simp only [Act.put, List.setIfInBounds_toArray, List.set_cons_zero, List.set_cons_succ]
          refine take_op (i := 12) (v := ?va12) rfl (by kernel_rfl) (by kernel_rfl) (by kernel_rfl) (fun _ _ _ h => h) rfl hHeld ?ya12 ?ra12
          case ya12 => (intro wz hz; go_simp; first | done | with_reducible rfl)
          try simp only [Act.put, List.setIfInBounds_toArray, List.set_cons_zero, List.set_cons_succ]
          refine take_op (i := 13) (v := ?va13) rfl (by kernel_rfl) (by kernel_rfl) (by kernel_rfl) (fun _ _ _ h => h) rfl hHeld ?ya13 ?ra13
          case ya13 => (intro wz hz; go_simp; first | done | with_reducible rfl)
          try simp only [Act.put, List.setIfInBounds_toArray, List.set_cons_zero, List.set_cons_succ]
          refine take_op (i := 14) (v := ?va14) rfl (by kernel_rfl) (by kernel_rfl) (by kernel_rfl) (fun _ _ _ h => h) rfl hHeld ?ya14 ?ra14
          case ya14 => (intro wz hz; have hcz := CB.out wz hz.1; go_simp; first | done | with_reducible rfl)
          try simp only [Act.put, List.setIfInBounds_toArray, List.set_cons_zero, List.set_cons_succ]
          refine take_one (i := 15) rfl (by kernel_rfl) rfl (fun K hK => ?_)
          go_simp
          refine Calls.mono HX.out ?_
          rintro e w8 ⟨rfl, hbk8, hf8⟩
          have h8 : threeAt w w8 (fun c => bookN acts c (k + 1)) := (HST.out w8 (q, strOf l) (bookAt.grow hbk8 (fun _ h => h) (fun j hj => hbk8.2.1 j hj)) ⟨hf8.os, hf8.tape, hf8.output, hf8.size, hf8.block⟩).congr (fun c hc => by
            rw [bookN, HE.out.1, ← HE.out.2]
            by_cases e : c = b
            · subst e; simp
            · rw [if_neg e, if_neg (fun h => e h.symm)])
          have H8 : Hid (threeAt w w8 (fun c => bookN acts c (k + 1))) := (show threeAt w w8 (fun c => bookN acts c (k + 1)) from h8)
          refine hK.out _ _ ⟨h8.choose_spec.2.2.2.2, h8.choose_spec.2.2.2.1.cell hk3⟩ (fun hHeld => ?_)
          clear hK K h8
          try simp only [Act.put, List.setIfInBounds_toArray, List.set_cons_zero, List.set_cons_succ]
          refine wpAnyH_done (by kernel_rfl) ?_ _
          refine NoPanic.normal ?_
          clear hHeld hbk8 hf8 HX HST CS CB
          go_wp2
          go_light
          exact ⟨⟨k + 1, by omega, by go_num, H8.out⟩, by simp [intOf]; omega⟩
        · obtain rfl : k = n := by omega
          have p1 : ¬ (k : Int) < (k : Int) := by omega
          have hbw : Below w.heap.size w wr := hthr.choose_spec.2.2.2.2
          have hbooks : isBooks wr (.slice (some ⟨w.heap.size + 1 + 1 + 1, 0, none⟩) 3 3) 3 (fun b => bookN acts b k) := by
            obtain ⟨F, h1, h2, h3, h4, h5⟩ := hthr
            refine Or.inr ⟨w.heap.size + 3, 0, 3, fun b => .pointer (some ⟨w.heap.size + b, 0, none⟩), rfl, h4.lt, by unfold maxLen; omega, fun i hi => ⟨by rw [Nat.zero_add]; exact h4.cell hi, Or.inr ⟨w.heap.size + i, F i, 0, rfl, h1 i hi⟩⟩⟩
          have hlen3 : (joinF (fun b => bookN acts b k) 0 3).length < 1000000 := by
            simp only [joinF, List.append_nil, List.length_append]
            have := bookN_len acts 0 k
            have := bookN_len acts (0 + 1) k
            have := bookN_len acts (0 + 1 + 1) k
            omega
          have X := clash_any 3 _ _ wr hbooks hlen3 (fun i _ x hx => by
            obtain ⟨j, hj, _, rfl⟩ := (bookN_mem acts i k x).1 hx
            have := HSZ.out j hj
            show (strOf (acts j).bytes).size ≤ 1000000000
            rw [strOf_size]; omega)
          have HBW : Hid (Below w.heap.size w wr) := (show Below w.heap.size w wr from hbw)
          clear hthr hbooks hlen3 hbw HT
          go_wp2_with fail
          refine X.mono ?_
          rintro e w5 ⟨va, vb, fb, rfl, hans, b5⟩
          have B5 : Below w.heap.size w w5 := HBW.out.trans (b5.mono HBW.out.size)
          clear X b5
          -- what it comes to
          have hbyte : ∀ i, i < k → ∀ j, 0 ≤ (acts i).bytes.getD j 0 ∧ (acts i).bytes.getD j 0 ≤ 255 := fun i hi => by
            obtain ⟨_, _, _, _, _, _, _, _, hb, _⟩ := HA.out i hi
            exact hb.byte
          obtain ⟨A, B, hva, hvb, hno, hyes⟩ : ∃ A B : List Int, anyBytes w5 va A ∧ anyBytes w5 vb B ∧ (fb = false → ∀ i j, i < k → j < k → (acts i).sum = (acts j).sum → (acts i).bytes = (acts j).bytes) ∧ (fb = true → A ≠ B ∧ ∃ i j, j < i ∧ i < k ∧ (acts i).sum = (acts j).sum ∧ (acts i).bytes ≠ (acts j).bytes ∧ bothB (acts i).bytes (acts j).bytes A B) := by
            cases hR : clashGo [] (joinF (fun b => bookN acts b k) 0 3) with
            | none =>
              rw [hR] at hans
              obtain ⟨rfl, rfl, rfl⟩ := hans
              refine ⟨[], [], Or.inl (Or.inl ⟨rfl, rfl⟩), Or.inl (Or.inl ⟨rfl, rfl⟩), fun _ i j hi hj e => ?_, fun h => by cases h⟩
              have := clashGo_none _ [] (fun x y hx => by simp at hx) hR (noteOf (acts i)) (noteOf (acts j)) (Or.inr ((three_mem acts k _).2 ⟨i, hi, rfl⟩)) (Or.inr ((three_mem acts k _).2 ⟨j, hj, rfl⟩)) e
              exact strOf_inj (hbyte i hi) (hbyte j hj) (Prod.mk.inj this).2
            | some st =>
              obtain ⟨s, t⟩ := st
              rw [hR] at hans
              obtain ⟨ia, ib, _, _, rfl⟩ := hans
              obtain ⟨hst, q, h1, h2⟩ := clashGo_some _ [] s t hR
              obtain ⟨i, hi, e1⟩ := (three_mem acts k _).1 (h1.resolve_left (by simp))
              obtain ⟨j, hj, e2⟩ := (three_mem acts k _).1 (h2.resolve_left (by simp))
              obtain ⟨e1a, e1b⟩ := Prod.mk.inj e1
              obtain ⟨e2a, e2b⟩ := Prod.mk.inj e2
              have es : sBytes s = (acts i).bytes := strOf_inj (sBytes_byte s) (hbyte i hi) (by rw [strOf_sBytes]; exact e1b)
              have et : sBytes t = (acts j).bytes := strOf_inj (sBytes_byte t) (hbyte j hj) (by rw [strOf_sBytes]; exact e2b)
              have hne : sBytes s ≠ sBytes t := fun h => hst (by rw [← strOf_sBytes s, ← strOf_sBytes t, h])
              refine ⟨sBytes s, sBytes t, Or.inl ia, Or.inl ib, (fun h => by cases h), fun _ => ⟨hne, ?_⟩⟩
              rcases Nat.lt_trichotomy j i with h | h | h
              · exact ⟨i, j, h, hi, by rw [← e1a, ← e2a], by rw [← es, ← et]; exact hne, Or.inl ⟨es.symm, et.symm⟩⟩
              · subst h; exact absurd (es.trans et.symm) hne
              · exact ⟨j, i, h, hj, by rw [← e1a, ← e2a], by rw [← es, ← et]; exact hne.symm, Or.inr ⟨et.symm, es.symm⟩⟩
          obtain ⟨xa, xc, rfl, _⟩ := hva.slice
          obtain ⟨ya, yc, rfl, _⟩ := hvb.slice
          have HVA : Hid (anyBytes w5 (.slice xa A.length xc) A) := (show anyBytes w5 (.slice xa A.length xc) A from hva)
          have HVB : Hid (anyBytes w5 (.slice ya B.length yc) B) := (show anyBytes w5 (.slice ya B.length yc) B from hvb)
          have HNO : Hid (fb = false → ∀ i j, i < k → j < k → (acts i).sum = (acts j).sum → (acts i).bytes = (acts j).bytes) := (show fb = false → ∀ i j, i < k → j < k → (acts i).sum = (acts j).sum → (acts i).bytes = (acts j).bytes from hno)
          have HYES : Hid (fb = true → A ≠ B ∧ ∃ i j, j < i ∧ i < k ∧ (acts i).sum = (acts j).sum ∧ (acts i).bytes ≠ (acts j).bytes ∧ bothB (acts i).bytes (acts j).bytes A B) := (show fb = true → A ≠ B ∧ ∃ i j, j < i ∧ i < k ∧ (acts i).sum = (acts j).sum ∧ (acts i).bytes ≠ (acts j).bytes ∧ bothB (acts i).bytes (acts j).bytes A B from hyes)
          have H5 : Hid (Below w.heap.size w w5) := (show Below w.heap.size w w5 from B5)
          have cva := convA w5 _ _ hva
          have cvb := convA w5 _ _ hvb
          have hdiff : fb = true → ((strOf A).toList == (strOf B).toList) = false := fun h => by
            rw [str_beq]
            exact decide_eq_false fun e => (hyes h).1 (strOf_inj hva.byte hvb.byte e)
          clear hva hvb hno hyes hans hbyte B5 HBW HSZ HH
          go_upto_region 9 with fail
          go_cut [60] (fun c wx => c = .bool false ∧ wx = w5)
          case first =>
            cases fb with
            | true =>
              have hd := hdiff rfl
              clear hdiff
              go_wp2_with fail
              go_meet
              case rel => exact ⟨rfl, rfl⟩
            | false =>
              clear hdiff
              go_wp2_with fail
              go_meet
              case rel => exact ⟨rfl, rfl⟩
          case rest =>
            obtain ⟨rfl, hw⟩ := hcut
            obtain rfl := hw.symm
            clear hw cva cvb hdiff
            have HBB : Hid (∀ wz, Below w5.heap.size w5 wz → Below w.heap.size w wz) := (show ∀ wz, Below w5.heap.size w5 wz → Below w.heap.size w wz from fun wz hz => H5.out.trans (hz.mono H5.out.size))
            go_wp2
            go_loopw [8] (fun i wq => ∃ m : Nat, m ≤ k ∧ i = .int .i64 m ∧ (∀ i j, i < m → j < i → ¬ hit acts A B i j) ∧ Below w5.heap.size w5 wq) (fun i _ => k - (intOf i).toNat)
            case atStart => exact ⟨0, by omega, rfl, fun i j hi => by omega, Below.refl _ _⟩
            case round =>
              obtain ⟨m, hm2, rfl, hnh, hbq⟩ := hrel
              have HNH : Hid (∀ i j, i < m → j < i → ¬ hit acts A B i j) := (show ∀ i j, i < m → j < i → ¬ hit acts A B i j from hnh)
              have HBQ : Hid (Below w5.heap.size w5 wr) := (show Below w5.heap.size w5 wr from hbq)
              have p4 : (0 : Int) ≤ (m : Int) := by omega
              clear hnh hbq
              by_cases hltm : m < k
              · have p5 : (m : Int) < (k : Int) := by omega
                go_wp2
                go_loopw [9] (fun i wq => ∃ r : Nat, r ≤ m ∧ i = .int .i64 r ∧ (∀ j, j < r → ¬ hit acts A B m j) ∧ Below w5.heap.size w5 wq) (fun i _ => m - (intOf i).toNat)
                case atStart => exact ⟨0, by omega, rfl, fun j hj => by omega, HBQ.out⟩
                case round =>
                  obtain ⟨r, hr2, rfl, hnr, hbr⟩ := hrel
                  clear HBQ
                  have HNR : Hid (∀ j, j < r → ¬ hit acts A B m j) := (show ∀ j, j < r → ¬ hit acts A B m j from hnr)
                  have HBR : Hid (Below w5.heap.size w5 wr) := (show Below w5.heap.size w5 wr from hbr)
                  have p6 : (0 : Int) ≤ (r : Int) := by omega
                  clear hnr hbr
                  by_cases hltr : r < m
                  · have p7 : (r : Int) < (m : Int) := by omega
                    have p8 : (r : Int) < (k : Int) := by omega
                    obtain ⟨qb, qo, rfl, hqb, pv, bv, hcell, _, hbv, hsum⟩ := HA.out m hltm
                    obtain ⟨qb', qo', he, hqb', pv', bv', hcell', _, hbv', hsum'⟩ := HA.out r (by omega)
                    have he1 : qb = qb' ∧ qo = qo' := by simpa using he
                    obtain ⟨rfl, rfl⟩ := he1
                    obtain ⟨ba, bc, rfl, _⟩ := hbv.slice
                    obtain ⟨ba', bc', rfl, _⟩ := hbv'.slice
                    have CS : Hid (∀ wz, Below w5.heap.size w5 wz → ∀ i, i < 32 → wz.cell? ⟨qb, qo + m * 36 + 3 + i, none⟩ = some (arrV (acts m).sum i)) := (show ∀ wz, Below w5.heap.size w5 wz → ∀ i, i < 32 → wz.cell? ⟨qb, qo + m * 36 + 3 + i, none⟩ = some (arrV (acts m).sum i) from fun wz hz => act_sum hqb hcell (HBB.out wz hz))
                    have CS' : Hid (∀ wz, Below w5.heap.size w5 wz → ∀ i, i < 32 → wz.cell? ⟨qb, qo + r * 36 + 3 + i, none⟩ = some (arrV (acts r).sum i)) := (show ∀ wz, Below w5.heap.size w5 wz → ∀ i, i < 32 → wz.cell? ⟨qb, qo + r * 36 + 3 + i, none⟩ = some (arrV (acts r).sum i) from fun wz hz => act_sum hqb hcell' (HBB.out wz hz))
                    have CB : Hid (∀ wz, Below w5.heap.size w5 wz → wz.cell? ⟨qb, qo + m * 36 + 35, none⟩ = some (.slice ba (acts m).bytes.length bc)) := (show ∀ wz, Below w5.heap.size w5 wz → wz.cell? ⟨qb, qo + m * 36 + 35, none⟩ = some (.slice ba (acts m).bytes.length bc) from fun wz hz => act_bytes hqb hcell (HBB.out wz hz))
                    have CB' : Hid (∀ wz, Below w5.heap.size w5 wz → wz.cell? ⟨qb, qo + r * 36 + 35, none⟩ = some (.slice ba' (acts r).bytes.length bc')) := (show ∀ wz, Below w5.heap.size w5 wz → wz.cell? ⟨qb, qo + r * 36 + 35, none⟩ = some (.slice ba' (acts r).bytes.length bc') from fun wz hz => act_bytes hqb hcell' (HBB.out wz hz))
                    have CV : Hid (∀ wz, Below w5.heap.size w5 wz → (convert 36 9 (.slice ba (acts m).bytes.length bc)).run Tryd.prog wz = .ok (.string (strOf (acts m).bytes)) wz) := (show ∀ wz, Below w5.heap.size w5 wz → (convert 36 9 (.slice ba (acts m).bytes.length bc)).run Tryd.prog wz = .ok (.string (strOf (acts m).bytes)) wz from fun wz hz => convA wz _ _ (hbv.below (HBB.out wz hz) (Nat.le_refl _)))
                    have CV' : Hid (∀ wz, Below w5.heap.size w5 wz → (convert 36 9 (.slice ba' (acts r).bytes.length bc')).run Tryd.prog wz = .ok (.string (strOf (acts r).bytes)) wz) := (show ∀ wz, Below w5.heap.size w5 wz → (convert 36 9 (.slice ba' (acts r).bytes.length bc')).run Tryd.prog wz = .ok (.string (strOf (acts r).bytes)) wz from fun wz hz => convA wz _ _ (hbv'.below (HBB.out wz hz) (Nat.le_refl _)))
                    have ES : Hid (∀ wz : World, (Op.equalIn 10000 23 (.agg (rowV 32 (arrV (acts m).sum))) (.agg (rowV 32 (arrV (acts r).sum)))).run Tryd.prog wz = .ok (decide ((acts m).sum = (acts r).sum)) wz) := (show ∀ wz : World, (Op.equalIn 10000 23 (.agg (rowV 32 (arrV (acts m).sum))) (.agg (rowV 32 (arrV (acts r).sum)))).run Tryd.prog wz = .ok (decide ((acts m).sum = (acts r).sum)) wz from fun wz => run_eq_sums wz 9998 hsum hsum')
                    have EB : Hid (((strOf (acts m).bytes).toList == (strOf (acts r).bytes).toList) = true ↔ (acts m).bytes = (acts r).bytes) := (show ((strOf (acts m).bytes).toList == (strOf (acts r).bytes).toList) = true ↔ (acts m).bytes = (acts r).bytes from beq_bytes hbv hbv')
                    have BO : Hid (∀ wz, Below w5.heap.size w5 wz → Calls Tryd.prog 24 #[.slice ba (acts m).bytes.length bc, .slice ba' (acts r).bytes.length bc', .slice xa A.length xc, .slice ya B.length yc] wz fun e w' => bothPost wz (acts m).bytes (acts r).bytes A B e w') := (show ∀ wz, Below w5.heap.size w5 wz → Calls Tryd.prog 24 #[.slice ba (acts m).bytes.length bc, .slice ba' (acts r).bytes.length bc', .slice xa A.length xc, .slice ya B.length yc] wz fun e w' => bothPost wz (acts m).bytes (acts r).bytes A B e w' from fun wz hz =>
                      both_any _ _ _ _ _ _ _ _ wz (hbv.below (HBB.out wz hz) (Nat.le_refl _)) (hbv'.below (HBB.out wz hz) (Nat.le_refl _)) (HVA.out.below hz (Nat.le_refl _)) (HVB.out.below hz (Nat.le_refl _)))
                    clear hcell hcell' hbv hbv' hsum hsum' he
                    go_upto_region 17 with fail
                    go_cut [9, 97] from 67 to 97 (fun i c wx => i = .int .i64 (r : Int) ∧ c = .bool (!decide ((acts m).sum = (acts r).sum) || ((strOf (acts m).bytes).toList == (strOf (acts r).bytes).toList)) ∧ Below w5.heap.size w5 wx)
                    case first =>
                      refine wp_region_noPanic ?_
                      refine wp_region_held_drew (S := fun w' => Below w5.heap.size w5 w') (by kernel_rfl) (HBR.out.drew) (fun hHeld => ?_)
                      refine take_op (i := 0) (v := ?vm0) rfl (by kernel_rfl) (by kernel_rfl) (by kernel_rfl) (fun _ _ _ h => h) rfl hHeld ?ym0 ?rm0
                      case ym0 => (intro wz hz; go_simp; first | done | with_reducible rfl)
                      try simp only [Act.put, List.setIfInBounds_toArray, List.set_cons_zero, List.set_cons_succ]
                      refine take_op (i := 1) (v := ?vm1) rfl (by kernel_rfl) (by kernel_rfl) (by kernel_rfl) (fun _ _ _ h => h) rfl hHeld ?ym1 ?rm1
                      case ym1 => (intro wz hz; go_simp; first | done | with_reducible rfl)
                      try simp only [Act.put, List.setIfInBounds_toArray, List.set_cons_zero, List.set_cons_succ]
                      refine take_op (i := 2) (v := ?vm2) rfl (by kernel_rfl) (by kernel_rfl) (by kernel_rfl) (fun _ _ _ h => h) rfl hHeld ?ym2 ?rm2
                      case ym2 => (intro wz hz; go_simp; first | done | with_reducible rfl)
                      try simp only [Act.put, List.setIfInBounds_toArray, List.set_cons_zero, List.set_cons_succ]
                      refine take_op (i := 3) (v := ?vm3) rfl (by kernel_rfl) (by kernel_rfl) (by kernel_rfl) (fun _ _ _ h => h) rfl hHeld ?ym3 ?rm3
                      case ym3 => (intro wz hz; go_simp; first | done | with_reducible rfl)
                      try simp only [Act.put, List.setIfInBounds_toArray, List.set_cons_zero, List.set_cons_succ]
                      refine take_load (i := 4) rfl (by kernel_rfl) (by kernel_rfl) (by kernel_rfl) 23 _ rfl qb (qo + m * 36 + 3) 32 (arrV (acts m).sum) rfl _ Tryd.underlying23 rfl (by kernel_rfl) (fun _ _ _ h => h) rfl hHeld (fun wz hz => CS.out wz hz) ?_
                      try simp only [Act.put, List.setIfInBounds_toArray, List.set_cons_zero, List.set_cons_succ]
                      refine take_op (i := 5) (v := ?vm5) rfl (by kernel_rfl) (by kernel_rfl) (by kernel_rfl) (fun _ _ _ h => h) rfl hHeld ?ym5 ?rm5
                      case ym5 => (intro wz hz; go_simp; first | done | with_reducible rfl)
                      try simp only [Act.put, List.setIfInBounds_toArray, List.set_cons_zero, List.set_cons_succ]
                      refine take_op (i := 6) (v := ?vm6) rfl (by kernel_rfl) (by kernel_rfl) (by kernel_rfl) (fun _ _ _ h => h) rfl hHeld ?ym6 ?rm6
                      case ym6 => (intro wz hz; go_simp; first | done | with_reducible rfl)
                      try simp only [Act.put, List.setIfInBounds_toArray, List.set_cons_zero, List.set_cons_succ]
                      refine take_op (i := 7) (v := ?vm7) rfl (by kernel_rfl) (by kernel_rfl) (by kernel_rfl) (fun _ _ _ h => h) rfl hHeld ?ym7 ?rm7
                      case ym7 => (intro wz hz; go_simp; first | done | with_reducible rfl)
                      try simp only [Act.put, List.setIfInBounds_toArray, List.set_cons_zero, List.set_cons_succ]
                      refine take_op (i := 8) (v := ?vm8) rfl (by kernel_rfl) (by kernel_rfl) (by kernel_rfl) (fun _ _ _ h => h) rfl hHeld ?ym8 ?rm8
                      case ym8 => (intro wz hz; go_simp; first | done | with_reducible rfl)
                      try simp only [Act.put, List.setIfInBounds_toArray, List.set_cons_zero, List.set_cons_succ]
                      refine take_load (i := 9) rfl (by kernel_rfl) (by kernel_rfl) (by kernel_rfl) 23 _ rfl qb (qo + r * 36 + 3) 32 (arrV (acts r).sum) rfl _ Tryd.underlying23 rfl (by kernel_rfl) (fun _ _ _ h => h) rfl hHeld (fun wz hz => CS'.out wz hz) ?_
                      try simp only [Act.put, List.setIfInBounds_toArray, List.set_cons_zero, List.set_cons_succ]
                      refine take_op (i := 10) (v := ?vm10) rfl (by kernel_rfl) (by kernel_rfl) (by kernel_rfl) (fun _ _ _ h => h) rfl hHeld ?ym10 ?rm10
                      case ym10 => (intro wz hz; have hcz := ES.out wz; go_simp; first | done | with_reducible rfl)
                      try simp only [Act.put, List.setIfInBounds_toArray, List.set_cons_zero, List.set_cons_succ]
                      refine take_op (i := 11) (v := ?vm11) rfl (by kernel_rfl) (by kernel_rfl) (by kernel_rfl) (fun _ _ _ h => h) rfl hHeld ?ym11 ?rm11
                      case ym11 => (intro wz hz; go_simp; first | done | with_reducible rfl)
                      try simp only [Act.put, List.setIfInBounds_toArray, List.set_cons_zero, List.set_cons_succ]
                      by_cases hes : (acts m).sum = (acts r).sum
                      · have hd : decide ((acts m).sum = (acts r).sum) = true := decide_eq_true hes
                        rw [hd]
                        clear hd
                        refine take_op (i := 12) (v := ?vn12) rfl (by kernel_rfl) (by kernel_rfl) (by kernel_rfl) (fun _ _ _ h => h) rfl hHeld ?yn12 ?rn12
                        case yn12 => (intro wz hz; go_simp; first | done | with_reducible rfl)
                        try simp only [Act.put, List.setIfInBounds_toArray, List.set_cons_zero, List.set_cons_succ]
                        refine take_op (i := 13) (v := ?vn13) rfl (by kernel_rfl) (by kernel_rfl) (by kernel_rfl) (fun _ _ _ h => h) rfl hHeld ?yn13 ?rn13
                        case yn13 => (intro wz hz; go_simp; first | done | with_reducible rfl)
                        try simp only [Act.put, List.setIfInBounds_toArray, List.set_cons_zero, List.set_cons_succ]
                        refine take_op (i := 14) (v := ?vn14) rfl (by kernel_rfl) (by kernel_rfl) (by kernel_rfl) (fun _ _ _ h => h) rfl hHeld ?yn14 ?rn14
                        case yn14 => (intro wz hz; go_simp; first | done | with_reducible rfl)
                        try simp only [Act.put, List.setIfInBounds_toArray, List.set_cons_zero, List.set_cons_succ]
                        refine take_op (i := 15) (v := ?vn15) rfl (by kernel_rfl) (by kernel_rfl) (by kernel_rfl) (fun _ _ _ h => h) rfl hHeld ?yn15 ?rn15
                        case yn15 => (intro wz hz; go_simp; first | done | with_reducible rfl)
                        try simp only [Act.put, List.setIfInBounds_toArray, List.set_cons_zero, List.set_cons_succ]
                        refine take_op (i := 16) (v := ?vn16) rfl (by kernel_rfl) (by kernel_rfl) (by kernel_rfl) (fun _ _ _ h => h) rfl hHeld ?yn16 ?rn16
                        case yn16 => (intro wz hz; have hcz := CB.out wz hz; go_simp; first | done | with_reducible rfl)
                        try simp only [Act.put, List.setIfInBounds_toArray, List.set_cons_zero, List.set_cons_succ]
                        refine take_op (i := 17) (v := ?vn17) rfl (by kernel_rfl) (by kernel_rfl) (by kernel_rfl) (fun _ _ _ h => h) rfl hHeld ?yn17 ?rn17
                        case yn17 => (intro wz hz; have hcz := CV.out wz hz; go_simp; first | done | with_reducible rfl)
                        try simp only [Act.put, List.setIfInBounds_toArray, List.set_cons_zero, List.set_cons_succ]
                        refine take_op (i := 18) (v := ?vn18) rfl (by kernel_rfl) (by kernel_rfl) (by kernel_rfl) (fun _ _ _ h => h) rfl hHeld ?yn18 ?rn18
                        case yn18 => (intro wz hz; go_simp; first | done | with_reducible rfl)
                        try simp only [Act.put, List.setIfInBounds_toArray, List.set_cons_zero, List.set_cons_succ]
                        refine take_op (i := 19) (v := ?vn19) rfl (by kernel_rfl) (by kernel_rfl) (by kernel_rfl) (fun _ _ _ h => h) rfl hHeld ?yn19 ?rn19
                        case yn19 => (intro wz hz; go_simp; first | done | with_reducible rfl)
                        try simp only [Act.put, List.setIfInBounds_toArray, List.set_cons_zero, List.set_cons_succ]
                        refine take_op (i := 20) (v := ?vn20) rfl (by kernel_rfl) (by kernel_rfl) (by kernel_rfl) (fun _ _ _ h => h) rfl hHeld ?yn20 ?rn20
                        case yn20 => (intro wz hz; go_simp; first | done | with_reducible rfl)
                        try simp only [Act.put, List.setIfInBounds_toArray, List.set_cons_zero, List.set_cons_succ]
                        refine take_op (i := 21) (v := ?vn21) rfl (by kernel_rfl) (by kernel_rfl) (by kernel_rfl) (fun _ _ _ h => h) rfl hHeld ?yn21 ?rn21
                        case yn21 => (intro wz hz; go_simp; first | done | with_reducible rfl)
                        try simp only [Act.put, List.setIfInBounds_toArray, List.set_cons_zero, List.set_cons_succ]
                        refine take_op (i := 22) (v := ?vn22) rfl (by kernel_rfl) (by kernel_rfl) (by kernel_rfl) (fun _ _ _ h => h) rfl hHeld ?yn22 ?rn22
                        case yn22 => (intro wz hz; have hcz := CB'.out wz hz; go_simp; first | done | with_reducible rfl)
                        try simp only [Act.put, List.setIfInBounds_toArray, List.set_cons_zero, List.set_cons_succ]
                        refine take_op (i := 23) (v := ?vn23) rfl (by kernel_rfl) (by kernel_rfl) (by kernel_rfl) (fun _ _ _ h => h) rfl hHeld ?yn23 ?rn23
                        case yn23 => (intro wz hz; have hcz := CV'.out wz hz; go_simp; first | done | with_reducible rfl)
                        try simp only [Act.put, List.setIfInBounds_toArray, List.set_cons_zero, List.set_cons_succ]
                        refine take_op (i := 24) (v := ?vn24) rfl (by kernel_rfl) (by kernel_rfl) (by kernel_rfl) (fun _ _ _ h => h) rfl hHeld ?yn24 ?rn24
                        case yn24 => (intro wz hz; go_simp; first | done | with_reducible rfl)
                        try simp only [Act.put, List.setIfInBounds_toArray, List.set_cons_zero, List.set_cons_succ]
                        refine take_op (i := 25) (v := ?vn25) rfl (by kernel_rfl) (by kernel_rfl) (by kernel_rfl) (fun _ _ _ h => h) rfl hHeld ?yn25 ?rn25
                        case yn25 => (intro wz hz; go_simp; first | done | with_reducible rfl)
                        try simp only [Act.put, List.setIfInBounds_toArray, List.set_cons_zero, List.set_cons_succ]
                        refine wpAnyH_done (by kernel_rfl) ?_ _
                        refine NoPanic.normal ?_
                        have HB2 : Hid (Below w5.heap.size w5 _) := hHeld
                        clear hHeld
                        go_wp2_with fail
                        go_meet
                        case rel => exact ⟨rfl, by rw [decide_eq_true hes]; rfl, HB2.out⟩
                      · have hd : decide ((acts m).sum = (acts r).sum) = false := decide_eq_false hes
                        rw [hd]
                        clear hd
                        refine take_not (i := 12) rfl (by kernel_rfl) (by kernel_rfl) (by kernel_rfl) (fun _ _ _ h => h) rfl hHeld ?_
                        try simp only [Act.put, List.setIfInBounds_toArray, List.set_cons_zero, List.set_cons_succ]
                        refine take_not (i := 13) rfl (by kernel_rfl) (by kernel_rfl) (by kernel_rfl) (fun _ _ _ h => h) rfl hHeld ?_
                        try simp only [Act.put, List.setIfInBounds_toArray, List.set_cons_zero, List.set_cons_succ]
                        refine take_not (i := 14) rfl (by kernel_rfl) (by kernel_rfl) (by kernel_rfl) (fun _ _ _ h => h) rfl hHeld ?_
                        try simp only [Act.put, List.setIfInBounds_toArray, List.set_cons_zero, List.set_cons_succ]
                        refine take_not (i := 15) rfl (by kernel_rfl) (by kernel_rfl) (by kernel_rfl) (fun _ _ _ h => h) rfl hHeld ?_
                        try simp only [Act.put, List.setIfInBounds_toArray, List.set_cons_zero, List.set_cons_succ]
                        refine take_not (i := 16) rfl (by kernel_rfl) (by kernel_rfl) (by kernel_rfl) (fun _ _ _ h => h) rfl hHeld ?_
                        try simp only [Act.put, List.setIfInBounds_toArray, List.set_cons_zero, List.set_cons_succ]
                        refine take_not (i := 17) rfl (by kernel_rfl) (by kernel_rfl) (by kernel_rfl) (fun _ _ _ h => h) rfl hHeld ?_
                        try simp only [Act.put, List.setIfInBounds_toArray, List.set_cons_zero, List.set_cons_succ]
                        refine take_not (i := 18) rfl (by kernel_rfl) (by kernel_rfl) (by kernel_rfl) (fun _ _ _ h => h) rfl hHeld ?_
                        try simp only [Act.put, List.setIfInBounds_toArray, List.set_cons_zero, List.set_cons_succ]
                        refine take_not (i := 19) rfl (by kernel_rfl) (by kernel_rfl) (by kernel_rfl) (fun _ _ _ h => h) rfl hHeld ?_
                        try simp only [Act.put, List.setIfInBounds_toArray, List.set_cons_zero, List.set_cons_succ]
                        refine take_not (i := 20) rfl (by kernel_rfl) (by kernel_rfl) (by kernel_rfl) (fun _ _ _ h => h) rfl hHeld ?_
                        try simp only [Act.put, List.setIfInBounds_toArray, List.set_cons_zero, List.set_cons_succ]
                        refine take_not (i := 21) rfl (by kernel_rfl) (by kernel_rfl) (by kernel_rfl) (fun _ _ _ h => h) rfl hHeld ?_
                        try simp only [Act.put, List.setIfInBounds_toArray, List.set_cons_zero, List.set_cons_succ]
                        refine take_not (i := 22) rfl (by kernel_rfl) (by kernel_rfl) (by kernel_rfl) (fun _ _ _ h => h) rfl hHeld ?_
                        try simp only [Act.put, List.setIfInBounds_toArray, List.set_cons_zero, List.set_cons_succ]
                        refine take_not (i := 23) rfl (by kernel_rfl) (by kernel_rfl) (by kernel_rfl) (fun _ _ _ h => h) rfl hHeld ?_
                        try simp only [Act.put, List.setIfInBounds_toArray, List.set_cons_zero, List.set_cons_succ]
                        refine take_not (i := 24) rfl (by kernel_rfl) (by kernel_rfl) (by kernel_rfl) (fun _ _ _ h => h) rfl hHeld ?_
                        try simp only [Act.put, List.setIfInBounds_toArray, List.set_cons_zero, List.set_cons_succ]
                        refine take_op (i := 25) (v := ?vp25) rfl (by kernel_rfl) (by kernel_rfl) (by kernel_rfl) (fun _ _ _ h => h) rfl hHeld ?yp25 ?rp25
                        case yp25 => (intro wz hz; go_simp; first | done | with_reducible rfl)
                        try simp only [Act.put, List.setIfInBounds_toArray, List.set_cons_zero, List.set_cons_succ]
                        refine wpAnyH_done (by kernel_rfl) ?_ _
                        refine NoPanic.normal ?_
                        have HB2 : Hid (Below w5.heap.size w5 _) := hHeld
                        clear hHeld
                        go_wp2_with fail
                        go_meet
                        case rel => exact ⟨rfl, by rw [decide_eq_false hes]; rfl, HB2.out⟩
                    case rest =>
                      obtain ⟨rfl, rfl, hb2⟩ := hcut
                      have HB2 : Hid (Below w5.heap.size w5 wc) := (show Below w5.heap.size w5 wc from hb2)
                      clear hb2 CS CS' CV CV' ES HBR
                      by_cases hes : (acts m).sum = (acts r).sum
                      · by_cases heb : (acts m).bytes = (acts r).bytes
                        · have hb3 := EB.out.2 heb
                          have hd : decide ((acts m).sum = (acts r).sum) = true := decide_eq_true hes
                          have HNX : Hid (∀ j, j < r + 1 → ¬ hit acts A B m j) := (show ∀ j, j < r + 1 → ¬ hit acts A B m j from fun j hj hh => by
                            by_cases e : j = r
                            · subst e; exact hh.2.1 heb
                            · exact HNR.out j (by omega) hh)
                          rw [hb3, hd]
                          clear hb3 hd hes heb EB BO HNR
                          go_wp2
                          go_light
                          exact ⟨⟨r + 1, by omega, by go_num, HNX.out, HB2.out⟩, by simp [intOf]; omega⟩
                        · have hb3 : ((strOf (acts m).bytes).toList == (strOf (acts r).bytes).toList) = false := by
                            cases hx : ((strOf (acts m).bytes).toList == (strOf (acts r).bytes).toList) with
                            | false => rfl
                            | true => exact absurd (EB.out.1 hx) heb
                          have hd : decide ((acts m).sum = (acts r).sum) = true := decide_eq_true hes
                          have hft : fb = true := by
                            cases hfb : fb with
                            | true => rfl
                            | false => exact absurd (HNO.out hfb m r hltm (by omega) hes) heb
                          have HNX : Hid (¬ bothB (acts m).bytes (acts r).bytes A B → ∀ j, j < r + 1 → ¬ hit acts A B m j) := (show ¬ bothB (acts m).bytes (acts r).bytes A B → ∀ j, j < r + 1 → ¬ hit acts A B m j from fun hn j hj hh => by
                            by_cases e : j = r
                            · subst e; exact hn hh.2.2
                            · exact HNR.out j (by omega) hh)
                          rw [hb3, hd]
                          subst hft
                          clear hb3 hd hes heb EB HNR
                          go_upto_region 20 with fail
                          go_cut [9, 112] from 67 to 112 (fun i c wx => i = .int .i64 (r : Int) ∧ (∃ rb : Bool, c = .bool rb ∧ (rb = true ↔ bothB (acts m).bytes (acts r).bytes A B)) ∧ Below w5.heap.size w5 wx)
                          case first =>
                            refine wp_region_noPanic ?_
                            refine wp_region_held_drew (S := fun w' => Below w5.heap.size w5 w') (by kernel_rfl) (HB2.out.drew) (fun hHeld => ?_)
                            refine take_op (i := 0) (v := ?vq0) rfl (by kernel_rfl) (by kernel_rfl) (by kernel_rfl) (fun _ _ _ h => h) rfl hHeld ?yq0 ?rq0
                            case yq0 => (intro wz hz; go_simp; first | done | with_reducible rfl)
                            try simp only [Act.put, List.setIfInBounds_toArray, List.set_cons_zero, List.set_cons_succ]
                            refine take_op (i := 1) (v := ?vq1) rfl (by kernel_rfl) (by kernel_rfl) (by kernel_rfl) (fun _ _ _ h => h) rfl hHeld ?yq1 ?rq1
                            case yq1 => (intro wz hz; go_simp; first | done | with_reducible rfl)
                            try simp only [Act.put, List.setIfInBounds_toArray, List.set_cons_zero, List.set_cons_succ]
                            refine take_op (i := 2) (v := ?vq2) rfl (by kernel_rfl) (by kernel_rfl) (by kernel_rfl) (fun _ _ _ h => h) rfl hHeld ?yq2 ?rq2
                            case yq2 => (intro wz hz; go_simp; first | done | with_reducible rfl)
                            try simp only [Act.put, List.setIfInBounds_toArray, List.set_cons_zero, List.set_cons_succ]
                            refine take_op (i := 3) (v := ?vq3) rfl (by kernel_rfl) (by kernel_rfl) (by kernel_rfl) (fun _ _ _ h => h) rfl hHeld ?yq3 ?rq3
                            case yq3 => (intro wz hz; go_simp; first | done | with_reducible rfl)
                            try simp only [Act.put, List.setIfInBounds_toArray, List.set_cons_zero, List.set_cons_succ]
                            refine take_op (i := 4) (v := ?vq4) rfl (by kernel_rfl) (by kernel_rfl) (by kernel_rfl) (fun _ _ _ h => h) rfl hHeld ?yq4 ?rq4
                            case yq4 => (intro wz hz; have hcz := CB.out wz hz; go_simp; first | done | with_reducible rfl)
                            try simp only [Act.put, List.setIfInBounds_toArray, List.set_cons_zero, List.set_cons_succ]
                            refine take_op (i := 5) (v := ?vq5) rfl (by kernel_rfl) (by kernel_rfl) (by kernel_rfl) (fun _ _ _ h => h) rfl hHeld ?yq5 ?rq5
                            case yq5 => (intro wz hz; go_simp; first | done | with_reducible rfl)
                            try simp only [Act.put, List.setIfInBounds_toArray, List.set_cons_zero, List.set_cons_succ]
                            refine take_op (i := 6) (v := ?vq6) rfl (by kernel_rfl) (by kernel_rfl) (by kernel_rfl) (fun _ _ _ h => h) rfl hHeld ?yq6 ?rq6
                            case yq6 => (intro wz hz; go_simp; first | done | with_reducible rfl)
                            try simp only [Act.put, List.setIfInBounds_toArray, List.set_cons_zero, List.set_cons_succ]
                            refine take_op (i := 7) (v := ?vq7) rfl (by kernel_rfl) (by kernel_rfl) (by kernel_rfl) (fun _ _ _ h => h) rfl hHeld ?yq7 ?rq7
                            case yq7 => (intro wz hz; go_simp; first | done | with_reducible rfl)
                            try simp only [Act.put, List.setIfInBounds_toArray, List.set_cons_zero, List.set_cons_succ]
                            refine take_op (i := 8) (v := ?vq8) rfl (by kernel_rfl) (by kernel_rfl) (by kernel_rfl) (fun _ _ _ h => h) rfl hHeld ?yq8 ?rq8
                            case yq8 => (intro wz hz; go_simp; first | done | with_reducible rfl)
                            try simp only [Act.put, List.setIfInBounds_toArray, List.set_cons_zero, List.set_cons_succ]
                            refine take_op (i := 9) (v := ?vq9) rfl (by kernel_rfl) (by kernel_rfl) (by kernel_rfl) (fun _ _ _ h => h) rfl hHeld ?yq9 ?rq9
                            case yq9 => (intro wz hz; have hcz := CB'.out wz hz; go_simp; first | done | with_reducible rfl)
                            try simp only [Act.put, List.setIfInBounds_toArray, List.set_cons_zero, List.set_cons_succ]
                            refine take_op (i := 10) (v := ?vq10) rfl (by kernel_rfl) (by kernel_rfl) (by kernel_rfl) (fun _ _ _ h => h) rfl hHeld ?yq10 ?rq10
                            case yq10 => (intro wz hz; go_simp; first | done | with_reducible rfl)
                            try simp only [Act.put, List.setIfInBounds_toArray, List.set_cons_zero, List.set_cons_succ]
                            refine take_op (i := 11) (v := ?vq11) rfl (by kernel_rfl) (by kernel_rfl) (by kernel_rfl) (fun _ _ _ h => h) rfl hHeld ?yq11 ?rq11
                            case yq11 => (intro wz hz; go_simp; first | done | with_reducible rfl)
                            try simp only [Act.put, List.setIfInBounds_toArray, List.set_cons_zero, List.set_cons_succ]
                            refine take_one (i := 12) rfl (by kernel_rfl) rfl (fun K hK => ?_)
                            go_simp
                            refine Calls.mono (BO.out _ hHeld) ?_
                            rintro e w8 ⟨rb, rfl, hrb, hw8⟩
                            obtain rfl := hw8.symm
                            refine hK.out _ _ hHeld (fun hHeld => ?_)
                            clear hK K hw8
                            try simp only [Act.put, List.setIfInBounds_toArray, List.set_cons_zero, List.set_cons_succ]
                            refine wpAnyH_done (by kernel_rfl) ?_ _
                            refine NoPanic.normal ?_
                            have HB3 : Hid (Below w5.heap.size w5 _) := hHeld
                            have HRB : Hid (rb = true ↔ bothB (acts m).bytes (acts r).bytes A B) := (show rb = true ↔ bothB (acts m).bytes (acts r).bytes A B from hrb)
                            clear hHeld hrb
                            go_wp2_with fail
                            go_meet
                            case rel => exact ⟨rfl, ⟨_, rfl, HRB.out⟩, HB3.out⟩
                          case rest =>
                            obtain ⟨rfl, ⟨rb, rfl, hrb⟩, hb4⟩ := hcut
                            have HB4 : Hid (Below w5.heap.size w5 wc) := (show Below w5.heap.size w5 wc from hb4)
                            clear hb4 CB CB' BO
                            cases rb with
                            | true =>
                              clear hrb HNX
                              go_wp2_with fail
                              refine (AW.out _ (HBB.out _ HB4.out)).mono ?_
                              rintro e w9 ⟨rfl, hb9⟩
                              have HB9 : Hid (Below w.heap.size w w9) := (show Below w.heap.size w w9 from (HBB.out _ HB4.out).trans (hb9.mono (HBB.out _ HB4.out).size))
                              clear hb9
                              go_wp2
                              go_ret
                              exact ⟨rfl, HB9.out⟩
                            | false =>
                              have HNY : Hid (∀ j, j < r + 1 → ¬ hit acts A B m j) := (show ∀ j, j < r + 1 → ¬ hit acts A B m j from HNX.out (fun h => by have := hrb.2 h; cases this))
                              clear hrb HNX
                              go_wp2
                              go_light
                              exact ⟨⟨r + 1, by omega, by go_num, HNY.out, HB4.out⟩, by simp [intOf]; omega⟩
                      · have hd : decide ((acts m).sum = (acts r).sum) = false := decide_eq_false hes
                        have HNX : Hid (∀ j, j < r + 1 → ¬ hit acts A B m j) := (show ∀ j, j < r + 1 → ¬ hit acts A B m j from fun j hj hh => by
                          by_cases e : j = r
                          · subst e; exact hes hh.1
                          · exact HNR.out j (by omega) hh)
                        rw [hd]
                        simp only [Bool.not_false, Bool.true_or]
                        clear hd hes EB BO HNR
                        go_wp2
                        go_light
                        exact ⟨⟨r + 1, by omega, by go_num, HNX.out, HB2.out⟩, by simp [intOf]; omega⟩
                  · obtain rfl : r = m := by omega
                    have p7 : ¬ (r : Int) < (r : Int) := by omega
                    have HNX : Hid (∀ i j, i < r + 1 → j < i → ¬ hit acts A B i j) := (show ∀ i j, i < r + 1 → j < i → ¬ hit acts A B i j from fun i j hi hj hh => by
                      by_cases e : i = r
                      · subst e; exact HNR.out j hj hh
                      · exact HNH.out i j (by omega) hj hh)
                    clear HNR HNH
                    go_wp2
                    go_light
                    exact ⟨⟨r + 1, by omega, by go_num, HNX.out, HBR.out⟩, by simp [intOf]; omega⟩
              · obtain rfl : m = k := by omega
                have p5 : ¬ (m : Int) < (m : Int) := by omega
                have hff : fb = false := by
                  cases hfb : fb with
                  | false => rfl
                  | true =>
                    obtain ⟨_, i, j, h1, h2, h3, h4, h5⟩ := HYES.out hfb
                    exact absurd ⟨h3, h4, h5⟩ (HNH.out i j h2 h1)
                subst hff
                go_wp2_with fail
                refine (AW.out _ (HBB.out _ HBQ.out)).mono ?_
                rintro e w9 ⟨rfl, hb9⟩
                have HB9 : Hid (Below w.heap.size w w9) := (show Below w.heap.size w w9 from (HBB.out _ HBQ.out).trans (hb9.mono (HBB.out _ HBQ.out).size))
                clear hb9
                go_wp2
                go_ret
                exact ⟨rfl, HB9.out⟩
end Go.Proofs.YtcfbaijibghcaaaDoor
