import Derived.Test.YtnjjlmkmkphbeaaPackOnlyP
namespace Go.Proofs.Ytnjjlmkmkphbeaa
set_option linter.unusedSimpArgs false
open Go.RowKit Go.Deep

theorem only_more (n : Nat) (a : Option Addr) (c : Nat) (m : Int) (w : World) (h : 20000 < n) :
    Calls Try.prog 7 #[.slice a n c, .int .i64 m] w fun e w' => e = .returned (.bool true) ∧ Below w.heap.size w w' := by
  have q0 : (20000 : Int) < (n : Int) := by omega
  go_enter Try.func7, Try.ntmps7
  go_wp2_with fail
  refine (awake_any w).mono ?_
  rintro e w1 ⟨rfl, hb1⟩
  go_wp2
  go_ret
  exact ⟨rfl, hb1⟩
set_option maxHeartbeats 4000000 in
set_option maxRecDepth 100000 in
theorem only_some (l : List Int) (bv : Value) (most : Int) (hm1 : most ≤ 9223372036854775807) (w : World) (hbv : isBytes w bv l) (hl : l.length ≤ 20000) :
    Calls Try.prog 7 #[bv, .int .i64 most] w fun e w' => e = .returned (.bool true) ∧ Below w.heap.size w w' := by
  have q1 : (l.length : Int) ≤ 20000 := by omega
  obtain ⟨ba, bc, rfl, _⟩ := hbv.slice
  have HBV : Hid _ := hbv
  clear hbv
  go_enter Try.func7, Try.ntmps7
  go_wp2_with fail
  refine (from_any _ l w HBV.out (by omega)).mono ?_
  rintro e w1 ⟨c, rfl, hc1, hb1⟩
  have hs1 := hb1.size
  have C0 : Hid _ := hc1.in
  have HB1 : Hid _ := hb1
  have hby0 := hc1.byte
  clear hc1 hb1
  go_wp2
  go_loopw [6, 7] (fun v i wr => ∃ (xs q : List Int), xs.length ≤ l.length ∧ i = .int .i64 xs.length ∧ (∀ i, i < xs.length → 0 ≤ xs.getD i 0 ∧ xs.getD i 0 < 18446744073709551616) ∧ (xs.map numB).flatten ++ q = l ∧ owns wr w1.heap.size 39 v (xs.map (Value.int .u64)) ∧ cutIn wr w.heap.size w1.heap.size c q false ∧ Below w.heap.size w wr ∧ w1.heap.size ≤ wr.heap.size) (fun _ i _ => l.length + 1 - (intOf i).toNat)
  case atStart => exact ⟨[], l, by simp, rfl, fun i hi => by simp at hi, by simp, owns_nil _ _ _, C0.out, HB1.out, Nat.le_refl _⟩
  case round =>
    clear C0 HB1
    obtain ⟨xs, q, hxl, rfl, hxb, hflat, hown, hcut, hb, hw1⟩ := hrel
    have hge := flat_ge xs
    have hln : (xs.map numB).flatten.length + q.length = l.length := by rw [← hflat, List.length_append]
    have HF : Hid _ := hflat
    have O : Hid _ := hown
    have C : Hid _ := hcut
    have HB : Hid _ := hb
    have XB : Hid _ := hxb
    have hcge : w.heap.size ≤ c := by obtain ⟨_, _, _, h, _⟩ := hcut; exact h
    have hclt : c < w1.heap.size := by obtain ⟨_, _, _, _, h, _⟩ := hcut; exact h
    have hqb : ∀ i, 0 ≤ q.getD i 0 ∧ q.getD i 0 ≤ 255 := by obtain ⟨_, _, h, _⟩ := hcut; exact h.byte
    clear hflat hown hcut hb hxb
    by_cases hq : 0 < q.length
    · have b0 : (0 : Int) < (q.length : Int) := by omega
      have b1 : (xs.length : Int) ≤ (l.length : Int) := by omega
      have X := cnum_in c w.heap.size w1.heap.size q false 18446744073709551615 (by omega) wr C.out
      cases hn : numOf q 18446744073709551615 with
      | none =>
        have HR : numR q false 18446744073709551615 = (0, q, true) := by unfold numR; rw [hn]; rfl
        rw [HR] at X
        clear HR hn
        go_wp2_with fail
        refine (left_any c w.heap.size q false wr (cutIn.of C.out)).mono ?_
        rintro e w' ⟨rfl, hw⟩
        obtain rfl := hw.symm
        clear hw
        go_wp2_with fail
        refine X.mono ?_
        rintro e w9 ⟨rfl, hc9, hb9⟩
        have O9 : owns w9 w1.heap.size 39 u6 (xs.map (Value.int .u64)) := owns.far O.out (fun k hk => by
          have := owns.block O.out k hk
          exact hb9.block k this.2 (by omega))
        have hB9 : Below w.heap.size w w9 := Below.trans HB.out (But.to_below hb9 hcge (by omega))
        clear O HB C X hb9
        have O : Hid _ := O9
        have HB : Hid _ := hB9
        have C : Hid _ := hc9
        clear O9 hB9 hc9 hw1
        obtain ⟨wo, hwo⟩ : ∃ wo, wo = wr := ⟨wr, rfl⟩
        go_wp2_with fail
        refine (err_of c w.heap.size q true w9 (cutIn.of C.out)).mono ?_
        rintro e w' ⟨rfl, hw⟩
        obtain rfl := hw.symm
        clear hw
        rw [errI_true]
        clear hwo
        clear wo
        generalize w9 = wr at *
        have hfl : (xs.map numB).flatten.length + q.length = l.length := by rw [← HF.out, List.length_append]
        have htk : (xs.map numB).flatten = l.take (l.length - q.length) := by rw [← HF.out, List.take_append_of_le_length (by rw [List.length_append]; omega), List.take_of_length_le (by rw [List.length_append]; omega)]
        clear hq
        have q2 : (q.length : Int) ≤ (l.length : Int) := by omega
        obtain ⟨T, hT⟩ : ∃ T, T = l.length - q.length := ⟨_, rfl⟩
        have hTi : (l.length : Int) - (q.length : Int) = (T : Int) := by omega
        have hTl : T ≤ l.length := by omega
        rw [← hT] at htk
        obtain ⟨u, hsl, hslb⟩ := slice_bytes_to (.slice ba l.length bc) l T wr (isBytes.below HBV.out HB.out (Nat.le_refl _)) hTl
        have HSB : Hid _ := hslb
        have HTK : Hid _ := htk
        clear hslb htk hfl hT
        go_wp2_with fail
        refine (left_any c w.heap.size q true _ (cutIn.of C.out)).mono ?_
        rintro e w' ⟨rfl, hw⟩
        obtain rfl := hw.symm
        clear hw C
        go_wp2
        refine wp_region_noPanic ?_
        refine wp_region_held_drew (S := fun w' => isBytes w' (.slice ba l.length bc) l ∧ Below w.heap.size w w') (by kernel_rfl) ⟨isBytes.below HBV.out HB.out.drew (Nat.le_refl _), HB.out.drew⟩ (fun hHeld => ?_)
        refine take_op (i := 0) (v := ?vbk0) rfl (by kernel_rfl) (by kernel_rfl) (by kernel_rfl) (fun _ _ _ h => h) rfl hHeld ?ybk0 ?rbk0
        case ybk0 => (intro wz hz; go_simp; first | done | with_reducible rfl)
        try simp only [Act.put, List.setIfInBounds_toArray, List.set_cons_zero, List.set_cons_succ]
        refine take_op (i := 1) (v := ?vbk1) rfl (by kernel_rfl) (by kernel_rfl) (by kernel_rfl) (fun _ _ _ h => h) rfl hHeld ?ybk1 ?rbk1
        case ybk1 => (intro wz hz; go_simp; first | done | with_reducible rfl)
        try simp only [Act.put, List.setIfInBounds_toArray, List.set_cons_zero, List.set_cons_succ]
        refine take_op (i := 2) (v := ?vbk2) rfl (by kernel_rfl) (by kernel_rfl) (by kernel_rfl) (fun _ _ _ h => h) rfl hHeld ?ybk2 ?rbk2
        case ybk2 => (intro wz hz; go_simp; first | done | with_reducible rfl)
        try simp only [Act.put, List.setIfInBounds_toArray, List.set_cons_zero, List.set_cons_succ]
        refine take_op (i := 3) (v := ?vbk3) rfl (by kernel_rfl) (by kernel_rfl) (by kernel_rfl) (fun _ _ _ h => h) rfl hHeld ?ybk3 ?rbk3
        case ybk3 => (intro wz hz; go_simp; first | done | with_reducible rfl)
        try simp only [Act.put, List.setIfInBounds_toArray, List.set_cons_zero, List.set_cons_succ]
        refine take_op (i := 6) (v := ?vbk6) rfl (by kernel_rfl) (by kernel_rfl) (by kernel_rfl) (fun _ _ _ h => h) rfl hHeld ?ybk6 ?rbk6
        case ybk6 => (intro wz hz; go_simp; first | done | with_reducible rfl)
        try simp only [Act.put, List.setIfInBounds_toArray, List.set_cons_zero, List.set_cons_succ]
        refine take_op (i := 7) (v := ?vbk7) rfl (by kernel_rfl) (by kernel_rfl) (by kernel_rfl) (fun _ _ _ h => h) rfl hHeld ?ybk7 ?rbk7
        case ybk7 => (intro wz hz; go_simp; first | done | with_reducible rfl)
        try simp only [Act.put, List.setIfInBounds_toArray, List.set_cons_zero, List.set_cons_succ]
        refine take_op (i := 8) (v := ?vbk8) rfl (by kernel_rfl) (by kernel_rfl) (by kernel_rfl) (fun _ _ _ h => h) rfl hHeld ?ybk8 ?rbk8
        case ybk8 => (intro wz hz; go_simp; first | done | with_reducible rfl)
        try simp only [Act.put, List.setIfInBounds_toArray, List.set_cons_zero, List.set_cons_succ]
        refine take_op (i := 9) (v := ?vbk9) rfl (by kernel_rfl) (by kernel_rfl) (by kernel_rfl) (fun _ _ _ h => h) rfl hHeld ?ybk9 ?rbk9
        case ybk9 => (intro wz hz; have hcv := conv8 wz u _ (HSB.out wz hz.1); go_simp; first | done | with_reducible rfl)
        try simp only [Act.put, List.setIfInBounds_toArray, List.set_cons_zero, List.set_cons_succ]
        refine take_one (i := 4) rfl (by kernel_rfl) rfl (fun K hK => ?_)
        go_simp
        refine (num_any [] (.slice none 0 0) _ xs.length (fun i => xs.getD i 0) wr.drew (isBytes_nil _) (owns_isRow (owns.drew O.out)) (fun i hi => XB.out i hi) (by simp; omega)).mono ?_
        rintro e w2 ⟨v2, rfl, hn2, hb2⟩
        rw [List.nil_append, flat_nums', HTK.out] at hn2
        refine hK.out _ _ ⟨hHeld.1.below hb2 (Nat.le_refl _), hHeld.2.trans (hb2.mono hHeld.2.size)⟩ (fun hHeld => ?_)
        clear hK K
        try simp only [Act.put, List.setIfInBounds_toArray, List.set_cons_zero, List.set_cons_succ]
        refine wpAnyH_stronger (S' := fun w' => isBytes w' v2 (l.take T) ∧ isBytes w' (.slice ba l.length bc) l ∧ Below w.heap.size w w') (fun _ h => ⟨h.2.1, h.2.2⟩) _ _ _ _ ?_
        have hHeld : isBytes w2 v2 (l.take T) ∧ isBytes w2 (.slice ba l.length bc) l ∧ Below w.heap.size w w2 := ⟨hn2.is, hHeld.1, hHeld.2⟩
        refine take_op (i := 5) (v := ?vbk5) rfl (by kernel_rfl) (by kernel_rfl) (by kernel_rfl) (fun _ _ _ h => h) rfl hHeld ?ybk5 ?rbk5
        case ybk5 => (intro wz hz; have hcv := conv8 wz v2 _ hz.1; go_simp; first | done | with_reducible rfl)
        try simp only [Act.put, List.setIfInBounds_toArray, List.set_cons_zero, List.set_cons_succ]
        refine take_op (i := 10) (v := ?vbk10) rfl (by kernel_rfl) (by kernel_rfl) (by kernel_rfl) (fun _ _ _ h => h) rfl hHeld ?ybk10 ?rbk10
        case ybk10 => (intro wz hz; go_simp; first | done | with_reducible rfl)
        try simp only [Act.put, List.setIfInBounds_toArray, List.set_cons_zero, List.set_cons_succ]
        refine take_op (i := 11) (v := ?vbk11) rfl (by kernel_rfl) (by kernel_rfl) (by kernel_rfl) (fun _ _ _ h => h) rfl hHeld ?ybk11 ?rbk11
        case ybk11 => (intro wz hz; go_simp; first | done | with_reducible rfl)
        try simp only [Act.put, List.setIfInBounds_toArray, List.set_cons_zero, List.set_cons_succ]
        refine wpAnyH_done (by kernel_rfl) ?_ _
        refine NoPanic.normal ?_
        have HB2 : Hid _ := hHeld.2.2
        have hs2 := hHeld.2.2.size
        clear hHeld hn2 hb2 O HF HTK hsl HSB HB
        go_wp2_with fail
        refine (from_any _ l w2 (isBytes.below HBV.out HB2.out (Nat.le_refl _)) (by omega)).mono ?_
        rintro e w3 ⟨d, rfl, hc3, hb3⟩
        have HB3 : Hid _ := Below.trans HB2.out (hb3.mono hs2)
        have hs3 := hb3.size
        have hby := hc3.byte
        have D3 : Hid _ := hc3
        have hd3 := hc3.ge
        clear hc3 hb3 HB2
        go_wp2_with fail
        refine (cblob_any d w2.heap.size l false most hm1 w3 D3.out (by omega)).mono ?_
        rintro e w4 ⟨v4, rfl, hn4, hc4, hb4⟩
        have hs4 := hb4.size
        have HB4 : Hid _ := Below.trans HB3.out (But.to_below hb4 (by omega) (by omega))
        have V4 : Hid _ := hn4.is
        obtain ⟨va4, vc4, rfl, hvm⟩ := hn4.is.slice
        unfold maxLen at hvm
        have hpl := partR_len l false most
        have hpl2 := partR_left l false most
        clear hn4 hb4 D3 HB3
        cases hf : (partR l false most).2.2 with
        | true =>
          obtain ⟨p1, p2⟩ := partR_fault hf
          rw [hf, p2] at hc4
          have D4 : Hid _ := hc4
          rw [p1] at *
          clear hc4 p1 p2 hf
          go_wp2_with fail
          refine (err_of d w2.heap.size l true w4 D4.out).mono ?_
          rintro e w' ⟨rfl, hw⟩
          obtain rfl := hw.symm
          clear hw
          rw [errI_true]
          simp only [List.length_nil]
          go_wp2_with fail
          refine (left_any d w2.heap.size l true w4 D4.out).mono ?_
          rintro e w' ⟨rfl, hw⟩
          obtain rfl := hw.symm
          clear hw
          go_wp2_with fail
          refine (awake_any w4).mono ?_
          rintro e w5 ⟨rfl, hb5⟩
          go_wp2
          go_ret
          exact ⟨rfl, Below.trans HB4.out (hb5.mono HB4.out.size)⟩
        | false =>
          obtain ⟨p1, p2⟩ := partR_blob hby hf
          rw [hf] at hc4
          have D4 : Hid _ := hc4
          have P1 : Hid _ := p1
          clear hc4 p1 hf
          generalize (partR l false most).1 = pp at *
          generalize (partR l false most).2.1 = rr at *
          have hlen : (blobB pp).length + rr.length = l.length := by rw [← P1.out, List.length_append]
          have htk : blobB pp = l.take (l.length - rr.length) := by rw [← P1.out, List.take_append_of_le_length (by rw [List.length_append]; omega), List.take_of_length_le (by rw [List.length_append]; omega)]
          obtain ⟨T2, hT2⟩ : ∃ T2, T2 = l.length - rr.length := ⟨_, rfl⟩
          have hT2i : (l.length : Int) - (rr.length : Int) = (T2 : Int) := by omega
          have hT2l : T2 ≤ l.length := by omega
          have r4 : (T2 : Int) ≤ (l.length : Int) := by omega
          rw [← hT2] at htk
          have HTK : Hid _ := htk
          have r5 : ((pp.length : Nat) : Int) ≤ most := p2
          have hbl := blobB_length pp
          obtain ⟨u2, hsl2, hslb2⟩ := slice_bytes_to (.slice ba l.length bc) l T2 w4 (isBytes.below HBV.out HB4.out (Nat.le_refl _)) hT2l
          have HSB : Hid _ := hslb2
          have hbl2 : (blobB pp).length ≤ 20000 := by omega
          clear hslb2 htk p2 hT2 hlen
          go_wp2_with fail
          refine (err_of d w2.heap.size rr false w4 D4.out).mono ?_
          rintro e w' ⟨rfl, hw⟩
          obtain rfl := hw.symm
          clear hw
          rw [errI_false]
          go_wp2_with fail
          refine (left_any d w2.heap.size rr false w4 D4.out).mono ?_
          rintro e w' ⟨rfl, hw⟩
          obtain rfl := hw.symm
          clear hw
          go_wp2
          refine wp_region_noPanic ?_
          refine wp_region_held_drew (S := fun w' => isBytes w' (.slice ba l.length bc) l ∧ Below w.heap.size w w' ∧ isBytes w' (.slice va4 pp.length vc4) pp) (by kernel_rfl) ⟨isBytes.below HBV.out HB4.out.drew (Nat.le_refl _), HB4.out.drew, V4.out⟩ (fun hHeld => ?_)
          refine take_op (i := 0) (v := ?vbm0) rfl (by kernel_rfl) (by kernel_rfl) (by kernel_rfl) (fun _ _ _ h => h) rfl hHeld ?ybm0 ?rbm0
          case ybm0 => (intro wz hz; go_simp; first | done | with_reducible rfl)
          try simp only [Act.put, List.setIfInBounds_toArray, List.set_cons_zero, List.set_cons_succ]
          refine take_op (i := 1) (v := ?vbm1) rfl (by kernel_rfl) (by kernel_rfl) (by kernel_rfl) (fun _ _ _ h => h) rfl hHeld ?ybm1 ?rbm1
          case ybm1 => (intro wz hz; go_simp; first | done | with_reducible rfl)
          try simp only [Act.put, List.setIfInBounds_toArray, List.set_cons_zero, List.set_cons_succ]
          refine take_op (i := 2) (v := ?vbm2) rfl (by kernel_rfl) (by kernel_rfl) (by kernel_rfl) (fun _ _ _ h => h) rfl hHeld ?ybm2 ?rbm2
          case ybm2 => (intro wz hz; go_simp; first | done | with_reducible rfl)
          try simp only [Act.put, List.setIfInBounds_toArray, List.set_cons_zero, List.set_cons_succ]
          refine take_op (i := 3) (v := ?vbm3) rfl (by kernel_rfl) (by kernel_rfl) (by kernel_rfl) (fun _ _ _ h => h) rfl hHeld ?ybm3 ?rbm3
          case ybm3 => (intro wz hz; go_simp; first | done | with_reducible rfl)
          try simp only [Act.put, List.setIfInBounds_toArray, List.set_cons_zero, List.set_cons_succ]
          refine take_op (i := 4) (v := ?vbm4) rfl (by kernel_rfl) (by kernel_rfl) (by kernel_rfl) (fun _ _ _ h => h) rfl hHeld ?ybm4 ?rbm4
          case ybm4 => (intro wz hz; go_simp; first | done | with_reducible rfl)
          try simp only [Act.put, List.setIfInBounds_toArray, List.set_cons_zero, List.set_cons_succ]
          refine take_op (i := 5) (v := ?vbm5) rfl (by kernel_rfl) (by kernel_rfl) (by kernel_rfl) (fun _ _ _ h => h) rfl hHeld ?ybm5 ?rbm5
          case ybm5 => (intro wz hz; go_simp; first | done | with_reducible rfl)
          try simp only [Act.put, List.setIfInBounds_toArray, List.set_cons_zero, List.set_cons_succ]
          refine take_op (i := 6) (v := ?vbm6) rfl (by kernel_rfl) (by kernel_rfl) (by kernel_rfl) (fun _ _ _ h => h) rfl hHeld ?ybm6 ?rbm6
          case ybm6 => (intro wz hz; go_simp; first | done | with_reducible rfl)
          try simp only [Act.put, List.setIfInBounds_toArray, List.set_cons_zero, List.set_cons_succ]
          refine take_op (i := 7) (v := ?vbm7) rfl (by kernel_rfl) (by kernel_rfl) (by kernel_rfl) (fun _ _ _ h => h) rfl hHeld ?ybm7 ?rbm7
          case ybm7 => (intro wz hz; go_simp; first | done | with_reducible rfl)
          try simp only [Act.put, List.setIfInBounds_toArray, List.set_cons_zero, List.set_cons_succ]
          refine take_op (i := 8) (v := ?vbm8) rfl (by kernel_rfl) (by kernel_rfl) (by kernel_rfl) (fun _ _ _ h => h) rfl hHeld ?ybm8 ?rbm8
          case ybm8 => (intro wz hz; go_simp; first | done | with_reducible rfl)
          try simp only [Act.put, List.setIfInBounds_toArray, List.set_cons_zero, List.set_cons_succ]
          refine take_op (i := 9) (v := ?vbm9) rfl (by kernel_rfl) (by kernel_rfl) (by kernel_rfl) (fun _ _ _ h => h) rfl hHeld ?ybm9 ?rbm9
          case ybm9 => (intro wz hz; go_simp; first | done | with_reducible rfl)
          try simp only [Act.put, List.setIfInBounds_toArray, List.set_cons_zero, List.set_cons_succ]
          refine take_op (i := 10) (v := ?vbm10) rfl (by kernel_rfl) (by kernel_rfl) (by kernel_rfl) (fun _ _ _ h => h) rfl hHeld ?ybm10 ?rbm10
          case ybm10 => (intro wz hz; go_simp; first | done | with_reducible rfl)
          try simp only [Act.put, List.setIfInBounds_toArray, List.set_cons_zero, List.set_cons_succ]
          refine take_op (i := 11) (v := ?vbm11) rfl (by kernel_rfl) (by kernel_rfl) (by kernel_rfl) (fun _ _ _ h => h) rfl hHeld ?ybm11 ?rbm11
          case ybm11 => (intro wz hz; go_simp; first | done | with_reducible rfl)
          try simp only [Act.put, List.setIfInBounds_toArray, List.set_cons_zero, List.set_cons_succ]
          refine take_op (i := 12) (v := ?vbm12) rfl (by kernel_rfl) (by kernel_rfl) (by kernel_rfl) (fun _ _ _ h => h) rfl hHeld ?ybm12 ?rbm12
          case ybm12 => (intro wz hz; go_simp; first | done | with_reducible rfl)
          try simp only [Act.put, List.setIfInBounds_toArray, List.set_cons_zero, List.set_cons_succ]
          refine take_op (i := 13) (v := ?vbm13) rfl (by kernel_rfl) (by kernel_rfl) (by kernel_rfl) (fun _ _ _ h => h) rfl hHeld ?ybm13 ?rbm13
          case ybm13 => (intro wz hz; go_simp; first | done | with_reducible rfl)
          try simp only [Act.put, List.setIfInBounds_toArray, List.set_cons_zero, List.set_cons_succ]
          refine take_op (i := 14) (v := ?vbm14) rfl (by kernel_rfl) (by kernel_rfl) (by kernel_rfl) (fun _ _ _ h => h) rfl hHeld ?ybm14 ?rbm14
          case ybm14 => (intro wz hz; go_simp; first | done | with_reducible rfl)
          try simp only [Act.put, List.setIfInBounds_toArray, List.set_cons_zero, List.set_cons_succ]
          refine take_op (i := 15) (v := ?vbm15) rfl (by kernel_rfl) (by kernel_rfl) (by kernel_rfl) (fun _ _ _ h => h) rfl hHeld ?ybm15 ?rbm15
          case ybm15 => (intro wz hz; go_simp; first | done | with_reducible rfl)
          try simp only [Act.put, List.setIfInBounds_toArray, List.set_cons_zero, List.set_cons_succ]
          refine take_op (i := 19) (v := ?vbm19) rfl (by kernel_rfl) (by kernel_rfl) (by kernel_rfl) (fun _ _ _ h => h) rfl hHeld ?ybm19 ?rbm19
          case ybm19 => (intro wz hz; go_simp; first | done | with_reducible rfl)
          try simp only [Act.put, List.setIfInBounds_toArray, List.set_cons_zero, List.set_cons_succ]
          refine take_op (i := 20) (v := ?vbm20) rfl (by kernel_rfl) (by kernel_rfl) (by kernel_rfl) (fun _ _ _ h => h) rfl hHeld ?ybm20 ?rbm20
          case ybm20 => (intro wz hz; go_simp; first | done | with_reducible rfl)
          try simp only [Act.put, List.setIfInBounds_toArray, List.set_cons_zero, List.set_cons_succ]
          refine take_op (i := 21) (v := ?vbm21) rfl (by kernel_rfl) (by kernel_rfl) (by kernel_rfl) (fun _ _ _ h => h) rfl hHeld ?ybm21 ?rbm21
          case ybm21 => (intro wz hz; go_simp; first | done | with_reducible rfl)
          try simp only [Act.put, List.setIfInBounds_toArray, List.set_cons_zero, List.set_cons_succ]
          refine take_op (i := 22) (v := ?vbm22) rfl (by kernel_rfl) (by kernel_rfl) (by kernel_rfl) (fun _ _ _ h => h) rfl hHeld ?ybm22 ?rbm22
          case ybm22 => (intro wz hz; have hcv := conv8 wz u2 _ (HSB.out wz hz.1); go_simp; first | done | with_reducible rfl)
          try simp only [Act.put, List.setIfInBounds_toArray, List.set_cons_zero, List.set_cons_succ]
          refine take_one (i := 16) rfl (by kernel_rfl) rfl (fun K hK => ?_)
          go_simp
          refine hK.out _ _ ⟨hHeld.1.below ((Below.refl _ _).alloc (Nat.le_refl _) _) (Nat.le_refl _), hHeld.2.1.alloc hHeld.2.1.size _, hHeld.2.2.below ((Below.refl _ _).alloc (Nat.le_refl _) _) (Nat.le_refl _)⟩ (fun hHeld => ?_)
          clear hK K
          try simp only [Act.put, List.setIfInBounds_toArray, List.set_cons_zero, List.set_cons_succ]
          have hpt := (isParts_one w4 _ pp V4.out).below ((Below.refl _ _).drew) (Nat.le_refl _)
          refine take_one (i := 17) rfl (by kernel_rfl) rfl (fun K hK => ?_)
          go_simp
          refine (blob_any [] (.slice none 0 0) _ 1 (fun _ => pp) _ (isBytes_nil _) hpt (fun i hi => ?_)).mono ?_
          · have : i = 0 ∨ i = 1 := by omega
            rcases this with rfl | rfl
            · simp [flatTo]
            · simp only [flatTo, blobsB, List.nil_append, List.length_nil, Nat.zero_add]; omega
          rintro e w5 ⟨v5, rfl, hn5, hb5⟩
          rw [List.nil_append, flatTo, flatTo, List.nil_append, blobsB, HTK.out] at hn5
          refine hK.out _ _ ⟨hHeld.1.below hb5 (Nat.le_refl _), hHeld.2.1.trans (hb5.mono hHeld.2.1.size), hHeld.2.2.below hb5 (Nat.le_refl _)⟩ (fun hHeld => ?_)
          clear hK K
          try simp only [Act.put, List.setIfInBounds_toArray, List.set_cons_zero, List.set_cons_succ]
          refine wpAnyH_stronger (S' := fun w' => isBytes w' v5 (l.take T2) ∧ isBytes w' (.slice ba l.length bc) l ∧ Below w.heap.size w w' ∧ isBytes w' (.slice va4 pp.length vc4) pp) (fun _ h => h.2) _ _ _ _ ?_
          have hHeld : isBytes w5 v5 (l.take T2) ∧ isBytes w5 (.slice ba l.length bc) l ∧ Below w.heap.size w w5 ∧ isBytes w5 (.slice va4 pp.length vc4) pp := ⟨hn5.is, hHeld⟩
          refine take_op (i := 18) (v := ?vbm18) rfl (by kernel_rfl) (by kernel_rfl) (by kernel_rfl) (fun _ _ _ h => h) rfl hHeld ?ybm18 ?rbm18
          case ybm18 => (intro wz hz; have hcv := conv8 wz v5 _ hz.1; go_simp; first | done | with_reducible rfl)
          try simp only [Act.put, List.setIfInBounds_toArray, List.set_cons_zero, List.set_cons_succ]
          refine take_op (i := 23) (v := ?vbm23) rfl (by kernel_rfl) (by kernel_rfl) (by kernel_rfl) (fun _ _ _ h => h) rfl hHeld ?ybm23 ?rbm23
          case ybm23 => (intro wz hz; go_simp; first | done | with_reducible rfl)
          try simp only [Act.put, List.setIfInBounds_toArray, List.set_cons_zero, List.set_cons_succ]
          refine take_op (i := 24) (v := ?vbm24) rfl (by kernel_rfl) (by kernel_rfl) (by kernel_rfl) (fun _ _ _ h => h) rfl hHeld ?ybm24 ?rbm24
          case ybm24 => (intro wz hz; go_simp; first | done | with_reducible rfl)
          try simp only [Act.put, List.setIfInBounds_toArray, List.set_cons_zero, List.set_cons_succ]
          refine take_op (i := 25) (v := ?vbm25) rfl (by kernel_rfl) (by kernel_rfl) (by kernel_rfl) (fun _ _ _ h => h) rfl hHeld ?ybm25 ?rbm25
          case ybm25 => (intro wz hz; go_simp; first | done | with_reducible rfl)
          try simp only [Act.put, List.setIfInBounds_toArray, List.set_cons_zero, List.set_cons_succ]
          refine take_one (i := 26) rfl (by kernel_rfl) rfl (fun K hK => ?_)
          go_simp
          refine (awake_any _).mono ?_
          rintro e w6 ⟨rfl, hb6⟩
          refine hK.out _ _ ⟨hHeld.1.below hb6 (Nat.le_refl _), hHeld.2.1.below hb6 (Nat.le_refl _), hHeld.2.2.1.trans (hb6.mono hHeld.2.2.1.size), hHeld.2.2.2.below hb6 (Nat.le_refl _)⟩ (fun hHeld => ?_)
          clear hK K
          try simp only [Act.put, List.setIfInBounds_toArray, List.set_cons_zero, List.set_cons_succ]
          refine take_op (i := 27) (v := ?vbm27) rfl (by kernel_rfl) (by kernel_rfl) (by kernel_rfl) (fun _ _ _ h => h) rfl hHeld ?ybm27 ?rbm27
          case ybm27 => (intro wz hz; go_simp; first | done | with_reducible rfl)
          try simp only [Act.put, List.setIfInBounds_toArray, List.set_cons_zero, List.set_cons_succ]
          refine take_op (i := 28) (v := ?vbm28) rfl (by kernel_rfl) (by kernel_rfl) (by kernel_rfl) (fun _ _ _ h => h) rfl hHeld ?ybm28 ?rbm28
          case ybm28 => (intro wz hz; go_simp; first | done | with_reducible rfl)
          try simp only [Act.put, List.setIfInBounds_toArray, List.set_cons_zero, List.set_cons_succ]
          refine wpAnyH_done (by kernel_rfl) ?_ _
          refine NoPanic.normal ?_
          have HB6 : Hid _ := hHeld.2.2.1
          clear hHeld
          go_wp2
          go_ret
          exact ⟨rfl, HB6.out⟩
      | some z =>
        obtain ⟨x, nn⟩ := z
        have HR : numR q false 18446744073709551615 = (x, q.drop nn, false) := by unfold numR; rw [hn]; rfl
        rw [HR] at X
        obtain ⟨f1, f2⟩ := numOf_first hn
        obtain ⟨g1, g2, g3, g4, g5, g6⟩ := firstB_some hqb f1
        have hnum := firstB_num hqb f1
        clear HR hn f1
        go_wp2_with fail
        refine (left_any c w.heap.size q false wr (cutIn.of C.out)).mono ?_
        rintro e w' ⟨rfl, hw⟩
        obtain rfl := hw.symm
        clear hw
        go_wp2_with fail
        refine X.mono ?_
        rintro e w9 ⟨rfl, hc9, hb9⟩
        have hs9 := hb9.size
        have O9 : owns w9 w1.heap.size 39 u6 (xs.map (Value.int .u64)) := owns.far O.out (fun k hk => by
          have := owns.block O.out k hk
          exact hb9.block k this.2 (by omega))
        have hB9 : Below w.heap.size w w9 := Below.trans HB.out (But.to_below hb9 hcge (by omega))
        obtain ⟨v', wA, hr, hoA, hbA⟩ := u64_append_run w9 w1.heap.size u6 xs x O9 (by omega) (by omega)
        have HOA : Hid _ := hoA
        have HCA : Hid _ := cutIn.below hc9 hbA (Nat.le_refl _)
        have HC9 : Hid _ := hc9
        have HBA : Hid _ := hB9.trans (hbA.mono hs1)
        have hsA := hbA.size
        have HFA : Hid (((xs ++ [x]).map numB).flatten ++ q.drop nn = l) := by
          have : ((xs ++ [x]).map numB).flatten ++ q.drop nn = l := by
            rw [List.map_append, List.flatten_append]
            simp only [List.map_cons, List.map_nil, List.flatten_cons, List.flatten_nil, List.append_nil]
            rw [hnum, List.append_assoc, List.take_append_drop]; exact HF.out
          exact this
        have hxs : xs.length + 1 ≤ l.length := by
          have h1 := flat_ge (xs ++ [x])
          have h2 : ((xs ++ [x]).map numB).flatten.length + (q.drop nn).length = l.length := by rw [← HFA.out, List.length_append]
          simp at h1 h2; omega
        clear O HB C X hb9 O9 hB9 hoA hbA hc9 HF hnum
        go_wp2_with fail
        refine (err_of c w.heap.size (q.drop nn) false w9 (cutIn.of HC9.out)).mono ?_
        rintro e w' ⟨rfl, hw⟩
        obtain rfl := hw.symm
        clear hw
        rw [errI_false]
        go_wp2_with (first | (at_builtin; refine wpList_append_run rfl _ _ _ rfl rfl rfl hr ?_))
        go_light
        refine ⟨⟨xs ++ [x], q.drop nn, by simp; omega, by simp, ?_, HFA.out, HOA.out, HCA.out, HBA.out, by omega⟩, by simp [intOf]; omega⟩
        intro i hi
        have hi' : i < xs.length + 1 := by simpa using hi
        rw [List.getD_eq_getElem?_getD]
        by_cases h : i < xs.length
        · rw [List.getElem?_append_left h, ← List.getD_eq_getElem?_getD]; exact XB.out i h
        · obtain rfl : i = xs.length := by omega
          rw [List.getElem?_append_right (Nat.le_refl _)]; simp; exact ⟨g4, g5⟩
    · have hq0 : q.length = 0 := by omega
      have b0 : (q.length : Int) ≤ 0 := by omega
      go_wp2_with fail
      refine (left_any c w.heap.size q false wr (cutIn.of C.out)).mono ?_
      rintro e w' ⟨rfl, hw⟩
      obtain rfl := hw.symm
      clear hw hw1 hq0
      have hfl : (xs.map numB).flatten.length + q.length = l.length := by rw [← HF.out, List.length_append]
      have htk : (xs.map numB).flatten = l.take (l.length - q.length) := by rw [← HF.out, List.take_append_of_le_length (by rw [List.length_append]; omega), List.take_of_length_le (by rw [List.length_append]; omega)]
      clear hq
      have q2 : (q.length : Int) ≤ (l.length : Int) := by omega
      obtain ⟨T, hT⟩ : ∃ T, T = l.length - q.length := ⟨_, rfl⟩
      have hTi : (l.length : Int) - (q.length : Int) = (T : Int) := by omega
      have hTl : T ≤ l.length := by omega
      rw [← hT] at htk
      obtain ⟨u, hsl, hslb⟩ := slice_bytes_to (.slice ba l.length bc) l T wr (isBytes.below HBV.out HB.out (Nat.le_refl _)) hTl
      have HSB : Hid _ := hslb
      have HTK : Hid _ := htk
      clear hslb htk hfl hT
      go_wp2_with fail
      clear b0
      refine (left_any c w.heap.size q false _ (cutIn.of C.out)).mono ?_
      rintro e w' ⟨rfl, hw⟩
      obtain rfl := hw.symm
      clear hw C
      go_wp2
      refine wp_region_noPanic ?_
      refine wp_region_held_drew (S := fun w' => isBytes w' (.slice ba l.length bc) l ∧ Below w.heap.size w w') (by kernel_rfl) ⟨isBytes.below HBV.out HB.out.drew (Nat.le_refl _), HB.out.drew⟩ (fun hHeld => ?_)
      refine take_op (i := 0) (v := ?vgk0) rfl (by kernel_rfl) (by kernel_rfl) (by kernel_rfl) (fun _ _ _ h => h) rfl hHeld ?ygk0 ?rgk0
      case ygk0 => (intro wz hz; go_simp; first | done | with_reducible rfl)
      try simp only [Act.put, List.setIfInBounds_toArray, List.set_cons_zero, List.set_cons_succ]
      refine take_op (i := 1) (v := ?vgk1) rfl (by kernel_rfl) (by kernel_rfl) (by kernel_rfl) (fun _ _ _ h => h) rfl hHeld ?ygk1 ?rgk1
      case ygk1 => (intro wz hz; go_simp; first | done | with_reducible rfl)
      try simp only [Act.put, List.setIfInBounds_toArray, List.set_cons_zero, List.set_cons_succ]
      refine take_op (i := 2) (v := ?vgk2) rfl (by kernel_rfl) (by kernel_rfl) (by kernel_rfl) (fun _ _ _ h => h) rfl hHeld ?ygk2 ?rgk2
      case ygk2 => (intro wz hz; go_simp; first | done | with_reducible rfl)
      try simp only [Act.put, List.setIfInBounds_toArray, List.set_cons_zero, List.set_cons_succ]
      refine take_op (i := 3) (v := ?vgk3) rfl (by kernel_rfl) (by kernel_rfl) (by kernel_rfl) (fun _ _ _ h => h) rfl hHeld ?ygk3 ?rgk3
      case ygk3 => (intro wz hz; go_simp; first | done | with_reducible rfl)
      try simp only [Act.put, List.setIfInBounds_toArray, List.set_cons_zero, List.set_cons_succ]
      refine take_op (i := 6) (v := ?vgk6) rfl (by kernel_rfl) (by kernel_rfl) (by kernel_rfl) (fun _ _ _ h => h) rfl hHeld ?ygk6 ?rgk6
      case ygk6 => (intro wz hz; go_simp; first | done | with_reducible rfl)
      try simp only [Act.put, List.setIfInBounds_toArray, List.set_cons_zero, List.set_cons_succ]
      refine take_op (i := 7) (v := ?vgk7) rfl (by kernel_rfl) (by kernel_rfl) (by kernel_rfl) (fun _ _ _ h => h) rfl hHeld ?ygk7 ?rgk7
      case ygk7 => (intro wz hz; go_simp; first | done | with_reducible rfl)
      try simp only [Act.put, List.setIfInBounds_toArray, List.set_cons_zero, List.set_cons_succ]
      refine take_op (i := 8) (v := ?vgk8) rfl (by kernel_rfl) (by kernel_rfl) (by kernel_rfl) (fun _ _ _ h => h) rfl hHeld ?ygk8 ?rgk8
      case ygk8 => (intro wz hz; go_simp; first | done | with_reducible rfl)
      try simp only [Act.put, List.setIfInBounds_toArray, List.set_cons_zero, List.set_cons_succ]
      refine take_op (i := 9) (v := ?vgk9) rfl (by kernel_rfl) (by kernel_rfl) (by kernel_rfl) (fun _ _ _ h => h) rfl hHeld ?ygk9 ?rgk9
      case ygk9 => (intro wz hz; have hcv := conv8 wz u _ (HSB.out wz hz.1); go_simp; first | done | with_reducible rfl)
      try simp only [Act.put, List.setIfInBounds_toArray, List.set_cons_zero, List.set_cons_succ]
      refine take_one (i := 4) rfl (by kernel_rfl) rfl (fun K hK => ?_)
      go_simp
      refine (num_any [] (.slice none 0 0) _ xs.length (fun i => xs.getD i 0) wr.drew (isBytes_nil _) (owns_isRow (owns.drew O.out)) (fun i hi => XB.out i hi) (by simp; omega)).mono ?_
      rintro e w2 ⟨v2, rfl, hn2, hb2⟩
      rw [List.nil_append, flat_nums', HTK.out] at hn2
      refine hK.out _ _ ⟨hHeld.1.below hb2 (Nat.le_refl _), hHeld.2.trans (hb2.mono hHeld.2.size)⟩ (fun hHeld => ?_)
      clear hK K
      try simp only [Act.put, List.setIfInBounds_toArray, List.set_cons_zero, List.set_cons_succ]
      refine wpAnyH_stronger (S' := fun w' => isBytes w' v2 (l.take T) ∧ isBytes w' (.slice ba l.length bc) l ∧ Below w.heap.size w w') (fun _ h => ⟨h.2.1, h.2.2⟩) _ _ _ _ ?_
      have hHeld : isBytes w2 v2 (l.take T) ∧ isBytes w2 (.slice ba l.length bc) l ∧ Below w.heap.size w w2 := ⟨hn2.is, hHeld.1, hHeld.2⟩
      refine take_op (i := 5) (v := ?vgk5) rfl (by kernel_rfl) (by kernel_rfl) (by kernel_rfl) (fun _ _ _ h => h) rfl hHeld ?ygk5 ?rgk5
      case ygk5 => (intro wz hz; have hcv := conv8 wz v2 _ hz.1; go_simp; first | done | with_reducible rfl)
      try simp only [Act.put, List.setIfInBounds_toArray, List.set_cons_zero, List.set_cons_succ]
      refine take_op (i := 10) (v := ?vgk10) rfl (by kernel_rfl) (by kernel_rfl) (by kernel_rfl) (fun _ _ _ h => h) rfl hHeld ?ygk10 ?rgk10
      case ygk10 => (intro wz hz; go_simp; first | done | with_reducible rfl)
      try simp only [Act.put, List.setIfInBounds_toArray, List.set_cons_zero, List.set_cons_succ]
      refine take_op (i := 11) (v := ?vgk11) rfl (by kernel_rfl) (by kernel_rfl) (by kernel_rfl) (fun _ _ _ h => h) rfl hHeld ?ygk11 ?rgk11
      case ygk11 => (intro wz hz; go_simp; first | done | with_reducible rfl)
      try simp only [Act.put, List.setIfInBounds_toArray, List.set_cons_zero, List.set_cons_succ]
      refine wpAnyH_done (by kernel_rfl) ?_ _
      refine NoPanic.normal ?_
      have HB2 : Hid _ := hHeld.2.2
      have hs2 := hHeld.2.2.size
      clear hHeld hn2 hb2 O HF HTK hsl HSB HB
      go_wp2_with fail
      refine (from_any _ l w2 (isBytes.below HBV.out HB2.out (Nat.le_refl _)) (by omega)).mono ?_
      rintro e w3 ⟨d, rfl, hc3, hb3⟩
      have HB3 : Hid _ := Below.trans HB2.out (hb3.mono hs2)
      have hs3 := hb3.size
      have hby := hc3.byte
      have D3 : Hid _ := hc3
      have hd3 := hc3.ge
      clear hc3 hb3 HB2
      go_wp2_with fail
      refine (cblob_any d w2.heap.size l false most hm1 w3 D3.out (by omega)).mono ?_
      rintro e w4 ⟨v4, rfl, hn4, hc4, hb4⟩
      have hs4 := hb4.size
      have HB4 : Hid _ := Below.trans HB3.out (But.to_below hb4 (by omega) (by omega))
      have V4 : Hid _ := hn4.is
      obtain ⟨va4, vc4, rfl, hvm⟩ := hn4.is.slice
      unfold maxLen at hvm
      have hpl := partR_len l false most
      have hpl2 := partR_left l false most
      clear hn4 hb4 D3 HB3
      cases hf : (partR l false most).2.2 with
      | true =>
        obtain ⟨p1, p2⟩ := partR_fault hf
        rw [hf, p2] at hc4
        have D4 : Hid _ := hc4
        rw [p1] at *
        clear hc4 p1 p2 hf
        go_wp2_with fail
        refine (err_of d w2.heap.size l true w4 D4.out).mono ?_
        rintro e w' ⟨rfl, hw⟩
        obtain rfl := hw.symm
        clear hw
        rw [errI_true]
        simp only [List.length_nil]
        go_wp2_with fail
        refine (left_any d w2.heap.size l true w4 D4.out).mono ?_
        rintro e w' ⟨rfl, hw⟩
        obtain rfl := hw.symm
        clear hw
        go_wp2_with fail
        refine (awake_any w4).mono ?_
        rintro e w5 ⟨rfl, hb5⟩
        go_wp2
        go_ret
        exact ⟨rfl, Below.trans HB4.out (hb5.mono HB4.out.size)⟩
      | false =>
        obtain ⟨p1, p2⟩ := partR_blob hby hf
        rw [hf] at hc4
        have D4 : Hid _ := hc4
        have P1 : Hid _ := p1
        clear hc4 p1 hf
        generalize (partR l false most).1 = pp at *
        generalize (partR l false most).2.1 = rr at *
        have hlen : (blobB pp).length + rr.length = l.length := by rw [← P1.out, List.length_append]
        have htk : blobB pp = l.take (l.length - rr.length) := by rw [← P1.out, List.take_append_of_le_length (by rw [List.length_append]; omega), List.take_of_length_le (by rw [List.length_append]; omega)]
        obtain ⟨T2, hT2⟩ : ∃ T2, T2 = l.length - rr.length := ⟨_, rfl⟩
        have hT2i : (l.length : Int) - (rr.length : Int) = (T2 : Int) := by omega
        have hT2l : T2 ≤ l.length := by omega
        have r4 : (T2 : Int) ≤ (l.length : Int) := by omega
        rw [← hT2] at htk
        have HTK : Hid _ := htk
        have r5 : ((pp.length : Nat) : Int) ≤ most := p2
        have hbl := blobB_length pp
        obtain ⟨u2, hsl2, hslb2⟩ := slice_bytes_to (.slice ba l.length bc) l T2 w4 (isBytes.below HBV.out HB4.out (Nat.le_refl _)) hT2l
        have HSB : Hid _ := hslb2
        have hbl2 : (blobB pp).length ≤ 20000 := by omega
        clear hslb2 htk p2 hT2 hlen
        go_wp2_with fail
        refine (err_of d w2.heap.size rr false w4 D4.out).mono ?_
        rintro e w' ⟨rfl, hw⟩
        obtain rfl := hw.symm
        clear hw
        rw [errI_false]
        go_wp2_with fail
        refine (left_any d w2.heap.size rr false w4 D4.out).mono ?_
        rintro e w' ⟨rfl, hw⟩
        obtain rfl := hw.symm
        clear hw
        go_wp2
        refine wp_region_noPanic ?_
        refine wp_region_held_drew (S := fun w' => isBytes w' (.slice ba l.length bc) l ∧ Below w.heap.size w w' ∧ isBytes w' (.slice va4 pp.length vc4) pp) (by kernel_rfl) ⟨isBytes.below HBV.out HB4.out.drew (Nat.le_refl _), HB4.out.drew, V4.out⟩ (fun hHeld => ?_)
        refine take_op (i := 0) (v := ?vgm0) rfl (by kernel_rfl) (by kernel_rfl) (by kernel_rfl) (fun _ _ _ h => h) rfl hHeld ?ygm0 ?rgm0
        case ygm0 => (intro wz hz; go_simp; first | done | with_reducible rfl)
        try simp only [Act.put, List.setIfInBounds_toArray, List.set_cons_zero, List.set_cons_succ]
        refine take_op (i := 1) (v := ?vgm1) rfl (by kernel_rfl) (by kernel_rfl) (by kernel_rfl) (fun _ _ _ h => h) rfl hHeld ?ygm1 ?rgm1
        case ygm1 => (intro wz hz; go_simp; first | done | with_reducible rfl)
        try simp only [Act.put, List.setIfInBounds_toArray, List.set_cons_zero, List.set_cons_succ]
        refine take_op (i := 2) (v := ?vgm2) rfl (by kernel_rfl) (by kernel_rfl) (by kernel_rfl) (fun _ _ _ h => h) rfl hHeld ?ygm2 ?rgm2
        case ygm2 => (intro wz hz; go_simp; first | done | with_reducible rfl)
        try simp only [Act.put, List.setIfInBounds_toArray, List.set_cons_zero, List.set_cons_succ]
        refine take_op (i := 3) (v := ?vgm3) rfl (by kernel_rfl) (by kernel_rfl) (by kernel_rfl) (fun _ _ _ h => h) rfl hHeld ?ygm3 ?rgm3
        case ygm3 => (intro wz hz; go_simp; first | done | with_reducible rfl)
        try simp only [Act.put, List.setIfInBounds_toArray, List.set_cons_zero, List.set_cons_succ]
        refine take_op (i := 4) (v := ?vgm4) rfl (by kernel_rfl) (by kernel_rfl) (by kernel_rfl) (fun _ _ _ h => h) rfl hHeld ?ygm4 ?rgm4
        case ygm4 => (intro wz hz; go_simp; first | done | with_reducible rfl)
        try simp only [Act.put, List.setIfInBounds_toArray, List.set_cons_zero, List.set_cons_succ]
        refine take_op (i := 5) (v := ?vgm5) rfl (by kernel_rfl) (by kernel_rfl) (by kernel_rfl) (fun _ _ _ h => h) rfl hHeld ?ygm5 ?rgm5
        case ygm5 => (intro wz hz; go_simp; first | done | with_reducible rfl)
        try simp only [Act.put, List.setIfInBounds_toArray, List.set_cons_zero, List.set_cons_succ]
        refine take_op (i := 6) (v := ?vgm6) rfl (by kernel_rfl) (by kernel_rfl) (by kernel_rfl) (fun _ _ _ h => h) rfl hHeld ?ygm6 ?rgm6
        case ygm6 => (intro wz hz; go_simp; first | done | with_reducible rfl)
        try simp only [Act.put, List.setIfInBounds_toArray, List.set_cons_zero, List.set_cons_succ]
        refine take_op (i := 7) (v := ?vgm7) rfl (by kernel_rfl) (by kernel_rfl) (by kernel_rfl) (fun _ _ _ h => h) rfl hHeld ?ygm7 ?rgm7
        case ygm7 => (intro wz hz; go_simp; first | done | with_reducible rfl)
        try simp only [Act.put, List.setIfInBounds_toArray, List.set_cons_zero, List.set_cons_succ]
        refine take_op (i := 8) (v := ?vgm8) rfl (by kernel_rfl) (by kernel_rfl) (by kernel_rfl) (fun _ _ _ h => h) rfl hHeld ?ygm8 ?rgm8
        case ygm8 => (intro wz hz; go_simp; first | done | with_reducible rfl)
        try simp only [Act.put, List.setIfInBounds_toArray, List.set_cons_zero, List.set_cons_succ]
        refine take_op (i := 9) (v := ?vgm9) rfl (by kernel_rfl) (by kernel_rfl) (by kernel_rfl) (fun _ _ _ h => h) rfl hHeld ?ygm9 ?rgm9
        case ygm9 => (intro wz hz; go_simp; first | done | with_reducible rfl)
        try simp only [Act.put, List.setIfInBounds_toArray, List.set_cons_zero, List.set_cons_succ]
        refine take_op (i := 10) (v := ?vgm10) rfl (by kernel_rfl) (by kernel_rfl) (by kernel_rfl) (fun _ _ _ h => h) rfl hHeld ?ygm10 ?rgm10
        case ygm10 => (intro wz hz; go_simp; first | done | with_reducible rfl)
        try simp only [Act.put, List.setIfInBounds_toArray, List.set_cons_zero, List.set_cons_succ]
        refine take_op (i := 11) (v := ?vgm11) rfl (by kernel_rfl) (by kernel_rfl) (by kernel_rfl) (fun _ _ _ h => h) rfl hHeld ?ygm11 ?rgm11
        case ygm11 => (intro wz hz; go_simp; first | done | with_reducible rfl)
        try simp only [Act.put, List.setIfInBounds_toArray, List.set_cons_zero, List.set_cons_succ]
        refine take_op (i := 12) (v := ?vgm12) rfl (by kernel_rfl) (by kernel_rfl) (by kernel_rfl) (fun _ _ _ h => h) rfl hHeld ?ygm12 ?rgm12
        case ygm12 => (intro wz hz; go_simp; first | done | with_reducible rfl)
        try simp only [Act.put, List.setIfInBounds_toArray, List.set_cons_zero, List.set_cons_succ]
        refine take_op (i := 13) (v := ?vgm13) rfl (by kernel_rfl) (by kernel_rfl) (by kernel_rfl) (fun _ _ _ h => h) rfl hHeld ?ygm13 ?rgm13
        case ygm13 => (intro wz hz; go_simp; first | done | with_reducible rfl)
        try simp only [Act.put, List.setIfInBounds_toArray, List.set_cons_zero, List.set_cons_succ]
        refine take_op (i := 14) (v := ?vgm14) rfl (by kernel_rfl) (by kernel_rfl) (by kernel_rfl) (fun _ _ _ h => h) rfl hHeld ?ygm14 ?rgm14
        case ygm14 => (intro wz hz; go_simp; first | done | with_reducible rfl)
        try simp only [Act.put, List.setIfInBounds_toArray, List.set_cons_zero, List.set_cons_succ]
        refine take_op (i := 15) (v := ?vgm15) rfl (by kernel_rfl) (by kernel_rfl) (by kernel_rfl) (fun _ _ _ h => h) rfl hHeld ?ygm15 ?rgm15
        case ygm15 => (intro wz hz; go_simp; first | done | with_reducible rfl)
        try simp only [Act.put, List.setIfInBounds_toArray, List.set_cons_zero, List.set_cons_succ]
        refine take_op (i := 19) (v := ?vgm19) rfl (by kernel_rfl) (by kernel_rfl) (by kernel_rfl) (fun _ _ _ h => h) rfl hHeld ?ygm19 ?rgm19
        case ygm19 => (intro wz hz; go_simp; first | done | with_reducible rfl)
        try simp only [Act.put, List.setIfInBounds_toArray, List.set_cons_zero, List.set_cons_succ]
        refine take_op (i := 20) (v := ?vgm20) rfl (by kernel_rfl) (by kernel_rfl) (by kernel_rfl) (fun _ _ _ h => h) rfl hHeld ?ygm20 ?rgm20
        case ygm20 => (intro wz hz; go_simp; first | done | with_reducible rfl)
        try simp only [Act.put, List.setIfInBounds_toArray, List.set_cons_zero, List.set_cons_succ]
        refine take_op (i := 21) (v := ?vgm21) rfl (by kernel_rfl) (by kernel_rfl) (by kernel_rfl) (fun _ _ _ h => h) rfl hHeld ?ygm21 ?rgm21
        case ygm21 => (intro wz hz; go_simp; first | done | with_reducible rfl)
        try simp only [Act.put, List.setIfInBounds_toArray, List.set_cons_zero, List.set_cons_succ]
        refine take_op (i := 22) (v := ?vgm22) rfl (by kernel_rfl) (by kernel_rfl) (by kernel_rfl) (fun _ _ _ h => h) rfl hHeld ?ygm22 ?rgm22
        case ygm22 => (intro wz hz; have hcv := conv8 wz u2 _ (HSB.out wz hz.1); go_simp; first | done | with_reducible rfl)
        try simp only [Act.put, List.setIfInBounds_toArray, List.set_cons_zero, List.set_cons_succ]
        refine take_one (i := 16) rfl (by kernel_rfl) rfl (fun K hK => ?_)
        go_simp
        refine hK.out _ _ ⟨hHeld.1.below ((Below.refl _ _).alloc (Nat.le_refl _) _) (Nat.le_refl _), hHeld.2.1.alloc hHeld.2.1.size _, hHeld.2.2.below ((Below.refl _ _).alloc (Nat.le_refl _) _) (Nat.le_refl _)⟩ (fun hHeld => ?_)
        clear hK K
        try simp only [Act.put, List.setIfInBounds_toArray, List.set_cons_zero, List.set_cons_succ]
        have hpt := (isParts_one w4 _ pp V4.out).below ((Below.refl _ _).drew) (Nat.le_refl _)
        refine take_one (i := 17) rfl (by kernel_rfl) rfl (fun K hK => ?_)
        go_simp
        refine (blob_any [] (.slice none 0 0) _ 1 (fun _ => pp) _ (isBytes_nil _) hpt (fun i hi => ?_)).mono ?_
        · have : i = 0 ∨ i = 1 := by omega
          rcases this with rfl | rfl
          · simp [flatTo]
          · simp only [flatTo, blobsB, List.nil_append, List.length_nil, Nat.zero_add]; omega
        rintro e w5 ⟨v5, rfl, hn5, hb5⟩
        rw [List.nil_append, flatTo, flatTo, List.nil_append, blobsB, HTK.out] at hn5
        refine hK.out _ _ ⟨hHeld.1.below hb5 (Nat.le_refl _), hHeld.2.1.trans (hb5.mono hHeld.2.1.size), hHeld.2.2.below hb5 (Nat.le_refl _)⟩ (fun hHeld => ?_)
        clear hK K
        try simp only [Act.put, List.setIfInBounds_toArray, List.set_cons_zero, List.set_cons_succ]
        refine wpAnyH_stronger (S' := fun w' => isBytes w' v5 (l.take T2) ∧ isBytes w' (.slice ba l.length bc) l ∧ Below w.heap.size w w' ∧ isBytes w' (.slice va4 pp.length vc4) pp) (fun _ h => h.2) _ _ _ _ ?_
        have hHeld : isBytes w5 v5 (l.take T2) ∧ isBytes w5 (.slice ba l.length bc) l ∧ Below w.heap.size w w5 ∧ isBytes w5 (.slice va4 pp.length vc4) pp := ⟨hn5.is, hHeld⟩
        refine take_op (i := 18) (v := ?vgm18) rfl (by kernel_rfl) (by kernel_rfl) (by kernel_rfl) (fun _ _ _ h => h) rfl hHeld ?ygm18 ?rgm18
        case ygm18 => (intro wz hz; have hcv := conv8 wz v5 _ hz.1; go_simp; first | done | with_reducible rfl)
        try simp only [Act.put, List.setIfInBounds_toArray, List.set_cons_zero, List.set_cons_succ]
        refine take_op (i := 23) (v := ?vgm23) rfl (by kernel_rfl) (by kernel_rfl) (by kernel_rfl) (fun _ _ _ h => h) rfl hHeld ?ygm23 ?rgm23
        case ygm23 => (intro wz hz; go_simp; first | done | with_reducible rfl)
        try simp only [Act.put, List.setIfInBounds_toArray, List.set_cons_zero, List.set_cons_succ]
        refine take_op (i := 24) (v := ?vgm24) rfl (by kernel_rfl) (by kernel_rfl) (by kernel_rfl) (fun _ _ _ h => h) rfl hHeld ?ygm24 ?rgm24
        case ygm24 => (intro wz hz; go_simp; first | done | with_reducible rfl)
        try simp only [Act.put, List.setIfInBounds_toArray, List.set_cons_zero, List.set_cons_succ]
        refine take_op (i := 25) (v := ?vgm25) rfl (by kernel_rfl) (by kernel_rfl) (by kernel_rfl) (fun _ _ _ h => h) rfl hHeld ?ygm25 ?rgm25
        case ygm25 => (intro wz hz; go_simp; first | done | with_reducible rfl)
        try simp only [Act.put, List.setIfInBounds_toArray, List.set_cons_zero, List.set_cons_succ]
        refine take_one (i := 26) rfl (by kernel_rfl) rfl (fun K hK => ?_)
        go_simp
        refine (awake_any _).mono ?_
        rintro e w6 ⟨rfl, hb6⟩
        refine hK.out _ _ ⟨hHeld.1.below hb6 (Nat.le_refl _), hHeld.2.1.below hb6 (Nat.le_refl _), hHeld.2.2.1.trans (hb6.mono hHeld.2.2.1.size), hHeld.2.2.2.below hb6 (Nat.le_refl _)⟩ (fun hHeld => ?_)
        clear hK K
        try simp only [Act.put, List.setIfInBounds_toArray, List.set_cons_zero, List.set_cons_succ]
        refine take_op (i := 27) (v := ?vgm27) rfl (by kernel_rfl) (by kernel_rfl) (by kernel_rfl) (fun _ _ _ h => h) rfl hHeld ?ygm27 ?rgm27
        case ygm27 => (intro wz hz; go_simp; first | done | with_reducible rfl)
        try simp only [Act.put, List.setIfInBounds_toArray, List.set_cons_zero, List.set_cons_succ]
        refine take_op (i := 28) (v := ?vgm28) rfl (by kernel_rfl) (by kernel_rfl) (by kernel_rfl) (fun _ _ _ h => h) rfl hHeld ?ygm28 ?rgm28
        case ygm28 => (intro wz hz; go_simp; first | done | with_reducible rfl)
        try simp only [Act.put, List.setIfInBounds_toArray, List.set_cons_zero, List.set_cons_succ]
        refine wpAnyH_done (by kernel_rfl) ?_ _
        refine NoPanic.normal ?_
        have HB6 : Hid _ := hHeld.2.2.1
        clear hHeld
        go_wp2
        go_ret
        exact ⟨rfl, HB6.out⟩
theorem only_any (l : List Int) (bv : Value) (most : Int) (hm1 : most ≤ 9223372036854775807) (w : World) (hbv : isBytes w bv l) :
    Calls Try.prog 7 #[bv, .int .i64 most] w fun e w' => e = .returned (.bool true) ∧ Below w.heap.size w w' := by
  by_cases h : 20000 < l.length
  · obtain ⟨a, c, rfl, _⟩ := hbv.slice
    exact only_more _ a c most w h
  · exact only_some l bv most hm1 w hbv (by omega)
end Go.Proofs.Ytnjjlmkmkphbeaa
