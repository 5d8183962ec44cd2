import Derived.Test.YtldjefhgbigplaaPackBackW
import Derived.Test.YtldjefhgbigplaaPackWritP
namespace Go.Proofs.Ytldjefhgbigplaa
set_option linter.unusedSimpArgs false
set_option linter.unusedVariables false
open Go.RowKit Go.Deep

set_option maxHeartbeats 4000000 in
set_option maxRecDepth 100000 in
theorem writes_any (l : List Int) (n1 n2 n3 : Nat) (v0 v1 v2 v3 : Value) (f : Nat → Int) (ps g : Nat → List Int) (w : World) (h0 : isBytes w v0 l) (h1 : isRow w v1 n1 (fun i => .int .u64 (f i))) (hf : ∀ i, i < n1 → 0 ≤ f i ∧ f i < 18446744073709551616) (h2 : isParts w v2 n2 ps) (hz : ∀ i, i < n2 → (ps i).length ≤ 140737488351232) (h3 : isSums w v3 n3 g) :
    Calls Try.prog 3 #[v0, v1, v2, v3] w fun e w' => e = .returned (.bool true) ∧ Below w.heap.size w w' := by
  have H0 : Hid _ := h0
  have H1 : Hid _ := h1
  have H2 : Hid _ := h2
  have H3 : Hid _ := h3
  have HBY : Hid (∀ i, i < n2 → ∀ j, 0 ≤ (ps i).getD j 0 ∧ (ps i).getD j 0 ≤ 255) := (show ∀ i, i < n2 → ∀ j, 0 ≤ (ps i).getD j 0 ∧ (ps i).getD j 0 ≤ 255 from fun i hi j => by
    obtain ⟨_, _, _, _, hc⟩ := h2.open
    obtain ⟨_, _, _, _, _, _, hy⟩ := hc i hi
    rcases hy with h | ⟨_, h⟩
    · exact h.byte j
    · rw [h]; exact ⟨by simp, by simp⟩)
  obtain ⟨a0, c0, rfl, hm0⟩ := h0.slice
  obtain ⟨a1, c1, rfl, hm1, _⟩ := h1.open
  obtain ⟨a2, c2, rfl, hm2, hc2⟩ := h2.open
  obtain ⟨a3, c3, rfl, hm3, _⟩ := h3.open
  unfold maxLen at hm0 hm1 hm2 hm3
  have q0 : (l.length : Int) ≤ 9223372036854775807 := by omega
  have q2 : (n2 : Int) ≤ 9223372036854775807 := by omega
  clear h0 h1 h2 h3
  go_enter Try.func3, Try.ntmps3
  go_wp2
  go_loopw [9, 10] (fun s i wr => wr = w ∧ ∃ k : Nat, k ≤ n2 ∧ i = .int .i64 k ∧ s = .int .i64 ((l.length + wtTo ps k : Nat) : Int) ∧ l.length + wtTo ps k ≤ 9223372036854775807) (fun _ i _ => n2 - (intOf i).toNat)
  case atStart => exact ⟨rfl, 0, by omega, rfl, rfl, by simp [wtTo]; omega⟩
  case round =>
    obtain ⟨hw, k, hk, rfl, rfl, hmax⟩ := hrel
    obtain rfl := hw.symm
    clear hw
    generalize hN : l.length + wtTo ps k = N at *
    have b0 : (0 : Int) ≤ (k : Int) := by omega
    have b9 : (N : Int) ≤ 9223372036854775807 := by omega
    by_cases hbig : 50000 < N
    · have a1 : (50000 : Int) < (N : Int) := by omega
      clear hN
      by_cases hlt : k < n2
      · have b1 : (k : Int) < (n2 : Int) := by omega
        go_wp2_with fail
        refine (awake_any w).mono ?_
        rintro e w9 ⟨rfl, hb9⟩
        go_wp2
        go_ret
        exact ⟨rfl, hb9⟩
      · have b1 : (n2 : Int) ≤ (k : Int) := by omega
        go_wp2_with fail
        refine (awake_any w).mono ?_
        rintro e w9 ⟨rfl, hb9⟩
        go_wp2
        go_ret
        exact ⟨rfl, hb9⟩
    · have a1 : (N : Int) ≤ 50000 := by omega
      by_cases hlt : k < n2
      · have b1 : (k : Int) < (n2 : Int) := by omega
        obtain ⟨qb, qo, y, rfl, hq, e1, hy⟩ := hc2 k hlt
        obtain ⟨ya, yc, rfl, hym⟩ := hy.slice
        have hzk := hz k hlt
        have b2 : ((ps k).length : Int) ≤ 140737488351232 := by omega
        clear hy
        go_wp2_with fail
        go_light
        refine ⟨⟨trivial, k + 1, by omega, by go_num, ?_, by simp only [wtTo]; omega⟩, by simp [intOf]; omega⟩
        rw [← hN]; simp only [wtTo]; congr 1; omega
      · obtain rfl : k = n2 := by omega
        have hwg := wtTo_ge ps k
        have hl5 : l.length ≤ 50000 := by omega
        have hn5 : k ≤ 1000 := by omega
        by_cases hn1 : 1000 < n1
        · have b1 : (1000 : Int) < (n1 : Int) := by omega
          go_wp2_with fail
          refine (awake_any w).mono ?_
          rintro e w9 ⟨rfl, hb9⟩
          go_wp2
          go_ret
          exact ⟨rfl, hb9⟩
        · have b1 : (n1 : Int) ≤ 1000 := by omega
          by_cases hn3 : 1000 < n3
          · have b3 : (1000 : Int) < (n3 : Int) := by omega
            go_wp2_with fail
            refine (awake_any w).mono ?_
            rintro e w9 ⟨rfl, hb9⟩
            go_wp2
            go_ret
            exact ⟨rfl, hb9⟩
          · have b3 : (n3 : Int) ≤ 1000 := by omega
            obtain ⟨vc, w1, hr1, hn1', hb1⟩ := bytes_copy_run w (.slice a0 l.length c0) l H0.out (by omega)
            have hs1 := hb1.size
            have hu7 : isBytes (w1.alloc (.cells #[.int .u8 7, .int .u8 7, .int .u8 7] 5)) (.slice (some ⟨w1.heap.size, 0, none⟩) 3 3) [7, 7, 7] := isBytes_built w1 [7, 7, 7] (by simp) (by intro i; match i with | 0 => simp | 1 => simp | 2 => simp | _ + 3 => simp)
            have hb2 : Below w1.heap.size w1 (w1.alloc (.cells #[.int .u8 7, .int .u8 7, .int .u8 7] 5)) := (Below.refl _ _).alloc (Nat.le_refl _) _
            obtain ⟨vo, w2, hr2, hn2', hg2, _⟩ := bytes_append_run _ w.heap.size vc _ l [7, 7, 7] (hn1'.below hb2 (Nat.le_refl _)) hu7 (by simp; omega) (by simp; omega)
            have hB2 : Below w.heap.size w w2 := hb1.trans ((hb2.mono hs1).trans (below_grown hg2 (fun q hq2 => (hn1'.block q hq2).1) (by simp; omega)))
            have O2 : Hid _ := hn2'
            have B2 : Hid _ := hB2
            have hs2 := hB2.size
            clear hn1' hb1 hu7 hb2 hn2' hg2 hB2
            go_wp2_with (first | (at_builtin; refine wpList_append_run rfl (.tmp 51) (.tmp 52) _ rfl rfl rfl hr1 ?_) | (at_builtin; refine wpList_append_run rfl (.tmp 53) (.tmp 54) _ rfl rfl rfl hr2 ?_))
            clear hr1 hr2
            have hov : ∀ q, vo.ownBlock = some q → q < w2.heap.size := fun q hq2 => (newBytes.block O2.out q hq2).2
            go_loopw [12, 13] (fun t i wr => ∃ j : Nat, j ≤ k ∧ i = .int .i64 j ∧ owns wr w2.heap.size 9 t ((List.range j).map fun i => .string (strOf (ps i))) ∧ Below w2.heap.size w2 wr) (fun _ i _ => k - (intOf i).toNat)
            case atStart => exact ⟨0, by omega, rfl, owns_nil _ _ _, Below.refl _ _⟩
            case round =>
              obtain ⟨j, hj, rfl, hown, hb2⟩ := hrel
              by_cases hlt2 : j < k
              · obtain ⟨qb, qo, y, rfl, hq, e1, hy⟩ := hc2 j hlt2
                have hb : Below w.heap.size w wr := Below.trans B2.out (hb2.mono hs2)
                have hcv := convA wr _ _ (hy.below hb (Nat.le_refl _))
                obtain ⟨ya, yc, rfl, hym⟩ := hy.slice
                rw [← hb.cell (p := ⟨qb, qo + j, none⟩) hq] at e1
                have c0' : (0 : Int) ≤ (j : Int) := by omega
                have c1' : (j : Int) < (k : Int) := by omega
                have hsr := hb2.size
                obtain ⟨v4, w4, hr4, ho4, hg4⟩ := str_append_run wr w2.heap.size u12 j (fun i => strOf (ps i)) hown (by omega) hsr
                have hb3 : Below wr.heap.size wr (wr.alloc (.cells #[.string (strOf (ps j))] 9)) := (Below.refl _ _).alloc (Nat.le_refl _) _
                have hbg : Below w2.heap.size (wr.alloc (.cells #[.string (strOf (ps j))] 9)) w4 := below_grown hg4 (fun q hq2 => (hown.block q hq2).1) (by simp; omega)
                have HO : Hid _ := ho4
                have HB2 : Hid _ := hb2.trans ((hb3.mono hsr).trans hbg)
                clear hown hb hb2 hy ho4 hg4 hb3 hbg hN
                go_wp2_with (first | (at_builtin; refine wpList_append_run rfl (.tmp 62) (.tmp 68) _ rfl rfl rfl hr4 ?_))
                go_light
                exact ⟨⟨j + 1, by omega, by go_num, HO.out, HB2.out⟩, by simp [intOf]; omega⟩
              · obtain rfl : j = k := by omega
                have c1' : (j : Int) ≤ (j : Int) := by omega
                have OT : Hid _ := hown
                have B3 : Hid (Below w.heap.size w wr) := (show Below w.heap.size w wr from Below.trans B2.out (hb2.mono hs2))
                have hsr := hb2.size
                have hnbr : newBytes wr w.heap.size vo (l ++ [7, 7, 7]) := newBytes.below O2.out hb2 (Nat.le_refl _)
                have NB : Hid _ := hnbr
                obtain ⟨u, hsl, hslb⟩ := slice_bytes_to vo (l ++ [7, 7, 7]) l.length wr hnbr.is (by simp)
                rw [List.take_append_of_le_length (Nat.le_refl _), List.take_length] at hslb
                have FW : Hid (∀ i, i ≤ j → l.length + (flatTo (blobsB ps) i).length ≤ 1000000000000) := (show ∀ i, i ≤ j → l.length + (flatTo (blobsB ps) i).length ≤ 1000000000000 from fun i hi => by
                  have h1 := flat_wt ps i
                  have h2 := wtTo_mono ps j i hi
                  omega)
                have UB : Hid (∀ wz, Below wr.heap.size wr wz → isBytes wz u l) := (show ∀ wz, Below wr.heap.size wr wz → isBytes wz u l from fun wz hwz => hslb wz (newBytes.is (newBytes.below hnbr hwz (Nat.le_refl _))))
                clear hslb hnbr hown hb2 O2 B2 hN hmax
                go_wp2_with fail
                refine (num_any l u _ n1 f wr (UB.out wr (Below.refl _ _)) (isRow.below H1.out B3.out (Nat.le_refl _)) hf (by omega)).mono ?_
                rintro e w3 ⟨x, rfl, hx3, hb3⟩
                have hs3 := hb3.size
                have X3 : Hid _ := hx3
                have R3 : Hid _ := hb3
                clear hx3 hb3
                go_wp2_with fail
                refine (blob_any l u _ j ps w3 (UB.out w3 R3.out) (isParts.below H2.out (Below.trans B3.out (R3.out.mono (by omega))) (Nat.le_refl _)) FW.out).mono ?_
                rintro e w4 ⟨y, rfl, hy4, hb4⟩
                have hs4 := hb4.size
                have Y4 : Hid _ := hy4
                have X4 : Hid _ := newBytes.below X3.out hb4 (Nat.le_refl _)
                have R4 : Hid (Below wr.heap.size wr w4) := (show Below wr.heap.size wr w4 from Below.trans R3.out (hb4.mono hs3))
                clear hy4 hb4 X3 R3
                go_wp2_with fail
                refine (text_any l u _ j (fun i => strOf (ps i)) w4 (UB.out w4 R4.out) ((owns_strs OT.out).below R4.out (Nat.le_refl _)) (fun i hi => by rw [texts_flat ps j HBY.out i hi]; exact FW.out i hi)).mono ?_
                rintro e w5 ⟨z, rfl, hz5, hb5⟩
                have hs5 := hb5.size
                have Z5 : Hid _ := hz5
                have X5 : Hid _ := newBytes.below X4.out hb5 (Nat.le_refl _)
                have Y5 : Hid _ := newBytes.below Y4.out hb5 (Nat.le_refl _)
                have R5 : Hid (Below wr.heap.size wr w5) := (show Below wr.heap.size wr w5 from Below.trans R4.out (hb5.mono (by omega)))
                clear hz5 hb5 X4 Y4 R4
                go_wp2_with fail
                refine (sums_any l u _ n3 g w5 (UB.out w5 R5.out) (isSums.below H3.out (Below.trans B3.out (R5.out.mono (by omega))) (Nat.le_refl _)) (by omega)).mono ?_
                rintro e w6 ⟨t, rfl, ht6, hb6⟩
                have hs6 := hb6.size
                have hx6 := newBytes.below X5.out hb6 (Nat.le_refl _)
                have hy6 := newBytes.below Y5.out hb6 (Nat.le_refl _)
                have hz6 := newBytes.below Z5.out hb6 (Nat.le_refl _)
                have hR6 : Below wr.heap.size wr w6 := Below.trans R5.out (hb6.mono (by omega))
                have hB6 : Below w.heap.size w w6 := Below.trans B3.out (hR6.mono (by omega))
                have hnb6 := newBytes.below NB.out hR6 (Nat.le_refl _)
                have hcv1 := conv8 w6 vo _ hnb6.is
                have hcv2 := conv8 w6 _ _ (isBytes.below H0.out hB6 (Nat.le_refl _))
                have h777 := str_777 l
                have hss : ¬ 9223372036854775807 < (strOf l).size + 3 := by rw [strOf_size]; omega
                obtain ⟨w7, hclr, hb7, hz7, hk7⟩ := clear_run' w6 w.heap.size vo _ hnb6
                have hB7 : Below w.heap.size w w7 := hB6.trans hb7
                have kx : ∀ q, x.ownBlock = some q → w7.heap[q]? = w6.heap[q]? := fun q hq2 => by
                  have h := newBytes.block hx6 q hq2
                  exact hk7 q h.2 (fun e => by have := hov q e; omega)
                have ky : ∀ q, y.ownBlock = some q → w7.heap[q]? = w6.heap[q]? := fun q hq2 => by
                  have h := newBytes.block hy6 q hq2
                  exact hk7 q h.2 (fun e => by have := hov q e; omega)
                have kz : ∀ q, z.ownBlock = some q → w7.heap[q]? = w6.heap[q]? := fun q hq2 => by
                  have h := newBytes.block hz6 q hq2
                  exact hk7 q h.2 (fun e => by have := hov q e; omega)
                have kt : ∀ q, t.ownBlock = some q → w7.heap[q]? = w6.heap[q]? := fun q hq2 => by
                  have h := newBytes.block ht6 q hq2
                  exact hk7 q h.2 (fun e => by have := hov q e; omega)
                have XZ : Hid (∀ wz, Below w7.heap.size w7 wz → isBytes wz x (l ++ flatTo (numsB f) n1)) := (show ∀ wz, Below w7.heap.size w7 wz → isBytes wz x (l ++ flatTo (numsB f) n1) from fun wz hwz => (hx6.is.far kx (by omega)).below hwz (Nat.le_refl _))
                have YZ : Hid (∀ wz, Below w7.heap.size w7 wz → isBytes wz y (l ++ flatTo (blobsB ps) j)) := (show ∀ wz, Below w7.heap.size w7 wz → isBytes wz y (l ++ flatTo (blobsB ps) j) from fun wz hwz => (hy6.is.far ky (by omega)).below hwz (Nat.le_refl _))
                have ZZ : Hid (∀ wz, Below w7.heap.size w7 wz → isBytes wz z (l ++ flatTo (blobsB fun i => sBytes (strOf (ps i))) j)) := (show ∀ wz, Below w7.heap.size w7 wz → isBytes wz z (l ++ flatTo (blobsB fun i => sBytes (strOf (ps i))) j) from fun wz hwz => (hz6.is.far kz (by omega)).below hwz (Nat.le_refl _))
                have TZ : Hid (∀ wz, Below w7.heap.size w7 wz → isBytes wz t (l ++ flatTo g n3)) := (show ∀ wz, Below w7.heap.size w7 wz → isBytes wz t (l ++ flatTo g n3) from fun wz hwz => (ht6.is.far kt (by omega)).below hwz (Nat.le_refl _))
                have OTZ : Hid (∀ wz, Below w7.heap.size w7 wz → isRow wz u12 j (fun i => .string (strOf (ps i)))) := (show ∀ wz, Below w7.heap.size w7 wz → isRow wz u12 j (fun i => .string (strOf (ps i))) from fun wz hwz => owns_strs (((owns.below OT.out hR6 (Nat.le_refl _)).far (fun q hq2 => hk7 q (by have := (owns.block OT.out q hq2).2; omega) (fun e => by have h1 := (owns.block OT.out q hq2).1; have := hov q e; omega))).below hwz (Nat.le_refl _)))
                have B7 : Hid _ := hB7
                have hs7 : w.heap.size ≤ w7.heap.size := hB7.size
                clear hx6 hy6 hz6 ht6 kx ky kz kt hk7 hb7 hz7 hnb6 hB6 hR6 hb6 X5 Y5 Z5 R5 UB NB B3 OT hsl hB7
                go_wp2_with fail
                clear hcv1 hcv2 hss h777 hclr
                refine wp_region_noPanic ?_
                refine wp_region_held_drew (S := fun w' => Below w7.heap.size w7 w') (by kernel_rfl) ((Below.refl _ _).drew) (fun hHeld => ?_)
                refine take_op (i := 0) (v := ?vr0) rfl (by kernel_rfl) (by kernel_rfl) (by kernel_rfl) (fun _ _ _ h => h) rfl hHeld ?yr0 ?rr0
                case yr0 => (intro wz hz; go_simp; first | done | with_reducible rfl)
                try simp only [Act.put, List.setIfInBounds_toArray, List.set_cons_zero, List.set_cons_succ]
                refine take_op (i := 1) (v := ?vr1) rfl (by kernel_rfl) (by kernel_rfl) (by kernel_rfl) (fun _ _ _ h => h) rfl hHeld ?yr1 ?rr1
                case yr1 => (intro wz hz; have hcv := conv8 wz x _ (XZ.out wz hz); go_simp; first | done | with_reducible rfl)
                try simp only [Act.put, List.setIfInBounds_toArray, List.set_cons_zero, List.set_cons_succ]
                refine take_op (i := 2) (v := ?vr2) rfl (by kernel_rfl) (by kernel_rfl) (by kernel_rfl) (fun _ _ _ h => h) rfl hHeld ?yr2 ?rr2
                case yr2 => (intro wz hz; go_simp; first | done | with_reducible rfl)
                try simp only [Act.put, List.setIfInBounds_toArray, List.set_cons_zero, List.set_cons_succ]
                refine take_op (i := 3) (v := ?vr3) rfl (by kernel_rfl) (by kernel_rfl) (by kernel_rfl) (fun _ _ _ h => h) rfl hHeld ?yr3 ?rr3
                case yr3 => (intro wz hz; go_simp; first | done | with_reducible rfl)
                try simp only [Act.put, List.setIfInBounds_toArray, List.set_cons_zero, List.set_cons_succ]
                have hBc := Below.trans B7.out (Below.mono hHeld hs7)
                refine take_one (i := 4) rfl (by kernel_rfl) rfl (fun K hK => ?_)
                go_simp
                refine (rnums_any l _ _ n1 f _ (isBytes.below H0.out hBc (Nat.le_refl _)) (isRow.below H1.out hBc (Nat.le_refl _)) hf (by omega)).mono ?_
                rintro e w8 ⟨v8, rfl, hn8, hb8⟩
                refine hK.out _ _ (hHeld.trans (hb8.mono hHeld.size)) (fun hHeld => ?_)
                clear hK K hBc
                try simp only [Act.put, List.setIfInBounds_toArray, List.set_cons_zero, List.set_cons_succ]
                refine wpAnyH_stronger (S' := fun w' => Below w7.heap.size w7 w' ∧ isBytes w' v8 (l ++ flatTo (numsB f) n1)) (fun _ h => h.1) _ _ _ _ ?_
                have hHeld : Below w7.heap.size w7 w8 ∧ isBytes w8 v8 (l ++ flatTo (numsB f) n1) := ⟨hHeld, hn8.is⟩
                refine take_op (i := 5) (v := ?vr5) rfl (by kernel_rfl) (by kernel_rfl) (by kernel_rfl) (fun _ _ _ h => h) rfl hHeld ?yr5 ?rr5
                case yr5 => (intro wz hz; have hcv := conv8 wz v8 _ hz.2; go_simp; first | done | with_reducible rfl)
                try simp only [Act.put, List.setIfInBounds_toArray, List.set_cons_zero, List.set_cons_succ]
                refine take_op (i := 6) (v := ?vr6) rfl (by kernel_rfl) (by kernel_rfl) (by kernel_rfl) (fun _ _ _ h => h) rfl hHeld ?yr6 ?rr6
                case yr6 => (intro wz hz; go_simp; first | done | with_reducible rfl)
                try simp only [Act.put, List.setIfInBounds_toArray, List.set_cons_zero, List.set_cons_succ]
                refine take_op (i := 7) (v := ?vr7) rfl (by kernel_rfl) (by kernel_rfl) (by kernel_rfl) (fun _ _ _ h => h) rfl hHeld ?yr7 ?rr7
                case yr7 => (intro wz hz; go_simp; first | done | with_reducible rfl)
                try simp only [Act.put, List.setIfInBounds_toArray, List.set_cons_zero, List.set_cons_succ]
                refine take_op (i := 8) (v := ?vr8) rfl (by kernel_rfl) (by kernel_rfl) (by kernel_rfl) (fun _ _ _ h => h) rfl hHeld ?yr8 ?rr8
                case yr8 => (intro wz hz; go_simp; first | done | with_reducible rfl)
                try simp only [Act.put, List.setIfInBounds_toArray, List.set_cons_zero, List.set_cons_succ]
                refine take_op (i := 9) (v := ?vr9) rfl (by kernel_rfl) (by kernel_rfl) (by kernel_rfl) (fun _ _ _ h => h) rfl hHeld ?yr9 ?rr9
                case yr9 => (intro wz hz; have hcv := conv8 wz y _ (YZ.out wz hz.1); go_simp; first | done | with_reducible rfl)
                try simp only [Act.put, List.setIfInBounds_toArray, List.set_cons_zero, List.set_cons_succ]
                refine take_op (i := 10) (v := ?vr10) rfl (by kernel_rfl) (by kernel_rfl) (by kernel_rfl) (fun _ _ _ h => h) rfl hHeld ?yr10 ?rr10
                case yr10 => (intro wz hz; go_simp; first | done | with_reducible rfl)
                try simp only [Act.put, List.setIfInBounds_toArray, List.set_cons_zero, List.set_cons_succ]
                refine take_op (i := 11) (v := ?vr11) rfl (by kernel_rfl) (by kernel_rfl) (by kernel_rfl) (fun _ _ _ h => h) rfl hHeld ?yr11 ?rr11
                case yr11 => (intro wz hz; go_simp; first | done | with_reducible rfl)
                try simp only [Act.put, List.setIfInBounds_toArray, List.set_cons_zero, List.set_cons_succ]
                have hBc := Below.trans B7.out (Below.mono hHeld.1 hs7)
                refine take_one (i := 12) rfl (by kernel_rfl) rfl (fun K hK => ?_)
                go_simp
                refine (rblobs_any l _ _ j ps _ (isBytes.below H0.out hBc (Nat.le_refl _)) (isParts.below H2.out hBc (Nat.le_refl _)) FW.out).mono ?_
                rintro e w9 ⟨v9, rfl, hn9, hb9⟩
                refine hK.out _ _ ⟨hHeld.1.trans (hb9.mono hHeld.1.size), hHeld.2.below hb9 (Nat.le_refl _)⟩ (fun hHeld => ?_)
                clear hK K hBc
                try simp only [Act.put, List.setIfInBounds_toArray, List.set_cons_zero, List.set_cons_succ]
                refine wpAnyH_stronger (S' := fun w' => (Below w7.heap.size w7 w' ∧ isBytes w' v8 (l ++ flatTo (numsB f) n1)) ∧ isBytes w' v9 (l ++ flatTo (blobsB ps) j)) (fun _ h => h.1) _ _ _ _ ?_
                have hHeld : (Below w7.heap.size w7 w9 ∧ isBytes w9 v8 (l ++ flatTo (numsB f) n1)) ∧ isBytes w9 v9 (l ++ flatTo (blobsB ps) j) := ⟨hHeld, hn9.is⟩
                refine take_op (i := 13) (v := ?vr13) rfl (by kernel_rfl) (by kernel_rfl) (by kernel_rfl) (fun _ _ _ h => h) rfl hHeld ?yr13 ?rr13
                case yr13 => (intro wz hz; have hcv := conv8 wz v9 _ hz.2; go_simp; first | done | with_reducible rfl)
                try simp only [Act.put, List.setIfInBounds_toArray, List.set_cons_zero, List.set_cons_succ]
                refine take_op (i := 14) (v := ?vr14) rfl (by kernel_rfl) (by kernel_rfl) (by kernel_rfl) (fun _ _ _ h => h) rfl hHeld ?yr14 ?rr14
                case yr14 => (intro wz hz; go_simp; first | done | with_reducible rfl)
                try simp only [Act.put, List.setIfInBounds_toArray, List.set_cons_zero, List.set_cons_succ]
                refine take_op (i := 15) (v := ?vr15) rfl (by kernel_rfl) (by kernel_rfl) (by kernel_rfl) (fun _ _ _ h => h) rfl hHeld ?yr15 ?rr15
                case yr15 => (intro wz hz; go_simp; first | done | with_reducible rfl)
                try simp only [Act.put, List.setIfInBounds_toArray, List.set_cons_zero, List.set_cons_succ]
                refine take_op (i := 16) (v := ?vr16) rfl (by kernel_rfl) (by kernel_rfl) (by kernel_rfl) (fun _ _ _ h => h) rfl hHeld ?yr16 ?rr16
                case yr16 => (intro wz hz; go_simp; first | done | with_reducible rfl)
                try simp only [Act.put, List.setIfInBounds_toArray, List.set_cons_zero, List.set_cons_succ]
                refine take_op (i := 17) (v := ?vr17) rfl (by kernel_rfl) (by kernel_rfl) (by kernel_rfl) (fun _ _ _ h => h) rfl hHeld ?yr17 ?rr17
                case yr17 => (intro wz hz; go_simp; first | done | with_reducible rfl)
                try simp only [Act.put, List.setIfInBounds_toArray, List.set_cons_zero, List.set_cons_succ]
                refine take_op (i := 18) (v := ?vr18) rfl (by kernel_rfl) (by kernel_rfl) (by kernel_rfl) (fun _ _ _ h => h) rfl hHeld ?yr18 ?rr18
                case yr18 => (intro wz hz; have hcv := conv8 wz t _ (TZ.out wz hz.1.1); go_simp; first | done | with_reducible rfl)
                try simp only [Act.put, List.setIfInBounds_toArray, List.set_cons_zero, List.set_cons_succ]
                refine take_op (i := 19) (v := ?vr19) rfl (by kernel_rfl) (by kernel_rfl) (by kernel_rfl) (fun _ _ _ h => h) rfl hHeld ?yr19 ?rr19
                case yr19 => (intro wz hz; go_simp; first | done | with_reducible rfl)
                try simp only [Act.put, List.setIfInBounds_toArray, List.set_cons_zero, List.set_cons_succ]
                refine take_op (i := 20) (v := ?vr20) rfl (by kernel_rfl) (by kernel_rfl) (by kernel_rfl) (fun _ _ _ h => h) rfl hHeld ?yr20 ?rr20
                case yr20 => (intro wz hz; go_simp; first | done | with_reducible rfl)
                try simp only [Act.put, List.setIfInBounds_toArray, List.set_cons_zero, List.set_cons_succ]
                have hBc := Below.trans B7.out (Below.mono hHeld.1.1 hs7)
                refine take_one (i := 21) rfl (by kernel_rfl) rfl (fun K hK => ?_)
                go_simp
                refine (rsums_any l _ _ n3 g _ (isBytes.below H0.out hBc (Nat.le_refl _)) (isSums.below H3.out hBc (Nat.le_refl _)) (by omega)).mono ?_
                rintro e w10 ⟨v10, rfl, hn10, hb10⟩
                refine hK.out _ _ ⟨⟨hHeld.1.1.trans (hb10.mono hHeld.1.1.size), hHeld.1.2.below hb10 (Nat.le_refl _)⟩, hHeld.2.below hb10 (Nat.le_refl _)⟩ (fun hHeld => ?_)
                clear hK K hBc
                try simp only [Act.put, List.setIfInBounds_toArray, List.set_cons_zero, List.set_cons_succ]
                refine wpAnyH_stronger (S' := fun w' => ((Below w7.heap.size w7 w' ∧ isBytes w' v8 (l ++ flatTo (numsB f) n1)) ∧ isBytes w' v9 (l ++ flatTo (blobsB ps) j)) ∧ isBytes w' v10 (l ++ flatTo g n3)) (fun _ h => h.1) _ _ _ _ ?_
                have hHeld : ((Below w7.heap.size w7 w10 ∧ isBytes w10 v8 (l ++ flatTo (numsB f) n1)) ∧ isBytes w10 v9 (l ++ flatTo (blobsB ps) j)) ∧ isBytes w10 v10 (l ++ flatTo g n3) := ⟨hHeld, hn10.is⟩
                refine take_op (i := 22) (v := ?vr22) rfl (by kernel_rfl) (by kernel_rfl) (by kernel_rfl) (fun _ _ _ h => h) rfl hHeld ?yr22 ?rr22
                case yr22 => (intro wz hz; have hcv := conv8 wz v10 _ hz.2; go_simp; first | done | with_reducible rfl)
                try simp only [Act.put, List.setIfInBounds_toArray, List.set_cons_zero, List.set_cons_succ]
                refine take_op (i := 23) (v := ?vr23) rfl (by kernel_rfl) (by kernel_rfl) (by kernel_rfl) (fun _ _ _ h => h) rfl hHeld ?yr23 ?rr23
                case yr23 => (intro wz hz; go_simp; first | done | with_reducible rfl)
                try simp only [Act.put, List.setIfInBounds_toArray, List.set_cons_zero, List.set_cons_succ]
                refine take_op (i := 24) (v := ?vr24) rfl (by kernel_rfl) (by kernel_rfl) (by kernel_rfl) (fun _ _ _ h => h) rfl hHeld ?yr24 ?rr24
                case yr24 => (intro wz hz; go_simp; first | done | with_reducible rfl)
                try simp only [Act.put, List.setIfInBounds_toArray, List.set_cons_zero, List.set_cons_succ]
                refine wpAnyH_done (by kernel_rfl) ?_ _
                refine NoPanic.normal ?_
                have R10 : Hid _ := hHeld.1.1.1
                have hs10 := hHeld.1.1.1.size
                clear hHeld hn8 hb8 hn9 hb9 hn10 hb10 XZ YZ TZ
                go_wp2_with fail
                refine wp_region_noPanic ?_
                refine wp_region_held_drew (S := fun w' => Below w7.heap.size w7 w') (by kernel_rfl) (R10.out.drew) (fun hHeld => ?_)
                refine take_op (i := 0) (v := ?vs0) rfl (by kernel_rfl) (by kernel_rfl) (by kernel_rfl) (fun _ _ _ h => h) rfl hHeld ?ys0 ?rs0
                case ys0 => (intro wz hz; go_simp; first | done | with_reducible rfl)
                try simp only [Act.put, List.setIfInBounds_toArray, List.set_cons_zero, List.set_cons_succ]
                refine take_op (i := 1) (v := ?vs1) rfl (by kernel_rfl) (by kernel_rfl) (by kernel_rfl) (fun _ _ _ h => h) rfl hHeld ?ys1 ?rs1
                case ys1 => (intro wz hz; have hcv := conv8 wz z _ (ZZ.out wz hz); go_simp; first | done | with_reducible rfl)
                try simp only [Act.put, List.setIfInBounds_toArray, List.set_cons_zero, List.set_cons_succ]
                refine take_op (i := 2) (v := ?vs2) rfl (by kernel_rfl) (by kernel_rfl) (by kernel_rfl) (fun _ _ _ h => h) rfl hHeld ?ys2 ?rs2
                case ys2 => (intro wz hz; go_simp; first | done | with_reducible rfl)
                try simp only [Act.put, List.setIfInBounds_toArray, List.set_cons_zero, List.set_cons_succ]
                refine take_op (i := 3) (v := ?vs3) rfl (by kernel_rfl) (by kernel_rfl) (by kernel_rfl) (fun _ _ _ h => h) rfl hHeld ?ys3 ?rs3
                case ys3 => (intro wz hz; go_simp; first | done | with_reducible rfl)
                try simp only [Act.put, List.setIfInBounds_toArray, List.set_cons_zero, List.set_cons_succ]
                have hBc := Below.trans B7.out (Below.mono hHeld hs7)
                refine take_one (i := 4) rfl (by kernel_rfl) rfl (fun K hK => ?_)
                go_simp
                refine (rtexts_any l _ _ j (fun i => strOf (ps i)) _ (isBytes.below H0.out hBc (Nat.le_refl _)) (OTZ.out _ hHeld) (fun i hi => by rw [texts_flat ps j HBY.out i hi]; exact FW.out i hi)).mono ?_
                rintro e w11 ⟨v11, rfl, hn11, hb11⟩
                refine hK.out _ _ (hHeld.trans (hb11.mono hHeld.size)) (fun hHeld => ?_)
                clear hK K hBc
                try simp only [Act.put, List.setIfInBounds_toArray, List.set_cons_zero, List.set_cons_succ]
                refine wpAnyH_stronger (S' := fun w' => Below w7.heap.size w7 w' ∧ isBytes w' v11 (l ++ flatTo (blobsB fun i => sBytes (strOf (ps i))) j)) (fun _ h => h.1) _ _ _ _ ?_
                have hHeld : Below w7.heap.size w7 w11 ∧ isBytes w11 v11 (l ++ flatTo (blobsB fun i => sBytes (strOf (ps i))) j) := ⟨hHeld, hn11.is⟩
                refine take_op (i := 5) (v := ?vs5) rfl (by kernel_rfl) (by kernel_rfl) (by kernel_rfl) (fun _ _ _ h => h) rfl hHeld ?ys5 ?rs5
                case ys5 => (intro wz hz; have hcv := conv8 wz v11 _ hz.2; go_simp; first | done | with_reducible rfl)
                try simp only [Act.put, List.setIfInBounds_toArray, List.set_cons_zero, List.set_cons_succ]
                refine take_op (i := 6) (v := ?vs6) rfl (by kernel_rfl) (by kernel_rfl) (by kernel_rfl) (fun _ _ _ h => h) rfl hHeld ?ys6 ?rs6
                case ys6 => (intro wz hz; go_simp; first | done | with_reducible rfl)
                try simp only [Act.put, List.setIfInBounds_toArray, List.set_cons_zero, List.set_cons_succ]
                refine take_op (i := 7) (v := ?vs7) rfl (by kernel_rfl) (by kernel_rfl) (by kernel_rfl) (fun _ _ _ h => h) rfl hHeld ?ys7 ?rs7
                case ys7 => (intro wz hz; go_simp; first | done | with_reducible rfl)
                try simp only [Act.put, List.setIfInBounds_toArray, List.set_cons_zero, List.set_cons_succ]
                refine take_one (i := 8) rfl (by kernel_rfl) rfl (fun K hK => ?_)
                go_simp
                refine (awake_any _).mono ?_
                rintro e w12 ⟨rfl, hb12⟩
                refine hK.out _ _ ⟨hHeld.1.trans (hb12.mono hHeld.1.size), hHeld.2.below hb12 (Nat.le_refl _)⟩ (fun hHeld => ?_)
                clear hK K
                try simp only [Act.put, List.setIfInBounds_toArray, List.set_cons_zero, List.set_cons_succ]
                refine take_op (i := 9) (v := ?vs9) rfl (by kernel_rfl) (by kernel_rfl) (by kernel_rfl) (fun _ _ _ h => h) rfl hHeld ?ys9 ?rs9
                case ys9 => (intro wz hz; go_simp; first | done | with_reducible rfl)
                try simp only [Act.put, List.setIfInBounds_toArray, List.set_cons_zero, List.set_cons_succ]
                refine take_op (i := 10) (v := ?vs10) rfl (by kernel_rfl) (by kernel_rfl) (by kernel_rfl) (fun _ _ _ h => h) rfl hHeld ?ys10 ?rs10
                case ys10 => (intro wz hz; go_simp; first | done | with_reducible rfl)
                try simp only [Act.put, List.setIfInBounds_toArray, List.set_cons_zero, List.set_cons_succ]
                refine wpAnyH_done (by kernel_rfl) ?_ _
                refine NoPanic.normal ?_
                have R12 : Hid _ := hHeld.1
                clear hHeld hn11 hb11 hb12
                go_wp2
                go_ret
                exact ⟨rfl, B7.out.trans (R12.out.mono hs7)⟩
end Go.Proofs.Ytldjefhgbigplaa
