import Derived.Test.YtldjefhgbigplaaRefNum
import Derived.Test.YtldjefhgbigplaaPackSums
/- The document's writers. -/
namespace Go.Proofs.Ytldjefhgbigplaa
open Go.RowKit Go.Deep

set_option maxHeartbeats 1000000 in
theorem rnums_any (l : List Int) (v u : Value) (n : Nat) (f : Nat → Int) (w : World) (hv : isBytes w v l) (hu : isRow w u n (fun i => .int .u64 (f i))) (hf : ∀ i, i < n → 0 ≤ f i ∧ f i < 18446744073709551616) (hs : l.length + 9 * n ≤ 1000000000000) :
    Calls Try.prog 14 #[v, u] w fun e w' => ∃ v', e = .returned v' ∧ newBytes w' w.heap.size v' (l ++ flatTo (numsB f) n) ∧ Below w.heap.size w w' := by
  obtain ⟨a, cap, rfl, hnm, hcell⟩ := hu.open
  clear hu
  have hlen := flatTo_len_le (numsB f) 9 (numsB_le f)
  obtain ⟨v1, w1, hr1, hn1, hb1⟩ := bytes_copy_run w v l hv (by omega)
  have HN : Hid _ := hn1
  have HB : Hid _ := hb1
  obtain ⟨va, vc, rfl, _⟩ := hv.slice
  clear hv hn1 hb1
  have q0 : (n : Int) ≤ 1000000000000 := by omega
  go_enter Try.func14, Try.ntmps14
  go_wp2_with (first | (at_builtin; refine wpList_append_run rfl (.tmp 7) (.tmp 8) _ rfl rfl rfl hr1 ?_))
  clear hr1
  go_loopw [5, 6] (fun z i wr => ∃ j : Nat, j ≤ n ∧ i = .int .i64 j ∧ newBytes wr w.heap.size z (l ++ flatTo (numsB f) j) ∧ Below w.heap.size w wr) (fun _ i _ => n - (intOf i).toNat)
  case atStart => exact ⟨0, by omega, rfl, by rw [flatTo, List.append_nil]; exact HN.out, HB.out⟩
  case round =>
    clear HN HB
    obtain ⟨j, hj, rfl, hn, hb⟩ := hrel
    by_cases hlt2 : j < n
    · obtain ⟨qb, qo, rfl, hq, hc⟩ := hcell j hlt2
      obtain ⟨f0, f1⟩ := hf j hlt2
      have b0 : (0 : Int) ≤ (j : Int) := by omega
      have b1 : (j : Int) < (n : Int) := by omega
      have hlj := hlen j
      rw [← hb.cell (p := ⟨qb, qo + j, none⟩) hq] at hc
      have hs0 := hb.size
      have HN : Hid _ := hn
      have HB : Hid _ := hb
      clear hn hb
      go_wp2_with fail
      refine (rnumber_any (f j) f0 f1 _).mono ?_
      rintro e w2 ⟨v2, rfl, hn2, hb2⟩
      have hn2' := newBytes.below HN.out hb2 (Nat.le_refl _)
      obtain ⟨v3, w3, hr3, hn3, hg3, _⟩ := bytes_append_run w2 w.heap.size u5 v2 _ (numB (f j)) hn2' hn2.is (by rw [List.length_append, numB_length]; have := szI_le (f j); omega) (by have := hb2.size; omega)
      have HN3 : Hid _ := hn3
      have HB3 : Hid _ := HB.out.trans ((hb2.mono hs0).trans (below_grown hg3 (fun q hq2 => (hn2'.block q hq2).1) (by have := hb2.size; omega)))
      clear hn2 hb2 hn3 hg3 hn2' HN HB
      go_wp2_with (first | (at_builtin; refine wpList_append_run rfl (.tmp 16) (.tmp 21) _ rfl rfl rfl hr3 ?_))
      go_light
      exact ⟨⟨j + 1, by omega, by go_num, by rw [flatTo, ← List.append_assoc]; exact HN3.out, HB3.out⟩, by simp [intOf]; omega⟩
    · obtain rfl : j = n := by omega
      have HN : Hid _ := hn
      clear hn
      go_wp2
      go_ret
      exact ⟨_, rfl, HN.out, hb⟩
set_option maxHeartbeats 1000000 in
theorem rblobs_any (l : List Int) (v u : Value) (n : Nat) (ps : Nat → List Int) (w : World) (hv : isBytes w v l) (hu : isParts w u n ps) (hs : ∀ i, i ≤ n → l.length + (flatTo (blobsB ps) i).length ≤ 1000000000000) :
    Calls Try.prog 15 #[v, u] w fun e w' => ∃ v', e = .returned v' ∧ newBytes w' w.heap.size v' (l ++ flatTo (blobsB ps) n) ∧ Below w.heap.size w w' := by
  obtain ⟨a, cap, rfl, hnm, hcell⟩ := hu.open
  clear hu
  have hs0 := hs 0 (by omega)
  obtain ⟨v1, w1, hr1, hn1, hb1⟩ := bytes_copy_run w v l hv (by omega)
  have HN : Hid _ := hn1
  have HB : Hid _ := hb1
  obtain ⟨va, vc, rfl, _⟩ := hv.slice
  clear hv hn1 hb1
  unfold maxLen at hnm
  have q0 : (n : Int) ≤ 9223372036854775807 := by omega
  have HS : Hid _ := hs
  clear hs
  go_enter Try.func15, Try.ntmps15
  go_wp2_with (first | (at_builtin; refine wpList_append_run rfl (.tmp 7) (.tmp 8) _ rfl rfl rfl hr1 ?_))
  clear hr1
  go_loopw [5, 6] (fun z i wr => ∃ j : Nat, j ≤ n ∧ i = .int .i64 j ∧ newBytes wr w.heap.size z (l ++ flatTo (blobsB ps) j) ∧ Below w.heap.size w wr) (fun _ i _ => n - (intOf i).toNat)
  case atStart => exact ⟨0, by omega, rfl, by rw [flatTo, List.append_nil]; exact HN.out, HB.out⟩
  case round =>
    clear HN HB
    obtain ⟨j, hj, rfl, hn, hb⟩ := hrel
    by_cases hlt2 : j < n
    · obtain ⟨qb, qo, y, rfl, hq, hc, hy⟩ := hcell j hlt2
      have HYB : Hid _ := fun (w9 : World) (h9 : Below w.heap.size w w9) => hy.below h9 (Nat.le_refl _)
      have HC : Hid _ := fun (w9 : World) (h9 : Below w.heap.size w w9) => (h9.cell (p := ⟨qb, qo + j, none⟩) hq).trans hc
      obtain ⟨ya, yc, rfl, hym⟩ := hy.slice
      have b0 : (0 : Int) ≤ (j : Int) := by omega
      have b1 : (j : Int) < (n : Int) := by omega
      have hlj := HS.out (j + 1) hlt2
      rw [flatTo, List.length_append, blobsB, blobB_length] at hlj
      rw [← hb.cell (p := ⟨qb, qo + j, none⟩) hq] at hc
      have hM2 : ((ps j).length : Int) ≤ 1000000000000 := by omega
      have hs1 := hb.size
      have HN : Hid _ := hn
      have HB : Hid _ := hb
      clear hn hb hy
      go_wp2_with fail
      refine (rnumber_any ((ps j).length : Int) (by omega) (by omega) _).mono ?_
      rintro e w2 ⟨v2, rfl, hn2, hb2⟩
      have hn2' := newBytes.below HN.out hb2 (Nat.le_refl _)
      obtain ⟨v3, w3, hr3, hn3, hg3, _⟩ := bytes_append_run w2 w.heap.size u5 v2 _ (numB (ps j).length) hn2' hn2.is (by rw [List.length_append, numB_length]; omega) (by have := hb2.size; omega)
      have hB3 : Below w.heap.size w w3 := HB.out.trans ((hb2.mono hs1).trans (below_grown hg3 (fun q hq2 => (hn2'.block q hq2).1) (by have := hb2.size; omega)))
      have hc3 := HC.out w3 hB3
      obtain ⟨v4, w4, hr4, hn4, hg4, _⟩ := any_append_run w3 w.heap.size v3 _ _ (ps j) hn3 (HYB.out w3 hB3) (by rw [List.length_append, List.length_append, numB_length]; omega) hB3.size
      have HN4 : Hid _ := hn4
      have HB4 : Hid _ := hB3.trans (below_grown hg4 (fun q hq2 => (hn3.block q hq2).1) hB3.size)
      clear hn2 hb2 hn3 hg3 hn2' HN HB hn4 hg4 hB3 HC HYB
      go_wp2_with (first | (at_builtin; refine wpList_append_run rfl (.tmp 16) (.tmp 23) _ rfl rfl rfl hr3 ?_) | (at_builtin; refine wpList_append_run rfl (.tmp 25) (.tmp 29) _ rfl rfl rfl hr4 ?_))
      go_light
      exact ⟨⟨j + 1, by omega, by go_num, by rw [flatTo, ← List.append_assoc, blobsB, blobB, ← List.append_assoc]; exact HN4.out, HB4.out⟩, by simp [intOf]; omega⟩
    · obtain rfl : j = n := by omega
      have HN : Hid _ := hn
      clear hn
      go_wp2
      go_ret
      exact ⟨_, rfl, HN.out, hb⟩
end Go.Proofs.Ytldjefhgbigplaa
