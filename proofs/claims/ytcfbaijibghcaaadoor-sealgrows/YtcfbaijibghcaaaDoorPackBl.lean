import Derived.Test.YtcfbaijibghcaaaDoorPackRow
import Derived.Test.YtcfbaijibghcaaaDoorAppStr
namespace Go.Proofs.YtcfbaijibghcaaaDoor
set_option maxRecDepth 100000
open Go.RowKit Go.Deep

/-- a blob. -/
def blobB (p : List Int) : List Int := numB p.length ++ p
def blobsB (ps : Nat → List Int) (i : Nat) : List Int := blobB (ps i)
theorem blobB_length (p : List Int) : (blobB p).length = 1 + szI p.length + p.length := by rw [blobB, List.length_append, numB_length]
set_option maxHeartbeats 1000000 in
theorem blob_any' (l : List Int) (v u : Value) (n : Nat) (ps : Nat → List Int) (w : World) (hv : isBytes w v l) (hu : anyParts w u n ps) (hs : ∀ i, i ≤ n → l.length + (flatTo (blobsB ps) i).length ≤ 1000000000000) :
    Calls Tryd.prog 33 #[v, u] w fun e w' => ∃ v', e = .returned v' ∧ newBytes w' w.heap.size v' (l ++ flatTo (blobsB ps) n) ∧ Below w.heap.size w w' := by
  obtain ⟨a, cap, rfl, hnm, hcell⟩ := hu.open
  clear hu
  unfold maxLen at hnm
  go_enter Tryd.func33, Tryd.ntmps33
  go_wp2
  go_loopw [5, 13] (fun z i wr => ∃ k : Nat, k ≤ n ∧ i = .int .i64 k ∧ z = .int .i64 ((flatTo (blobsB ps) k).length : Int) ∧ wr = w) (fun _ i _ => n - (intOf i).toNat)
  case atStart => exact ⟨0, by omega, rfl, rfl, rfl⟩
  case round =>
    obtain ⟨k, hk, rfl, rfl, hwr⟩ := hrel
    obtain rfl := hwr.symm
    clear hwr
    have hlk := hs k hk
    by_cases hlt : k < n
    · obtain ⟨qb, qo, y, rfl, hq, hc, hy⟩ := hcell k hlt
      obtain ⟨ya, yc, rfl, hym⟩ := hy.slice
      clear hy
      have b0 : (0 : Int) ≤ (k : Int) := by omega
      have b1 : (k : Int) < (n : Int) := by omega
      have hsz := szI_le ((ps k).length : Int)
      have hsk := hs (k + 1) hlt
      have HL0 : (flatTo (blobsB ps) (k + 1)).length = (flatTo (blobsB ps) k).length + (1 + szI ((ps k).length : Int) + (ps k).length) := by rw [flatTo, List.length_append, blobsB, blobB_length]
      rw [HL0] at hsk
      have HL : Hid _ := HL0
      clear HL0
      generalize hLL : (flatTo (blobsB ps) k).length = L at *
      have hM : (ps k).length ≤ 1000000000000 := by omega
      have hM2 : ((ps k).length : Int) ≤ 1000000000000 := by omega
      have hL : (L : Int) ≤ 1000000000000 := by omega
      go_wp2_with (first | (go_at_call 43; refine (partSize_any (ps k).length (by omega) _).mono ?_; rintro e w' ⟨rfl, hw⟩; obtain rfl := hw.symm; clear hw))
      go_light
      exact ⟨⟨k + 1, by omega, by go_num, by rw [HL.out]; go_num, trivial⟩, by simp [intOf]; omega⟩
    · obtain rfl : k = n := by omega
      have HS : Hid _ := hs
      clear hs
      generalize hLL : (flatTo (blobsB ps) k).length = L at *
      go_wp2_with (first | (go_at_call 44; refine (withRoom_any l v L _ hv (by omega)).mono ?_; rintro e w1 ⟨v1, rfl, hn1, hb1⟩))
      have HN : Hid _ := hn1
      have HB : Hid _ := hb1
      clear hn1 hb1 hLL
      go_loopw [8, 28] (fun z i wr => ∃ j : Nat, j ≤ k ∧ i = .int .i64 j ∧ newBytes wr w.heap.size z (l ++ flatTo (blobsB ps) j) ∧ Below w.heap.size w wr) (fun _ i _ => k - (intOf i).toNat)
      case atStart => exact ⟨0, by omega, rfl, by rw [flatTo, List.append_nil]; exact HN.out, HB.out⟩
      case round =>
        clear HN HB
        obtain ⟨j, hj, rfl, hn, hb⟩ := hrel
        by_cases hlt2 : j < k
        · obtain ⟨qb, qo, y, rfl, hq, hc, hy⟩ := hcell j hlt2
          have HYB : Hid _ := fun (w9 : World) (h9 : Below w.heap.size w w9) => hy.below h9 (Nat.le_refl _)
          obtain ⟨ya, yc, rfl, hym⟩ := hy.slice
          clear hy
          have b0 : (0 : Int) ≤ (j : Int) := by omega
          have b1 : (j : Int) < (k : Int) := by omega
          have hlj := HS.out (j + 1) hlt2
          rw [flatTo, List.length_append, blobsB, blobB_length] at hlj
          rw [← hb.cell (p := ⟨qb, qo + j, none⟩) hq] at hc
          have HN : Hid _ := hn
          have hbs := hb.size
          clear hn
          have hM : (ps j).length ≤ 1000000000000 := by omega
          have hM2 : ((ps j).length : Int) ≤ 1000000000000 := by omega
          go_wp2_with fail
          refine (addNumber_any ((ps j).length : Int) (by omega) (by omega) _ _ _ _ HN.out (by rw [List.length_append]; omega) hb.size).mono ?_
          rintro e w2 ⟨v2, rfl, hn2, hb2⟩
          obtain ⟨v3, w3, hr3, hn3, hg3, _⟩ := any_append_run w2 w.heap.size v2 _ _ (ps j) hn2 (HYB.out w2 (hb.trans hb2)) (by rw [List.length_append, List.length_append, numB_length]; omega) (by have := hb2.size; omega)
          have hb3 := below_grown hg3 (fun q hq2 => (hn2.block q hq2).1) (by have := hb2.size; omega)
          have HN3 : Hid _ := hn3
          have HB3 : Hid _ := hb.trans (hb2.trans hb3)
          clear hn2 hb2 hn3 hb3 hb HN hg3
          go_wp2_with (first | (at_builtin; refine wpList_append2_run rfl _ _ _ _ rfl rfl rfl hr3 ?_))
          go_light
          exact ⟨⟨j + 1, by omega, by go_num, by rw [flatTo, ← List.append_assoc, blobsB, blobB, ← List.append_assoc]; exact HN3.out, HB3.out⟩, by simp [intOf]; omega⟩
        · obtain rfl : j = k := by omega
          have HN : Hid _ := hn
          clear hn
          go_wp2
          go_ret
          exact ⟨_, rfl, HN.out, hb⟩
theorem blob_any (l : List Int) (v u : Value) (n : Nat) (ps : Nat → List Int) (w : World) (hv : isBytes w v l) (hu : isParts w u n ps) (hs : ∀ i, i ≤ n → l.length + (flatTo (blobsB ps) i).length ≤ 1000000000000) :
    Calls Tryd.prog 33 #[v, u] w fun e w' => ∃ v', e = .returned v' ∧ newBytes w' w.heap.size v' (l ++ flatTo (blobsB ps) n) ∧ Below w.heap.size w w' := blob_any' l v u n ps w hv hu.any hs
end Go.Proofs.YtcfbaijibghcaaaDoor
