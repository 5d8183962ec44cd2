import Derived.Test.YtldjefhgbigplaaRefSumsW
import Derived.Lib.ConvBytes
namespace Go.Proofs.Ytldjefhgbigplaa
open Go.RowKit Go.Deep

/-- []byte(s). -/
theorem string_bytes_run (w : World) (s : ByteArray) (hs : s.size ≤ 1000000000000) :
    ∃ v' w', (convert 9 22 (.string s)).run Try.prog w = .ok v' w' ∧ isBytes w' v' (sBytes s) ∧ Below w.heap.size w w' := by
  have hge := grownCap_ge w s.size 0 5
  have hcm : grownCap w s.size 0 5 ≤ maxLen := grownCap_le_maxLen w s.size 0 5 (by unfold maxLen; omega)
  refine ⟨_, _, Go.Lib.run_convert_string_bytes w 9 22 5 s Try.underlying9 Try.underlying22 Try.underlying5, Or.inr ⟨w.heap.size, 0, _, by rw [sBytes_length], by rw [sBytes_length]; exact hge, hcm, by rw [Go.Lib.bytesWorld_size]; omega, fun i hi => ?_, sBytes_byte s⟩, rfl, rfl, rfl, by rw [Go.Lib.bytesWorld_size]; omega, fun k hk => Go.Lib.bytesWorld_at_old w _ s k hk⟩
  rw [sBytes_length] at hi
  rw [Nat.zero_add, Go.Lib.bytesWorld_cell w _ s i hi]
  congr 2
  have hi' : i < s.data.toList.length := by rw [Array.length_toList]; exact hi
  rw [sBytes, List.getD_eq_getElem?_getD, List.getD_eq_getElem?_getD, List.getElem?_map, List.getElem?_eq_getElem hi']
  rfl
theorem part_one (w : World) (v : Value) (p : List Int) (h : isBytes w v p) : isParts (w.alloc (.cells #[v] 22)) (.slice (some ⟨w.heap.size, 0, none⟩) 1 1) 1 (fun _ => p) :=
  Or.inr ⟨w.heap.size, 0, 1, fun _ => v, rfl, by simp, by unfold maxLen; omega, fun i hi => by
    obtain rfl : i = 0 := by omega
    exact ⟨one_cell w _ _, Or.inl (h.below ((Below.refl _ _).alloc (Nat.le_refl _) _) (Nat.le_refl _))⟩⟩
set_option maxHeartbeats 1000000 in
theorem rtexts_any (l : List Int) (v u : Value) (n : Nat) (ss : Nat → ByteArray) (w : World) (hv : isBytes w v l) (hu : isRow w u n (fun i => .string (ss i))) (hs : ∀ i, i ≤ n → l.length + (flatTo (blobsB fun i => sBytes (ss i)) i).length ≤ 1000000000000) :
    Calls Try.prog 17 #[v, u] w fun e w' => ∃ v', e = .returned v' ∧ newBytes w' w.heap.size v' (l ++ flatTo (blobsB fun i => sBytes (ss i)) n) ∧ Below w.heap.size w w' := by
  obtain ⟨a, cap, rfl, hnm, hcell⟩ := hu.open
  clear hu
  have hs0 := hs 0 (by omega)
  obtain ⟨v1, w1, hr1, hn1, hb1⟩ := bytes_copy_run w v l hv (by omega)
  have HN : Hid _ := hn1
  have HB : Hid _ := hb1
  obtain ⟨va, vc, rfl, _⟩ := hv.slice
  clear hv hn1 hb1
  unfold maxLen at hnm
  have q0 : (n : Int) ≤ 9223372036854775807 := by omega
  have HS : Hid _ := hs
  clear hs
  go_enter Try.func17, Try.ntmps17
  go_wp2_with (first | (at_builtin; refine wpList_append_run rfl (.tmp 7) (.tmp 8) _ rfl rfl rfl hr1 ?_))
  clear hr1
  go_loopw [5, 6] (fun z i wr => ∃ j : Nat, j ≤ n ∧ i = .int .i64 j ∧ newBytes wr w.heap.size z (l ++ flatTo (blobsB fun i => sBytes (ss i)) j) ∧ Below w.heap.size w wr) (fun _ i _ => n - (intOf i).toNat)
  case atStart => exact ⟨0, by omega, rfl, by rw [flatTo, List.append_nil]; exact HN.out, HB.out⟩
  case round =>
    clear HN HB
    obtain ⟨j, hj, rfl, hn, hb⟩ := hrel
    by_cases hlt2 : j < n
    · obtain ⟨qb, qo, rfl, hq, hc⟩ := hcell j hlt2
      have b0 : (0 : Int) ≤ (j : Int) := by omega
      have b1 : (j : Int) < (n : Int) := by omega
      have hlj := HS.out (j + 1) hlt2
      rw [flatTo, List.length_append] at hlj
      have hlj2 : (blobB (sBytes (ss j))).length = (blobsB (fun i => sBytes (ss i)) j).length := rfl
      have hbl := blobB_length (sBytes (ss j))
      rw [sBytes_length] at hbl
      rw [← hb.cell (p := ⟨qb, qo + j, none⟩) hq] at hc
      have hs1 := hb.size
      obtain ⟨v2, w2, hr2, hi2, hb2⟩ := string_bytes_run wr (ss j) (by omega)
      have hs2 := hb2.size
      obtain ⟨ua, uc, rfl, _⟩ := hi2.slice
      have hn2 := hn.below hb2 (Nat.le_refl _)
      have hpt := part_one w2 _ _ hi2
      have ha2 : Below w2.heap.size w2 (w2.alloc (.cells #[.slice ua (sBytes (ss j)).length uc] 22)) := (Below.refl _ _).alloc (Nat.le_refl _) _
      have X := rblobs_any (l ++ flatTo (blobsB fun i => sBytes (ss i)) j) u5 _ 1 (fun _ => sBytes (ss j)) _ ((newBytes.is hn2).below ha2 (Nat.le_refl _)) hpt (fun i hi => by
        have : i = 0 ∨ i = 1 := by omega
        rw [List.length_append]
        rcases this with rfl | rfl
        · simp only [flatTo, List.length_nil]; omega
        · rw [show flatTo (blobsB fun _ => sBytes (ss j)) 1 = blobB (sBytes (ss j)) from rfl]; omega)
      have HB2 : Hid _ := hb.trans ((hb2.mono hs1).trans (ha2.mono (by omega)))
      have hcv := hr2
      clear hn hb hn2 hi2 hpt hb2 hr2 ha2
      go_wp2_with fail
      refine X.mono ?_
      rintro e w3 ⟨v3, rfl, hn3, hb3⟩
      rw [show flatTo (blobsB fun _ => sBytes (ss j)) 1 = blobsB (fun i => sBytes (ss i)) j from rfl, List.append_assoc] at hn3
      have HN3 : Hid _ := hn3.mono HB2.out.size
      have HB3 : Hid _ := HB2.out.trans (hb3.mono HB2.out.size)
      clear X hn3 hb3 HB2 hcv
      go_wp2
      go_light
      exact ⟨⟨j + 1, by omega, by go_num, by rw [flatTo]; exact HN3.out, HB3.out⟩, by simp [intOf]; omega⟩
    · obtain rfl : j = n := by omega
      have HN : Hid _ := hn
      clear hn
      go_wp2
      go_ret
      exact ⟨_, rfl, HN.out, hb⟩
end Go.Proofs.Ytldjefhgbigplaa
