import Derived.Test.YtldjefhgbigplaaRefNums
namespace Go.Proofs.Ytldjefhgbigplaa
open Go.RowKit Go.Deep

theorem take_succ_getD (q : List Int) (k : Nat) (h : k < q.length) : q.take (k + 1) = q.take k ++ [q.getD k 0] := by
  rw [List.take_succ_eq_append_getElem h, List.getD_eq_getElem?_getD, List.getElem?_eq_getElem h]; rfl
set_option maxHeartbeats 1000000 in
theorem rsums_any (l : List Int) (v u : Value) (n : Nat) (g : Nat → List Int) (w : World) (hv : isBytes w v l) (hu : isSums w u n g) (hs : l.length + 32 * n ≤ 1000000000000) :
    Calls Try.prog 16 #[v, u] w fun e w' => ∃ v', e = .returned v' ∧ newBytes w' w.heap.size v' (l ++ flatTo g n) ∧ Below w.heap.size w w' := by
  obtain ⟨a, cap, rfl, hnm, hcell⟩ := hu.open
  have h32 := hu.1
  have hlen := flatTo_32 g n (fun i hi => (h32 i hi).1)
  clear hu
  obtain ⟨v1, w1, hr1, hn1, hb1⟩ := bytes_copy_run w v l hv (by omega)
  have HN : Hid _ := hn1
  have HB : Hid _ := hb1
  obtain ⟨va, vc, rfl, _⟩ := hv.slice
  clear hv hn1 hb1
  have q0 : (n : Int) ≤ 1000000000000 := by omega
  go_enter Try.func16, Try.ntmps16
  go_wp2_with (first | (at_builtin; refine wpList_append_run rfl (.tmp 8) (.tmp 9) _ rfl rfl rfl hr1 ?_))
  clear hr1
  go_loopw [5, 6] (fun z i wr => ∃ j : Nat, j ≤ n ∧ i = .int .i64 j ∧ newBytes wr w.heap.size z (l ++ flatTo g j) ∧ Below w.heap.size w wr) (fun _ i _ => n - (intOf i).toNat)
  case atStart => exact ⟨0, by omega, rfl, by rw [flatTo, List.append_nil]; exact HN.out, HB.out⟩
  case round =>
    clear HN HB
    obtain ⟨j, hj, rfl, hn, hb⟩ := hrel
    by_cases hlt2 : j < n
    · obtain ⟨qb, qo, rfl, hq, hc⟩ := hcell j hlt2
      obtain ⟨g1, g2⟩ := h32 j hlt2
      have b0 : (0 : Int) ≤ (j : Int) := by omega
      have b1 : (j : Int) < (n : Int) := by omega
      have hlj := hlen j (by omega)
      have HN : Hid _ := hn
      have HB : Hid _ := hb
      have HC : Hid _ := hc
      clear hn hb hc hcell h32 hlen
      go_wp2
      go_loopw [5, 7] (fun z i wq => ∃ k : Nat, k ≤ 32 ∧ i = .int .i64 k ∧ newBytes wq w.heap.size z (l ++ flatTo g j ++ (g j).take k) ∧ Below w.heap.size w wq) (fun _ i _ => 32 - (intOf i).toNat)
      case atStart => exact ⟨0, by omega, rfl, by rw [List.take_zero, List.append_nil]; exact HN.out, HB.out⟩
      case round =>
        clear HN HB
        obtain ⟨k, hk, rfl, hn, hb⟩ := hrel
        by_cases hlt3 : k < 32
        · have c0 : (0 : Int) ≤ (k : Int) := by omega
          have c1 : (k : Int) < 32 := by omega
          have e0 := (hb.cell (p := ⟨qb, qo + j * 32 + k, none⟩) hq).trans (HC.out k hlt3)
          unfold arrV at e0
          obtain ⟨v3, w3, hr3, hn3, hb3⟩ := byte_append_run _ w.heap.size u5 _ ((g j).getD k 0) (g2 k).1 (g2 k).2 hn (by rw [List.length_append, List.length_append, List.length_take]; omega) hb.size
          have HN3 : Hid _ := hn3
          have HB3 : Hid _ := hb.trans hb3
          have HT : Hid _ := take_succ_getD (g j) k (by omega)
          generalize (g j).getD k 0 = x at *
          clear hn hb hn3 hb3
          go_wp2_with (first | (at_builtin; refine wpList_append_run rfl (.tmp 21) (.tmp 28) _ rfl rfl rfl hr3 ?_))
          go_light
          exact ⟨⟨k + 1, by omega, by go_num, by rw [HT.out, ← List.append_assoc]; exact HN3.out, HB3.out⟩, by simp [intOf]; omega⟩
        · obtain rfl : k = 32 := by omega
          have HN : Hid _ := hn
          have HB : Hid _ := hb
          have HT : Hid _ := List.take_of_length_le (show (g j).length ≤ 32 by omega)
          clear hn hb
          go_wp2
          go_light
          exact ⟨⟨j + 1, by omega, by go_num, by rw [flatTo, ← List.append_assoc, ← HT.out]; exact HN.out, HB.out⟩, by simp [intOf]; omega⟩
    · obtain rfl : j = n := by omega
      have HN : Hid _ := hn
      clear hn hcell
      go_wp2
      go_ret
      exact ⟨_, rfl, HN.out, hb⟩
end Go.Proofs.Ytldjefhgbigplaa
