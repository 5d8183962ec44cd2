import Derived.Test.YtldjefhgbigplaaPackRisP
namespace Go.Proofs.Ytldjefhgbigplaa
open Go.RowKit Go.Deep

theorem newBytes_one (w : World) (b : Int) (h0 : 0 ≤ b) (h1 : b ≤ 255) : newBytes (w.alloc (.cells #[.int .u8 b] 5)) w.heap.size (.slice (some ⟨w.heap.size, 0, none⟩) 1 1) [b] :=
  ⟨⟨rfl, Or.inr ⟨w.heap.size, 1, _, rfl, Nat.le_refl _, blk_alloc_new _ _, by simp, by unfold maxLen; omega, rfl, rfl⟩⟩, fun i => by cases i <;> simp <;> omega⟩
theorem isBytes.cellAt {w : World} {v : Value} {l : List Int} (h : isBytes w v l) (i : Nat) (hi : i < l.length) : ∃ pb po cap, v = .slice (some ⟨pb, po, none⟩) l.length cap ∧ w.cell? ⟨pb, po + i, none⟩ = some (.int .u8 (l.getD i 0)) := by
  rcases h with ⟨_, rfl⟩ | ⟨pb, po, cap, rfl, h2, h3, h4, h6, h7⟩
  · simp at hi
  · exact ⟨pb, po, cap, rfl, h6 i hi⟩
theorem reverse_take_succ (l : List Int) (j : Nat) (h0 : 0 < j) (hj : j ≤ l.length) : l.reverse.take (l.length - (j - 1)) = l.reverse.take (l.length - j) ++ [l.getD (j - 1) 0] := by
  have e : l.length - (j - 1) = (l.length - j) + 1 := by omega
  rw [e, List.take_succ_eq_append_getElem (by simp; omega)]
  congr 2
  rw [List.getElem_reverse, List.getD_eq_getElem?_getD, List.getElem?_eq_getElem (by omega)]
  simp only [Option.getD_some]
  congr 1
  omega
set_option maxHeartbeats 1000000 in
theorem rnumber_any (x : Int) (h0 : 0 ≤ x) (h1 : x < 18446744073709551616) (w : World) :
    Calls Try.prog 33 #[.int .u64 x] w fun e w' => ∃ v, e = .returned v ∧ newBytes w' w.heap.size v (numB x) ∧ Below w.heap.size w w' := by
  go_enter Try.func33, Try.ntmps33
  go_wp2
  go_loopw [0, 3] (fun z v wr => ∃ (t : Int) (lw : List Int), 0 ≤ t ∧ t ≤ x ∧ z = .int .u64 t ∧ lw.length + szI t = szI x ∧ digsI x (szI x) = digsI t (szI t) ++ lw.reverse ∧ newBytes wr w.heap.size v lw ∧ Below w.heap.size w wr) (fun z _ _ => szI (intOf z))
  case atStart => exact ⟨x, [], h0, Int.le_refl _, rfl, by simp, by simp, newBytes.nil _ _, Below.refl _ _⟩
  case round =>
    obtain ⟨t, lw, t0, t1, rfl, hlen, hdig, hn, hb⟩ := hrel
    have hz := szI_le x
    by_cases hlt : 0 < t
    · have hd := szI_div t (by omega) (by omega)
      obtain ⟨v2, w2, hr2, hn2, hb2⟩ := byte_append_run wr w.heap.size u3 lw (t % 256) (by omega) (by omega) hn (by omega) hb.size
      have HN : Hid _ := hn2
      have HB : Hid _ := hb.trans hb2
      have HG : Hid _ := hdig
      have HD : Hid _ := hd
      have HE : Hid _ := hlen
      have HS : Hid (digsI t (szI t) = digsI (t / 256) (szI (t / 256)) ++ [t % 256]) := by
        have : digsI t (szI t) = digsI (t / 256) (szI (t / 256)) ++ [t % 256] := by rw [← hd, digsI_succ]
        exact this
      clear hn hb hn2 hb2 hdig hd hlen
      go_wp2_with (first | (at_builtin; refine wpList_append_run rfl _ _ _ rfl rfl rfl hr2 ?_))
      go_light
      refine ⟨⟨t / 256, lw ++ [t % 256], by omega, by omega, rfl, by have := HD.out; have := HE.out; simp; omega, ?_, HN.out, HB.out⟩, by have := HD.out; simp [intOf]; omega⟩
      rw [HG.out, HS.out, List.reverse_append]; simp
    · obtain rfl : t = 0 := by omega
      obtain ⟨wm, hwm⟩ : ∃ wm, wm = wr := ⟨wr, rfl⟩
      subst hwm
      have hz0 : szI 0 = 0 := rfl
      rw [hz0] at hlen hdig
      have hd0 : digsI x (szI x) = lw.reverse := by rw [hdig]; rfl
      have hl8 : (lw.length : Int) ≤ 8 := by omega
      have hlz : lw.length = szI x := by omega
      obtain ⟨la, lc, rfl, _⟩ := hn.is.slice
      have hsz := hb.size
      have n1 := newBytes_one wm (lw.length : Int) (by omega) (by omega)
      have hb1 : Below wm.heap.size wm (wm.alloc (.cells #[.int .u8 (lw.length : Int)] 5)) := (Below.refl _ _).alloc (Nat.le_refl _) _
      have HN1 : Hid _ := n1
      have HB1 : Hid _ := hb1
      have HL : Hid _ := hn.is
      have HD0 : Hid _ := hd0
      have HLZ : Hid _ := hlz
      have HB : Hid _ := hb
      clear n1 hb1 hn hd0 hdig hlen hlz hb
      go_wp2
      go_loopw [4, 5] (fun v i wq => ∃ j : Nat, j ≤ lw.length ∧ i = .int .i64 j ∧ newBytes wq wm.heap.size v ([(lw.length : Int)] ++ lw.reverse.take (lw.length - j)) ∧ Below wm.heap.size wm wq) (fun _ i _ => (intOf i).toNat)
      case atStart => exact ⟨lw.length, Nat.le_refl _, rfl, by rw [Nat.sub_self, List.take_zero, List.append_nil]; exact HN1.out, HB1.out⟩
      case round =>
        clear HN1 HB1
        obtain ⟨j, hj, rfl, hn, hb⟩ := hrel
        by_cases hlt2 : 0 < j
        · obtain ⟨pb, po, cap, he, hc⟩ := isBytes.cellAt (isBytes.below HL.out hb (Nat.le_refl _)) (j - 1) (by omega)
          have he' : la = some ⟨pb, po, none⟩ ∧ lc = cap := by simpa using he
          obtain ⟨rfl, rfl⟩ := he'
          have hby := isBytes.byte HL.out (j - 1)
          obtain ⟨v2, w2, hr2, hn2, hb2⟩ := byte_append_run _ wm.heap.size u4 _ (lw.getD (j - 1) 0) hby.1 hby.2 hn (by simp; omega) hb.size
          have HN : Hid _ := hn2
          have HBq : Hid _ := hb.trans hb2
          have HT : Hid _ := reverse_take_succ lw j hlt2 hj
          obtain ⟨m, rfl⟩ : ∃ m, j = m + 1 := ⟨j - 1, by omega⟩
          simp only [Nat.add_sub_cancel] at hc hr2
          have q0 : (0 : Int) < ((m + 1 : Nat) : Int) := by omega
          have q1 : (m : Int) < (lw.length : Int) := by omega
          have q2 : ((m + 1 : Nat) : Int) - 1 = (m : Int) := by omega
          have q3 : ((m : Int) + 1) - 1 = (m : Int) := by omega
          clear hn hb hn2 hb2 he
          go_wp2_with (first | (at_builtin; refine wpList_append_run rfl _ _ _ rfl rfl rfl hr2 ?_))
          go_light
          refine ⟨⟨m, by omega, rfl, ?_, HBq.out⟩, by simp only [intOf]; omega⟩
          have h3 := HT.out
          simp only [Nat.add_sub_cancel] at h3
          rw [h3, ← List.append_assoc]; exact HN.out
        · obtain rfl : j = 0 := by omega
          have HN : Hid _ := hn
          have HBq : Hid _ := hb
          clear hn hb
          go_wp2
          go_ret
          refine ⟨_, rfl, ?_, Below.trans HB.out (HBq.out.mono HB.out.size)⟩
          have h3 := newBytes.mono HN.out hsz
          rw [Nat.sub_zero, List.take_of_length_le (by simp), ← HD0.out, HLZ.out] at h3
          exact h3
end Go.Proofs.Ytldjefhgbigplaa
