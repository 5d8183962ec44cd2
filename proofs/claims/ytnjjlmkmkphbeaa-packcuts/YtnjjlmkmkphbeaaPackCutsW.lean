import Derived.Test.YtnjjlmkmkphbeaaPackNobW
namespace Go.Proofs.Ytnjjlmkmkphbeaa
open Go.RowKit Go.Deep

theorem cuts_more (n m : Nat) (a a' : Option Addr) (c c' : Nat) (w : World) (h : 500 < n ∨ 20000 < m) (hn : n ≤ 9223372036854775807) (hm : m ≤ 9223372036854775807) :
    Calls Try.prog 4 #[.slice a' m c', .slice a n c] w fun e w' => e = .returned (.bool true) ∧ Below w.heap.size w w' := by
  have q1 : (n : Int) ≤ 9223372036854775807 := by omega
  have q2 : (m : Int) ≤ 9223372036854775807 := by omega
  by_cases h1 : 500 < n
  · have q0 : (500 : Int) < (n : Int) := by omega
    go_enter Try.func4, Try.ntmps4
    go_wp2_with fail
    refine (awake_any w).mono ?_
    rintro e w1 ⟨rfl, hb1⟩
    go_wp2
    go_ret
    exact ⟨rfl, hb1⟩
  · have q0 : (n : Int) ≤ 500 := by omega
    have q3 : (20000 : Int) < (m : Int) := by omega
    go_enter Try.func4, Try.ntmps4
    go_wp2_with fail
    refine (awake_any w).mono ?_
    rintro e w1 ⟨rfl, hb1⟩
    go_wp2
    go_ret
    exact ⟨rfl, hb1⟩
set_option maxHeartbeats 2000000 in
set_option maxRecDepth 100000 in
theorem cuts_some (l : List Int) (bv : Value) (n : Nat) (v : Value) (K N M : Nat → Int) (w : World) (hbv : isBytes w bv l) (hv : isBites w v n K N M) (h : n ≤ 500) (hl : l.length ≤ 20000) :
    Calls Try.prog 4 #[bv, v] w fun e w' => e = .returned (.bool true) ∧ Below w.heap.size w w' := by
  obtain ⟨a, cap, rfl, hnm, hcell⟩ := hv.open
  have hNM := hv.1
  clear hv hnm
  have q0 : (n : Int) ≤ 500 := by omega
  have q1 : (l.length : Int) ≤ 20000 := by omega
  obtain ⟨v1, w1, hr1, hn1, hb1⟩ := bytes_copy_run w bv l hbv (by omega)
  have hbv1 := hbv.below hb1 (Nat.le_refl _)
  have HN1 : Hid _ := hn1
  have HBV1 : Hid _ := hbv1
  have hs1 := hb1.size
  have HB1 : Hid _ := hb1
  obtain ⟨ba, bc, rfl, _⟩ := hbv.slice
  clear hbv hbv1
  go_enter Try.func4, Try.ntmps4
  obtain ⟨va, vc, rfl, _⟩ := hn1.is.slice
  clear hn1 hb1
  go_wp2_with (first | (at_builtin; refine wpList_append_run rfl (.tmp 22) (.tmp 23) _ rfl rfl rfl hr1 ?_))
  refine (from_any _ l w1 (newBytes.is HN1.out) (by omega)).mono ?_
  rintro e w2 ⟨c, rfl, hc2, hb2⟩
  have hs2 := hb2.size
  have hlt2 := hc2.lt
  have hge2 := hc2.ge
  obtain ⟨v3, w3, hr3, hn3, hb3⟩ := bytes_copy_run w2 _ l (isBytes.below HBV1.out hb2 (Nat.le_refl _)) (by omega)
  have hs3 := hb3.size
  obtain ⟨va3, vc3, rfl, _⟩ := hn3.is.slice
  have hb4 : Below w3.heap.size w3 (w3.alloc (.cells #[.slice va3 l.length vc3, .bool false] 38)) := (Below.refl _ _).alloc (Nat.le_refl _) _
  have r4 : rcutIs (w3.alloc (.cells #[.slice va3 l.length vc3, .bool false] 38)) w3.heap.size (.slice va3 l.length vc3) false := rowIs_new w3 _ _ 2 _ rfl (fun i hi => by
    have : i = 0 ∨ i = 1 := by omega
    rcases this with rfl | rfl <;> rfl)
  have D4 : rcutOf (w3.alloc (.cells #[.slice va3 l.length vc3, .bool false] 38)) w2.heap.size w3.heap.size l false := ⟨_, r4, hn3.is.below hb4 (Nat.le_refl _), hs3, fun k hk => by have := hn3.block k hk; omega⟩
  have C4 : cutOf (w3.alloc (.cells #[.slice va3 l.length vc3, .bool false] 38)) w1.heap.size c l false := (hc2.below hb3 (Nat.le_refl _)).below hb4 (Nat.le_refl _)
  have N4 : newBytes (w3.alloc (.cells #[.slice va3 l.length vc3, .bool false] 38)) w.heap.size (.slice va l.length vc) l := ((newBytes.below HN1.out hb2 (Nat.le_refl _)).below hb3 (Nat.le_refl _)).below hb4 (Nat.le_refl _)
  have B4 : isBytes (w3.alloc (.cells #[.slice va3 l.length vc3, .bool false] 38)) (.slice ba l.length bc) l := ((isBytes.below HBV1.out hb2 (Nat.le_refl _)).below hb3 (Nat.le_refl _)).below hb4 (Nat.le_refl _)
  have hB4 : Below w.heap.size w (w3.alloc (.cells #[.slice va3 l.length vc3, .bool false] 38)) := Below.trans HB1.out ((hb2.mono hs1).trans ((hb3.mono (by omega)).trans (hb4.mono (by omega))))
  have hown := HN1.out
  have hob : ∀ k, (Value.slice va l.length vc).ownBlock = some k → k < w1.heap.size := fun k hk => (newBytes.block hown k hk).2
  have hcv1 := conv8 _ _ _ N4.is
  have hcv2 := conv8 _ _ _ B4
  obtain ⟨w5, hclr, hb5, hz5, hk5⟩ := clear_run' _ _ _ _ N4
  have hw4 : (w3.alloc (.cells #[.slice va3 l.length vc3, .bool false] 38)).heap.size = w3.heap.size + 1 := by simp
  have C5 : cutOf w5 w1.heap.size c l false := C4.far (fun k hk hB => hk5 k hk (fun e => by have := hob k e; omega)) (by omega)
  have D5 : rcutOf w5 w2.heap.size w3.heap.size l false := D4.far (fun k hk hB => hk5 k hk (fun e => by have := hob k e; omega)) (by omega)
  have HC5 : Hid _ := C5.mono hs1
  have HD5 : Hid _ := D5.mono (show w.heap.size ≤ w2.heap.size by omega)
  have HB5 : Hid _ := hB4.trans hb5
  have hcd : c ≠ w3.heap.size := by omega
  have hcw : w.heap.size ≤ c := by omega
  have hdw : w.heap.size ≤ w3.heap.size := by omega
  clear hc2 hb2 hn3 hb3 r4 D4 C4 N4 B4 hB4 hown hob hb5 hk5 C5 D5 hb4 HN1 HBV1 HB1 hr1
  go_wp2_with (first | (at_builtin; refine wpList_append_run rfl (.tmp 27) (.tmp 28) _ rfl rfl rfl hr3 ?_))
  clear hr3 hcv1 hcv2 hclr hz5 hw4 hs3 hs2 hs1 hlt2 hge2
  generalize w3.heap.size = d at *
  go_loopw [8] (fun i wr => ∃ k : Nat, k ≤ n ∧ i = .int .i64 k ∧ Below w.heap.size w wr ∧ ∃ (q : List Int) (b : Bool), q.length ≤ 20000 ∧ cutOf wr w.heap.size c q b ∧ rcutOf wr w.heap.size d q b) (fun i _ => n - (intOf i).toNat)
  case atStart => exact ⟨0, by omega, rfl, HB5.out, l, false, hl, HC5.out, HD5.out⟩
  case round =>
    clear HC5 HD5 HB5
    obtain ⟨k, hk, rfl, hb, q, b, hq20, c1, c2⟩ := hrel
    by_cases hlt : k < n
    · obtain ⟨qb, qo, rfl, hq, e0, e1, e2⟩ := hcell k hlt
      obtain ⟨n0, n1⟩ := hNM k hlt
      have b0 : (0 : Int) ≤ (k : Int) := by omega
      have b1 : (k : Int) < (n : Int) := by omega
      rw [← hb.cell (p := ⟨qb, _, none⟩) hq] at e0 e1 e2
      have hs0 := hb.size
      have C1 : Hid _ := c1
      have C2 : Hid _ := c2
      have HBW : Hid _ := hb
      have hqw : qb < wr.heap.size := by omega
      clear c1 c2 hb hcell hNM
      have X := bitten_any c w.heap.size q b (K k) (N k) (M k) n0 n1 wr C1.out (by omega)
      go_wp2_with fail
      refine X.mono ?_
      rintro e w6 ⟨rfl, c1, hb6⟩
      have D1 : Hid _ := c1
      have D2 : Hid _ := rcutOf.apart C2.out C1.out (Ne.symm hcd) hb6
      have f0 := (hb6.cell (k := qb) (i := qo + k * 3) (by omega) (by omega)).trans e0
      have f1 := (hb6.cell (k := qb) (i := qo + k * 3 + 1) (by omega) (by omega)).trans e1
      have f2 := (hb6.cell (k := qb) (i := qo + k * 3 + 2) (by omega) (by omega)).trans e2
      have hs6 := hb6.size
      have HBW6 : Hid _ := Below.trans HBW.out (But.to_below hb6 (by omega) (by omega))
      clear X c1 hb6 C1 C2 e0 e1 e2 HBW
      have X := meant_any d w.heap.size q b (K k) (N k) (M k) n1 w6 D2.out (by omega)
      go_wp2_with fail
      refine X.mono ?_
      rintro e w7 ⟨rfl, c2, hb7⟩
      have C2 : Hid _ := c2
      have C1 : Hid _ := cutOf.apart D1.out D2.out hcd hb7
      have hs7 := hb7.size
      have HBW7 : Hid _ := Below.trans HBW6.out (But.to_below hb7 (by omega) (by omega))
      clear X c2 hb7 D1 D2 f0 f1 f2 HBW6
      have hbl := bite_left (kindI (K k)) (N k) (M k) q b
      generalize biteR (kindI (K k)) (N k) (M k) q b = R at *
      go_wp2_with fail
      refine (stands_any _ _ _ _ _ _ w7 C1.out C2.out).mono ?_
      rintro e w8 ⟨rfl, rfl⟩
      go_wp2
      go_light
      exact ⟨⟨k + 1, by omega, by go_num, HBW7.out.drew, _, _, by omega, C1.out, C2.out⟩, by simp [intOf]; omega⟩
    · obtain rfl : k = n := by omega
      clear c1 c2
      go_wp2_with fail
      refine (awake_any _).mono ?_
      rintro e w6 ⟨rfl, hb6⟩
      go_wp2
      go_ret
      exact ⟨rfl, hb.trans (hb6.mono hb.size)⟩
theorem cuts_any (l : List Int) (bv : Value) (n : Nat) (v : Value) (K N M : Nat → Int) (w : World) (hbv : isBytes w bv l) (hv : isBites w v n K N M) :
    Calls Try.prog 4 #[bv, v] w fun e w' => e = .returned (.bool true) ∧ Below w.heap.size w w' := by
  by_cases h : 500 < n ∨ 20000 < l.length
  · obtain ⟨a, c, rfl, hn, _⟩ := hv.open
    obtain ⟨a', c', rfl, hm⟩ := hbv.slice
    unfold maxLen at hn hm
    exact cuts_more n l.length a a' c c' w h (by omega) (by omega)
  · exact cuts_some l bv n v K N M w hbv hv (by omega) (by omega)
end Go.Proofs.Ytnjjlmkmkphbeaa
