import Derived.Test.YtldjefhgbigplaaPackNil
namespace Go.Proofs.Ytldjefhgbigplaa
open Go.RowKit Go.Deep

/-- THE VALUE v IS A SLICE OF n BITES. -/
def isBites (w : World) (v : Value) (n : Nat) (K N M : Nat → Int) : Prop :=
  (∀ i, i < n → 0 ≤ N i ∧ M i ≤ 9223372036854775807) ∧ ((v = .slice none 0 0 ∧ n = 0) ∨ ∃ pb po cap : Nat, v = .slice (some ⟨pb, po, none⟩) n cap ∧ pb < w.heap.size ∧ n ≤ maxLen ∧
    ∀ i, i < n → w.cell? ⟨pb, po + i * 3, none⟩ = some (.int .i64 (K i)) ∧ w.cell? ⟨pb, po + i * 3 + 1, none⟩ = some (.int .u64 (N i)) ∧ w.cell? ⟨pb, po + i * 3 + 2, none⟩ = some (.int .i64 (M i)))
theorem isBites.open {w : World} {v : Value} {n : Nat} {K N M : Nat → Int} (h : isBites w v n K N M) :
    ∃ a cap, v = .slice a n cap ∧ n ≤ maxLen ∧ ∀ k, k < n → ∃ qb qo, a = some ⟨qb, qo, none⟩ ∧ qb < w.heap.size ∧ w.cell? ⟨qb, qo + k * 3, none⟩ = some (.int .i64 (K k)) ∧ w.cell? ⟨qb, qo + k * 3 + 1, none⟩ = some (.int .u64 (N k)) ∧ w.cell? ⟨qb, qo + k * 3 + 2, none⟩ = some (.int .i64 (M k)) := by
  obtain ⟨_, ⟨rfl, rfl⟩ | ⟨pb, po, cap, rfl, h2, h3, h4⟩⟩ := h
  · exact ⟨_, _, rfl, Nat.zero_le _, fun k hk => by omega⟩
  · exact ⟨_, _, rfl, h3, fun k hk => ⟨pb, po, rfl, h2, h4 k hk⟩⟩
theorem isBytes_keep {w w' : World} {v : Value} {l : List Int} {d : Nat} (h : isBytes w v l) (hd : 0 < l.length → v.ownBlock ≠ some d) (hb : But w.heap.size d w w') : isBytes w' v l := by
  by_cases hl : 0 < l.length
  · exact h.far (fun k hk => hb.block k (h.block k hk) (fun e => hd hl (by rw [hk, e]))) hb.size
  · have e : l = [] := List.length_eq_zero_iff.1 (by omega)
    subst e
    rcases h with h | ⟨pb, po, cap, h1, h2, h3, h4, _, h6⟩
    · exact Or.inl h
    · exact Or.inr ⟨pb, po, cap, h1, h2, h3, Nat.lt_of_lt_of_le h4 hb.size, fun i hi => by simp at hi, h6⟩
/-- bytes do not lie where a Cut does. -/
theorem bytes_not_row {w : World} {v : Value} {l : List Int} {d t : Nat} {u : Value} {b : Bool} (h : isBytes w v l) (hr : w.rowIs d t 2 (cutV u b)) (hu : ∃ a n c, u = .slice a n c) (hl : 0 < l.length) : v.ownBlock ≠ some d := by
  intro e
  obtain ⟨pb, po, cap, rfl, hc⟩ := h.cellAt 0 hl
  have e' : pb = d := by simpa [Value.ownBlock] using e
  subst e'
  obtain ⟨a, n, c, rfl⟩ := hu
  by_cases h2 : po + 0 < 2
  · rw [hr.cell h2] at hc
    unfold cutV at hc
    split at hc <;> simp at hc
  · obtain ⟨cs, hb, hs, _⟩ := hr
    rw [cell_of_row _ _ _ _ _ _ hb, Array.getElem?_eq_none (by omega)] at hc
    cases hc
theorem cutOf.apart {w w' : World} {B c d : Nat} {l : List Int} {b b' : Bool} {B' : Nat} {l' : List Int} (h : cutOf w B c l b) (hd : rcutOf w B' d l' b') (hne : c ≠ d) (hb : But w.heap.size d w w') : cutOf w' B c l b := by
  obtain ⟨v, h1, h2, h3, h4⟩ := h
  obtain ⟨u, k1, k2, _⟩ := hd
  obtain ⟨ua, uc, hu, _⟩ := k2.slice
  exact ⟨v, h1.of_block (hb.block c h1.lt hne), isBytes_keep h2 (bytes_not_row h2 k1 ⟨_, _, _, hu⟩) hb, h3, h4⟩
theorem rcutOf.apart {w w' : World} {B c d : Nat} {l : List Int} {b b' : Bool} {B' : Nat} {l' : List Int} (h : rcutOf w B c l b) (hd : cutOf w B' d l' b') (hne : c ≠ d) (hb : But w.heap.size d w w') : rcutOf w' B c l b := by
  obtain ⟨v, h1, h2, h3, h4⟩ := h
  obtain ⟨u, k1, k2, _⟩ := hd
  obtain ⟨ua, uc, hu, _⟩ := k2.slice
  exact ⟨v, h1.of_block (hb.block c h1.lt hne), isBytes_keep h2 (bytes_not_row h2 k1 ⟨_, _, _, hu⟩) hb, h3, h4⟩
theorem rcutOf.rapart {w w' : World} {B c d : Nat} {l : List Int} {b b' : Bool} {B' : Nat} {l' : List Int} (h : rcutOf w B c l b) (hd : rcutOf w B' d l' b') (hne : c ≠ d) (hb : But w.heap.size d w w') : rcutOf w' B c l b := by
  obtain ⟨v, h1, h2, h3, h4⟩ := h
  obtain ⟨u, k1, k2, _⟩ := hd
  obtain ⟨ua, uc, hu, _⟩ := k2.slice
  exact ⟨v, h1.of_block (hb.block c h1.lt hne), isBytes_keep h2 (bytes_not_row h2 k1 ⟨_, _, _, hu⟩) hb, h3, h4⟩
theorem bite_left (k N M : Int) (l : List Int) (b : Bool) : (biteR k N M l b).2.2.1.length ≤ l.length := by
  unfold biteR
  split
  · exact numR_left l b N
  · split
    · exact partR_left l b M
    · split
      · show (sumR l b).2.1.length ≤ l.length
        unfold sumR
        split
        · exact Nat.le_refl _
        · rw [List.length_drop]; omega
      · split
        · exact Nat.le_refl _
        · exact Nat.le_refl _
theorem bite_nil (k N M : Int) (b : Bool) : (biteR k N M [] b).2.2.1 = [] := List.length_eq_zero_iff.1 (by have := bite_left k N M [] b; simpa using this)
theorem bite_bad (K N M : Int) : (biteR (kindI K) N M [] true).2.2.2 = true := by
  rcases kindI_is K with h | h | h | h | h | h <;> rw [h] <;> rfl
theorem nobody_more (n : Nat) (a : Option Addr) (c : Nat) (w : World) (h : 500 < n) :
    Calls Try.prog 5 #[.slice a n c] w fun e w' => e = .returned (.bool true) ∧ Below w.heap.size w w' := by
  have q0 : (500 : Int) < (n : Int) := by omega
  go_enter Try.func5, Try.ntmps5
  go_wp2_with fail
  refine (awake_any w).mono ?_
  rintro e w1 ⟨rfl, hb1⟩
  go_wp2
  go_ret
  exact ⟨rfl, hb1⟩
set_option maxHeartbeats 2000000 in
set_option maxRecDepth 100000 in
theorem nobody_some (n : Nat) (v : Value) (K N M : Nat → Int) (w : World) (hv : isBites w v n K N M) (h : n ≤ 500) :
    Calls Try.prog 5 #[v] w fun e w' => e = .returned (.bool true) ∧ Below w.heap.size w w' := by
  obtain ⟨a, cap, rfl, hnm, hcell⟩ := hv.open
  have hNM := hv.1
  clear hv hnm
  have q0 : (n : Int) ≤ 500 := by omega
  go_enter Try.func5, Try.ntmps5
  have hb1 : Below w.heap.size w (w.alloc (.cells #[.slice none 0 0, .bool false] 49)) := (Below.refl _ _).alloc (Nat.le_refl _) _
  have hb2 := hb1.alloc hb1.size (.cells #[.slice none 0 0, .bool false] 38)
  have hb3 := hb2.alloc hb2.size (.cells #[.slice none 0 0, .bool true] 38)
  have r1 : cutIs (w.alloc (.cells #[.slice none 0 0, .bool false] 49)) w.heap.size (.slice none 0 0) false := rowIs_new w _ _ 2 _ rfl (fun i hi => by
    have : i = 0 ∨ i = 1 := by omega
    rcases this with rfl | rfl <;> rfl)
  have r2 : rcutIs ((w.alloc (.cells #[.slice none 0 0, .bool false] 49)).alloc (.cells #[.slice none 0 0, .bool false] 38)) (w.heap.size + 1) (.slice none 0 0) false := by
    have := rowIs_new (w.alloc (.cells #[.slice none 0 0, .bool false] 49)) #[.slice none 0 0, .bool false] 38 2 (cutV (.slice none 0 0) false) rfl (fun i hi => by
      have : i = 0 ∨ i = 1 := by omega
      rcases this with rfl | rfl <;> rfl)
    simp only [nblk_alloc] at this
    exact this
  have r3 : rcutIs (((w.alloc (.cells #[.slice none 0 0, .bool false] 49)).alloc (.cells #[.slice none 0 0, .bool false] 38)).alloc (.cells #[.slice none 0 0, .bool true] 38)) (w.heap.size + 1 + 1) (.slice none 0 0) true := by
    have := rowIs_new ((w.alloc (.cells #[.slice none 0 0, .bool false] 49)).alloc (.cells #[.slice none 0 0, .bool false] 38)) #[.slice none 0 0, .bool true] 38 2 (cutV (.slice none 0 0) true) rfl (fun i hi => by
      have : i = 0 ∨ i = 1 := by omega
      rcases this with rfl | rfl <;> rfl)
    simp only [nblk_alloc] at this
    exact this
  have C1 : cutOf (((w.alloc (.cells #[.slice none 0 0, .bool false] 49)).alloc (.cells #[.slice none 0 0, .bool false] 38)).alloc (.cells #[.slice none 0 0, .bool true] 38)) w.heap.size w.heap.size [] false := ⟨_, (World.rowIs.alloc (World.rowIs.alloc r1 _) _), isBytes_nil _, Nat.le_refl _, nil_block⟩
  have C2 : rcutOf (((w.alloc (.cells #[.slice none 0 0, .bool false] 49)).alloc (.cells #[.slice none 0 0, .bool false] 38)).alloc (.cells #[.slice none 0 0, .bool true] 38)) w.heap.size (w.heap.size + 1) [] false := ⟨_, (World.rowIs.alloc r2 _), isBytes_nil _, by omega, nil_block⟩
  have C3 : rcutOf (((w.alloc (.cells #[.slice none 0 0, .bool false] 49)).alloc (.cells #[.slice none 0 0, .bool false] 38)).alloc (.cells #[.slice none 0 0, .bool true] 38)) w.heap.size (w.heap.size + 1 + 1) [] true := ⟨_, r3, isBytes_nil _, by omega, nil_block⟩
  have HC1 : Hid _ := C1
  have HC2 : Hid _ := C2
  have HC3 : Hid _ := C3
  have HB : Hid _ := hb3
  clear hb1 hb2 hb3 r1 r2 r3 C1 C2 C3
  go_wp2
  go_loopw [7] (fun i wr => ∃ k : Nat, k ≤ n ∧ i = .int .i64 k ∧ Below w.heap.size w wr ∧ ∃ b, cutOf wr w.heap.size w.heap.size [] b ∧ rcutOf wr w.heap.size (w.heap.size + 1) [] b ∧ rcutOf wr w.heap.size (w.heap.size + 1 + 1) [] true) (fun i _ => n - (intOf i).toNat)
  case atStart => exact ⟨0, by omega, rfl, HB.out, false, HC1.out, HC2.out, HC3.out⟩
  case round =>
    clear HC1 HC2 HC3 HB
    obtain ⟨k, hk, rfl, hb, b, c1, c2, c3⟩ := hrel
    by_cases hlt : k < n
    · obtain ⟨qb, qo, rfl, hq, e0, e1, e2⟩ := hcell k hlt
      obtain ⟨n0, n1⟩ := hNM k hlt
      have b0 : (0 : Int) ≤ (k : Int) := by omega
      have b1 : (k : Int) < (n : Int) := by omega
      rw [← hb.cell (p := ⟨qb, _, none⟩) hq] at e0 e1 e2
      have HE0 : Hid _ := e0
      have HE1 : Hid _ := e1
      have HE2 : Hid _ := e2
      have hs0 := hb.size
      have C1 : Hid _ := c1
      have C2 : Hid _ := c2
      have C3 : Hid _ := c3
      have HBW : Hid _ := hb
      have hqw : qb < wr.heap.size := by omega
      clear c1 c2 c3 hb hcell hNM
      -- none
      go_wp2_with fail
      refine (bitten_nil (K k) (N k) (M k) wr).mono ?_
      rintro e w1 ⟨rfl, hb1⟩
      have e0 := (hb1.cell (p := ⟨qb, qo + k * 3, none⟩) hqw).trans HE0.out
      have e1 := (hb1.cell (p := ⟨qb, qo + k * 3 + 1, none⟩) hqw).trans HE1.out
      have e2 := (hb1.cell (p := ⟨qb, qo + k * 3 + 2, none⟩) hqw).trans HE2.out
      have hs1 := hb1.size
      have D1 : Hid _ := cutOf.below C1.out hb1 (Nat.le_refl _)
      have D2 : Hid _ := rcutOf.below C2.out hb1 (Nat.le_refl _)
      have D3 : Hid _ := rcutOf.below C3.out hb1 (Nat.le_refl _)
      have HBW1 : Hid _ := Below.trans HBW.out (hb1.mono hs0)
      clear hb1 C1 C2 C3 HE0 HE1 HE2 HBW
      -- bad
      have X := meant_any (w.heap.size + 1 + 1) w.heap.size [] true (K k) (N k) (M k) n1 w1 D3.out (by simp)
      rw [bite_nil, bite_bad] at X
      go_wp2_with fail
      refine X.mono ?_
      rintro e w2 ⟨rfl, c3, hb2⟩
      have C3 : Hid _ := c3
      have C1 : Hid _ := cutOf.apart D1.out D3.out (by omega) hb2
      have C2 : Hid _ := rcutOf.rapart D2.out D3.out (by omega) hb2
      have f0 := (hb2.cell (k := qb) (i := qo + k * 3) (by omega) (by omega)).trans e0
      have f1 := (hb2.cell (k := qb) (i := qo + k * 3 + 1) (by omega) (by omega)).trans e1
      have f2 := (hb2.cell (k := qb) (i := qo + k * 3 + 2) (by omega) (by omega)).trans e2
      have hs2 := hb2.size
      have HBW2 : Hid _ := Below.trans HBW1.out (But.to_below hb2 (by omega) (by omega))
      clear X c3 hb2 D1 D2 D3 e0 e1 e2 HBW1
      -- zero
      have X := bitten_any w.heap.size w.heap.size [] b (K k) (N k) (M k) n0 n1 w2 C1.out (by simp)
      rw [bite_nil] at X
      go_wp2_with fail
      refine X.mono ?_
      rintro e w3 ⟨rfl, c1, hb3⟩
      have D1 : Hid _ := c1
      have D2 : Hid _ := rcutOf.apart C2.out C1.out (by omega) hb3
      have D3 : Hid _ := rcutOf.apart C3.out C1.out (by omega) hb3
      have e0 := (hb3.cell (k := qb) (i := qo + k * 3) (by omega) (by omega)).trans f0
      have e1 := (hb3.cell (k := qb) (i := qo + k * 3 + 1) (by omega) (by omega)).trans f1
      have e2 := (hb3.cell (k := qb) (i := qo + k * 3 + 2) (by omega) (by omega)).trans f2
      have hs3 := hb3.size
      have HBW3 : Hid _ := Below.trans HBW2.out (But.to_below hb3 (by omega) (by omega))
      clear X c1 hb3 C1 C2 C3 f0 f1 f2 HBW2
      -- d
      have X := meant_any (w.heap.size + 1) w.heap.size [] b (K k) (N k) (M k) n1 w3 D2.out (by simp)
      rw [bite_nil] at X
      go_wp2_with fail
      refine X.mono ?_
      rintro e w4 ⟨rfl, c2, hb4⟩
      have C2 : Hid _ := c2
      have C1 : Hid _ := cutOf.apart D1.out D2.out (by omega) hb4
      have C3 : Hid _ := rcutOf.rapart D3.out D2.out (by omega) hb4
      have hs4 := hb4.size
      have HBW4 : Hid _ := Below.trans HBW3.out (But.to_below hb4 (by omega) (by omega))
      clear X c2 hb4 D1 D2 D3 e0 e1 e2 HBW3
      generalize biteR (kindI (K k)) (N k) (M k) [] true = R at *
      generalize biteR (kindI (K k)) (N k) (M k) [] b = R2 at *
      go_wp2_with fail
      refine (stands_nil _ _ w4 C3.out).mono ?_
      rintro e w5 ⟨rfl, rfl⟩
      go_wp2_with fail
      refine (stands_any _ _ _ _ _ _ w4.drew C1.out C2.out).mono ?_
      rintro e w5 ⟨rfl, rfl⟩
      go_wp2
      go_light
      exact ⟨⟨k + 1, by omega, by go_num, HBW4.out.drew.drew, _, C1.out, C2.out, C3.out⟩, by simp [intOf]; omega⟩
    · obtain rfl : k = n := by omega
      clear c1 c2 c3
      go_wp2_with fail
      refine (awake_any _).mono ?_
      rintro e w1 ⟨rfl, hb1⟩
      go_wp2
      go_ret
      exact ⟨rfl, hb.trans (hb1.mono hb.size)⟩
theorem nobody_any (n : Nat) (v : Value) (K N M : Nat → Int) (w : World) (hv : isBites w v n K N M) :
    Calls Try.prog 5 #[v] w fun e w' => e = .returned (.bool true) ∧ Below w.heap.size w w' := by
  by_cases h : 500 < n
  · obtain ⟨a, c, rfl, _⟩ := hv.open
    exact nobody_more n a c w h
  · exact nobody_some n v K N M w hv (by omega)
end Go.Proofs.Ytldjefhgbigplaa
