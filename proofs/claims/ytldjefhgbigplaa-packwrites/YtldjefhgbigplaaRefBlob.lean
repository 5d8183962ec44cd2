import Derived.Test.YtldjefhgbigplaaRefCut
namespace Go.Proofs.Ytldjefhgbigplaa
open Go.RowKit Go.Deep

theorem take_drop (l : List Int) (n m : Nat) : (l.take (n + m)).drop n = (l.drop n).take m := by
  rw [List.drop_take]; congr 1; omega
set_option maxHeartbeats 1000000 in
set_option maxRecDepth 100000 in
/-- the document's Blob. -/
theorem rblob_any (c B : Nat) (l : List Int) (b : Bool) (most : Int) (hm1 : most ≤ 9223372036854775807) (w : World) (h : rcutOf w B c l b) (hl : l.length ≤ 1099511627776) :
    Calls Try.prog 38 #[.pointer (some ⟨c, 0, none⟩), .int .i64 most] w fun e w' => ∃ v, e = .returned v ∧ isBytes w' v (partR l b most).1 ∧ rcutOf w' B c (partR l b most).2.1 (partR l b most).2.2 ∧ But w.heap.size c w w' := by
  have hby := h.byte
  have HC : Hid _ := h
  have hlt := h.lt
  obtain ⟨v, h1, h2, h3, h4⟩ := h
  have c0 := h1.c0
  have RF := rfirst_any l v w h2
  obtain ⟨va, vc, rfl, _⟩ := h2.slice
  clear h1 h2 h3 h4
  have bad : ∀ (w1 : World), Below w.heap.size w w1 → rcutOf w1 B c l b → w1.cell? ⟨c, 0, none⟩ = some (.slice va l.length vc) ∧ w1.cell? ⟨c, 1, none⟩ = some (.bool b) ∧ w1.frozen? ⟨c, 1, none⟩ = false ∧ Hid (rcutOf (w1.setCell ⟨c, 1, none⟩ (.bool true)) B c l true) ∧ Hid (But w.heap.size c w (w1.setCell ⟨c, 1, none⟩ (.bool true))) := fun w1 hb1 h => by
    have hs := h.set true
    obtain ⟨v, h1, h2, h3, h4⟩ := h
    exact ⟨by rw [hb1.cell (p := ⟨c, 0, none⟩) hlt]; exact c0, h1.c1, World.rowIs.frozen h1 1, hs, (But.of_below hb1 c).set 1 _⟩
  have BAD : Hid _ := bad
  clear bad
  cases hf : firstB l with
  | none =>
    rw [firstR_none hf] at RF
    have hR : partR l b most = ([], l, true) := by
      unfold partR; rw [numOf_of_none hf]; split <;> rfl
    rw [hR]
    go_enter Try.func38, Try.ntmps38
    go_wp2_with fail
    refine RF.mono ?_
    rintro e w1 ⟨rfl, hb1⟩
    clear RF
    obtain ⟨d0, d1, dz, HC2, HB2⟩ := BAD.out w1 hb1 (rcutOf.below HC.out hb1 (Nat.le_refl _))
    go_wp2
    go_ret
    exact ⟨_, rfl, isBytes_nil _, HC2.out, HB2.out⟩
  | some q =>
    obtain ⟨x, n⟩ := q
    obtain ⟨g1, g2, g3, g4, g5, g6⟩ := firstB_some hby hf
    rw [firstR_some hf] at RF
    have i0 : ((n : Int) == 0) = false := beq_eq_false_iff_ne.2 (by omega)
    have i1 : (0 : Int) < (n : Int) := by omega
    have i2 : (n : Int) ≤ 9 := by omega
    have i3 : (l.length : Int) ≤ 1099511627776 := by omega
    by_cases q1 : most < 0
    · have hR : partR l b most = ([], l, true) := by
        unfold partR; rw [if_pos (by simp; omega)]
      rw [hR]
      go_enter Try.func38, Try.ntmps38
      go_wp2_with fail
      refine RF.mono ?_
      rintro e w1 ⟨rfl, hb1⟩
      clear RF
      obtain ⟨d0, d1, dz, HC2, HB2⟩ := BAD.out w1 hb1 (rcutOf.below HC.out hb1 (Nat.le_refl _))
      go_wp2
      go_ret
      exact ⟨_, rfl, isBytes_nil _, HC2.out, HB2.out⟩
    · have q1' : 0 ≤ most := by omega
      by_cases q2 : most < x
      · have hR : partR l b most = ([], l, true) := by
          unfold partR; rw [numOf_of_big hf q2]; split <;> rfl
        rw [hR]
        go_enter Try.func38, Try.ntmps38
        go_wp2_with fail
        refine RF.mono ?_
        rintro e w1 ⟨rfl, hb1⟩
        clear RF
        obtain ⟨d0, d1, dz, HC2, HB2⟩ := BAD.out w1 hb1 (rcutOf.below HC.out hb1 (Nat.le_refl _))
        go_wp2
        go_ret
        exact ⟨_, rfl, isBytes_nil _, HC2.out, HB2.out⟩
      · have q2' : x ≤ most := by omega
        have hRR : partR l b most = if b then ([], l, true) else if (l.length : Int) - n < x then ([], l, true) else ((l.drop n).take x.toNat, (l.drop n).drop x.toNat, false) := by
          unfold partR
          rw [numOf_of_ok hf q2', decide_eq_false q1, Bool.or_false]
        by_cases q3 : (l.length : Int) < x
        · have hR : partR l b most = ([], l, true) := by
            rw [hRR, if_pos (show (l.length : Int) - n < x by omega)]; split <;> rfl
          rw [hR]
          clear hRR
          go_enter Try.func38, Try.ntmps38
          go_wp2_with fail
          refine RF.mono ?_
          rintro e w1 ⟨rfl, hb1⟩
          clear RF
          obtain ⟨d0, d1, dz, HC2, HB2⟩ := BAD.out w1 hb1 (rcutOf.below HC.out hb1 (Nat.le_refl _))
          go_wp2
          go_ret
          exact ⟨_, rfl, isBytes_nil _, HC2.out, HB2.out⟩
        · obtain ⟨m, rfl⟩ := Int.eq_ofNat_of_zero_le g4
          have q3' : (m : Int) ≤ (l.length : Int) := by omega
          clear g5 g4 q3
          by_cases q4 : b = true ∨ l.length < n + m
          · have hR : partR l b most = ([], l, true) := by
              rw [hRR]
              rcases q4 with rfl | q4
              · rfl
              · rw [if_pos (show (l.length : Int) - n < m by omega)]; split <;> rfl
            rw [hR]
            clear hRR
            go_enter Try.func38, Try.ntmps38
            go_wp2_with fail
            refine RF.mono ?_
            rintro e w1 ⟨rfl, hb1⟩
            clear RF
            obtain ⟨d0, d1, dz, HC2, HB2⟩ := BAD.out w1 hb1 (rcutOf.below HC.out hb1 (Nat.le_refl _))
            have K := off_bad c B l b true (n + m) (by omega) w1 (rcutOf.below HC.out hb1 (Nat.le_refl _)) (by rcases q4 with h | h; exact Or.inl h; exact Or.inr (Or.inr h))
            rw [Int.natCast_add] at K
            clear q4
            go_wp2_with fail
            refine K.mono ?_
            rintro e w2 ⟨rfl, hc2, hb2⟩
            have HC3 : Hid _ := hc2
            clear hc2 K HC2 HB2
            go_wp2
            go_ret
            exact ⟨_, rfl, isBytes_nil _, HC3.out, (But.of_below hb1 c).trans (hb2.mono hb1.size)⟩
          · obtain rfl : b = false := by cases b; rfl; exact absurd (Or.inl rfl) q4
            have q4' : n + m ≤ l.length := by omega
            have hR : partR l false most = ((l.drop n).take m, (l.drop n).drop m, false) := by
              rw [hRR, if_neg (by simp), if_neg (show ¬ (l.length : Int) - n < m by omega)]; rfl
            rw [hR]
            clear hRR q4
            go_enter Try.func38, Try.ntmps38
            go_wp2_with fail
            refine RF.mono ?_
            rintro e w1 ⟨rfl, hb1⟩
            clear RF
            obtain ⟨d0, d1, dz, HC2, HB2⟩ := BAD.out w1 hb1 (rcutOf.below HC.out hb1 (Nat.le_refl _))
            have K := off_good c B l (n + m) w1 (rcutOf.below HC.out hb1 (Nat.le_refl _)) g6 q4' hl
            rw [Int.natCast_add] at K
            go_wp2_with fail
            refine K.mono ?_
            rintro e w2 ⟨v2, v3, rfl, hn2, hc2, hb2⟩
            have hc2 := rcutOf_of hc2 (by have := hb1.size; omega) (by have := rcutOf.ge HC.out; have := hb1.size; omega)
            have hlt2 : (l.take (n + m)).length = n + m := by rw [List.length_take]; omega
            obtain ⟨pb, po, cap, he, _⟩ := isBytes.cellAt hn2.is 0 (by omega)
            rw [hlt2] at he
            subst he
            have hcap : n + m ≤ cap := by
              rcases hn2.is with ⟨h, _⟩ | ⟨_, _, cap', h, h', _⟩
              · cases h
              · have he' : cap = cap' := by injection h
                omega
            obtain ⟨o', ho', hsl⟩ := run_slice_from (P := Try.prog) 22 5 pb po (n + m) cap n Try.underlying22 (by kernel_rfl) (by omega)
            have bF := isBytes_from hn2.is n o' (by omega) ho'
            rw [take_drop, show n + m - n = m by omega] at bF
            have HBF : Hid _ := bF
            rw [show l.drop (n + m) = (l.drop n).drop m by rw [List.drop_drop]] at hc2
            have HC3 : Hid _ := hc2
            clear hc2 K HC2 HB2 hn2 bF ho'
            go_wp2
            go_ret
            exact ⟨_, rfl, HBF.out, HC3.out, (But.of_below hb1 c).trans (hb2.mono hb1.size)⟩
end Go.Proofs.Ytldjefhgbigplaa
