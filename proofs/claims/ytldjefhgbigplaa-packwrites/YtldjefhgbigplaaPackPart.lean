import Derived.Test.YtldjefhgbigplaaPackTake
namespace Go.Proofs.Ytldjefhgbigplaa
open Go.RowKit Go.Deep

/-- Blob, Text: the bytes, what is left, whether there was a fault. -/
def partR (l : List Int) (b : Bool) (most : Int) : List Int × List Int × Bool :=
  if b || decide (most < 0) then ([], l, true) else match numOf l most with
    | some (x, n) => if (l.length : Int) - n < x then ([], l, true) else ((l.drop n).take x.toNat, (l.drop n).drop x.toNat, false)
    | none => ([], l, true)
theorem nil_block {B c : Nat} (k : Nat) (hk : (Value.slice none 0 0).ownBlock = some k) : B ≤ k ∧ k ≠ c := by cases hk
theorem clone_nil (w : World) : Calls Try.prog 34 #[.slice none 0 0] w fun e w' => e = .returned (.slice none 0 0) ∧ w' = w := by
  have hq := fun wx : World => Go.Lib.run_eql_slice_nil (P := Try.prog) wx 22 5 none 0 0 0 0 Try.underlying22
  go_enter Try.func34, Try.ntmps34
  go_wp2
  go_ret
  exact ⟨rfl, rfl⟩
theorem isBytes_nil (w : World) : isBytes w (.slice none 0 0) [] := Or.inl ⟨rfl, rfl⟩
set_option maxHeartbeats 1000000 in
set_option maxRecDepth 100000 in
theorem part_any (c B : Nat) (l : List Int) (b : Bool) (most : Int) (hm1 : most ≤ 9223372036854775807) (w : World) (h : cutOf w B c l b) :
    Calls Try.prog 43 #[.pointer (some ⟨c, 0, none⟩), .int .i64 most] w fun e w' => ∃ v, e = .returned v ∧ isBytes w' v (partR l b most).1 ∧ (∀ k, v.ownBlock = some k → B ≤ k ∧ k ≠ c) ∧ cutOf w' B c (partR l b most).2.1 (partR l b most).2.2 ∧ But w.heap.size c w w' := by
  have HC : Hid _ := h
  have hby := h.byte
  have hlm := h.len
  unfold maxLen at hlm
  obtain ⟨v, h1, h2, h3, h4⟩ := h
  have c0 := h1.c0
  have H2 : Hid _ := h2
  obtain ⟨va, vc, rfl, _⟩ := h2.slice
  clear h1 h2 h3 h4
  cases b with
  | true =>
    have HR : partR l true most = ([], l, true) := rfl
    rw [HR]
    go_enter Try.func43, Try.ntmps43
    go_wp2_with fail
    refine (err_of c B l true _ HC.out).mono ?_
    rintro e w' ⟨rfl, hw⟩
    obtain rfl := hw.symm
    clear hw
    rw [show errI true = 2 from rfl]
    go_wp2_with fail
    refine (fail_any c B l true _ HC.out).mono ?_
    rintro e w1 ⟨rfl, hc1, hb1⟩
    have HC1 : Hid _ := hc1
    clear hc1
    go_wp2
    go_ret
    exact ⟨_, rfl, isBytes_nil _, nil_block, HC1.out, hb1⟩
  | false =>
    by_cases hneg : most < 0
    · have HR : partR l false most = ([], l, true) := by unfold partR; rw [if_pos (by simp; exact hneg)]
      rw [HR]
      go_enter Try.func43, Try.ntmps43
      go_wp2_with fail
      refine (err_of c B l false _ HC.out).mono ?_
      rintro e w' ⟨rfl, hw⟩
      obtain rfl := hw.symm
      clear hw
      rw [show errI false = 0 from rfl]
      go_wp2_with fail
      refine (fail_any c B l false _ HC.out).mono ?_
      rintro e w1 ⟨rfl, hc1, hb1⟩
      have HC1 : Hid _ := hc1
      clear hc1
      go_wp2
      go_ret
      exact ⟨_, rfl, isBytes_nil _, nil_block, HC1.out, hb1⟩
    · have hm0 : 0 ≤ most := by omega
      have HR0 : partR l false most = match numOf l most with
          | some (x, n) => if (l.length : Int) - n < x then ([], l, true) else ((l.drop n).take x.toNat, (l.drop n).drop x.toNat, false)
          | none => ([], l, true) := by unfold partR; rw [if_neg (by simp; omega)]
      have HNA := number_any l _ most hm0 w H2.out
      cases hn : numOf l most with
      | none =>
        rw [hn] at HNA HR0
        have HR : partR l false most = ([], l, true) := HR0
        rw [HR]
        simp only [numberIs] at HNA
        clear HR0 HR
        go_enter Try.func43, Try.ntmps43
        go_wp2_with fail
        refine (err_of c B l false _ HC.out).mono ?_
        rintro e w' ⟨rfl, hw⟩
        obtain rfl := hw.symm
        clear hw
        rw [show errI false = 0 from rfl]
        go_wp2_with fail
        refine HNA.mono ?_
        rintro e w' ⟨rfl, hw⟩
        obtain rfl := hw.symm
        clear hw HNA
        go_wp2_with fail
        refine (fail_any c B l false _ HC.out).mono ?_
        rintro e w1 ⟨rfl, hc1, hb1⟩
        have HC1 : Hid _ := hc1
        clear hc1
        go_wp2
        go_ret
        exact ⟨_, rfl, isBytes_nil _, nil_block, HC1.out, hb1⟩
      | some q =>
        obtain ⟨x, n⟩ := q
        rw [hn] at HNA HR0
        simp only [numberIs] at HNA
        simp only at HR0
        obtain ⟨f1, f2⟩ := numOf_first hn
        obtain ⟨g1, g2, g3, g4, g5, g6⟩ := firstB_some hby f1
        have HCN : Hid _ := cutOf.non HC.out g6
        have i1 : (n : Int) ≤ (l.length : Int) := by omega
        have i2 : (n : Int) ≤ 9 := by omega
        have i3 : (l.length : Int) ≤ 9223372036854775807 := by omega
        have i4 : (1 : Int) ≤ (n : Int) := by omega
        by_cases hx : (l.length : Int) - n < x
        · rw [if_pos hx] at HR0
          rw [HR0]
          clear HR0 hn f1
          go_enter Try.func43, Try.ntmps43
          go_wp2_with fail
          refine (err_of c B l false _ HC.out).mono ?_
          rintro e w' ⟨rfl, hw⟩
          obtain rfl := hw.symm
          clear hw
          rw [show errI false = 0 from rfl]
          go_wp2_with fail
          refine HNA.mono ?_
          rintro e w' ⟨rfl, hw⟩
          obtain rfl := hw.symm
          clear hw HNA
          go_wp2_with fail
          refine (fail_any c B l false _ HC.out).mono ?_
          rintro e w1 ⟨rfl, hc1, hb1⟩
          have HC1 : Hid _ := hc1
          clear hc1
          go_wp2
          go_ret
          exact ⟨_, rfl, isBytes_nil _, nil_block, HC1.out, hb1⟩
        · rw [if_neg hx] at HR0
          rw [HR0]
          clear HR0 hn f1
          obtain ⟨m, rfl⟩ := Int.eq_ofNat_of_zero_le g4
          have hx' : (m : Int) ≤ (l.length : Int) - n := by omega
          clear hx g5 g4
          go_enter Try.func43, Try.ntmps43
          go_wp2_with fail
          refine (err_of c B l false _ HC.out).mono ?_
          rintro e w' ⟨rfl, hw⟩
          obtain rfl := hw.symm
          clear hw
          rw [show errI false = 0 from rfl]
          go_wp2_with fail
          refine HNA.mono ?_
          rintro e w' ⟨rfl, hw⟩
          obtain rfl := hw.symm
          clear hw HNA
          go_wp2_with fail
          refine (take_any' c B l false n _ HCN.out g3).mono ?_
          rintro e w1 ⟨pb, po, rfl, _, _, _, hc1, hb1⟩
          have HC1 : Hid _ := hc1
          clear hc1
          go_wp2_with fail
          refine (take_any' c B (l.drop n) false m _ HC1.out (by rw [List.length_drop]; omega)).mono ?_
          rintro e w2 ⟨pb2, po2, rfl, hf2, hB2, hc2', hc2, hb2⟩
          have HF2 : Hid _ := hf2
          have HC2 : Hid _ := hc2.of
          clear hc2 hf2
          go_wp2
          go_ret
          exact ⟨_, rfl, HF2.out, (fun k hk => by simp [Value.ownBlock] at hk; omega), HC2.out, hb1.trans (hb2.mono hb1.size)⟩
theorem part_nil (most : Int) (w : World) : Calls Try.prog 43 #[.pointer none, .int .i64 most] w fun e w' => e = .returned (.slice none 0 0) ∧ w' = w := by
  go_enter Try.func43, Try.ntmps43
  go_wp2_with fail
  refine (err_nil _).mono ?_
  rintro e w' ⟨rfl, hw⟩
  obtain rfl := hw.symm
  clear hw
  go_wp2_with fail
  refine (fail_nil _).mono ?_
  rintro e w' ⟨rfl, hw⟩
  obtain rfl := hw.symm
  clear hw
  go_wp2
  go_ret
  exact ⟨rfl, rfl⟩
theorem partR_len (l : List Int) (b : Bool) (most : Int) : (partR l b most).1.length ≤ l.length := by
  unfold partR
  split
  · simp
  · split
    · split
      · simp
      · simp only [List.length_take, List.length_drop]; omega
    · simp
theorem partR_left (l : List Int) (b : Bool) (most : Int) : (partR l b most).2.1.length ≤ l.length := by
  unfold partR
  split
  · simp
  · split
    · split
      · simp
      · simp only [List.length_drop]; omega
    · simp
theorem numR_left (l : List Int) (b : Bool) (most : Int) : (numR l b most).2.1.length ≤ l.length := by
  unfold numR
  split
  · simp
  · split
    · simp
    · simp
/-- Blob: new bytes. -/
theorem cblob_any (c B : Nat) (l : List Int) (b : Bool) (most : Int) (hm1 : most ≤ 9223372036854775807) (w : World) (h : cutOf w B c l b) (hl : l.length ≤ 1099511627776) :
    Calls Try.prog 23 #[.pointer (some ⟨c, 0, none⟩), .int .i64 most] w fun e w' => ∃ v, e = .returned v ∧ newBytes w' w.heap.size v (partR l b most).1 ∧ cutOf w' B c (partR l b most).2.1 (partR l b most).2.2 ∧ But w.heap.size c w w' := by
  have hpl := partR_len l b most
  go_enter Try.func23, Try.ntmps23
  go_wp2_with fail
  refine (part_any c B l b most hm1 w h).mono ?_
  rintro e w1 ⟨v1, rfl, hv1, _, hc1, hb1⟩
  have HC : Hid _ := hc1
  have HV : Hid _ := hv1
  clear hc1 hv1
  go_wp2_with fail
  refine (clone_any v1 _ w1 HV.out (by omega)).mono ?_
  rintro e w2 ⟨v2, rfl, hn2, hb2⟩
  have HN : Hid _ := hn2.mono hb1.size
  have HC2 : Hid _ := cutOf.below HC.out hb2 (Nat.le_refl _)
  clear hn2 HC HV
  go_wp2
  go_ret
  exact ⟨_, rfl, HN.out, HC2.out, hb1.trans (But.of_below (hb2.mono hb1.size) c)⟩
theorem cblob_nil (most : Int) (w : World) : Calls Try.prog 23 #[.pointer none, .int .i64 most] w fun e w' => e = .returned (.slice none 0 0) ∧ w' = w := by
  go_enter Try.func23, Try.ntmps23
  go_wp2_with fail
  refine (part_nil most _).mono ?_
  rintro e w' ⟨rfl, hw⟩
  obtain rfl := hw.symm
  clear hw
  go_wp2_with fail
  refine (clone_nil _).mono ?_
  rintro e w' ⟨rfl, hw⟩
  obtain rfl := hw.symm
  clear hw
  go_wp2
  go_ret
  exact ⟨rfl, rfl⟩
theorem ctext_any (c B : Nat) (l : List Int) (b : Bool) (most : Int) (hm1 : most ≤ 9223372036854775807) (w : World) (h : cutOf w B c l b) :
    Calls Try.prog 24 #[.pointer (some ⟨c, 0, none⟩), .int .i64 most] w fun e w' => e = .returned (.string (strOf (partR l b most).1)) ∧ cutOf w' B c (partR l b most).2.1 (partR l b most).2.2 ∧ But w.heap.size c w w' := by
  go_enter Try.func24, Try.ntmps24
  go_wp2_with fail
  refine (part_any c B l b most hm1 w h).mono ?_
  rintro e w1 ⟨v1, rfl, hv1, _, hc1, hb1⟩
  have HC : Hid _ := hc1
  have hcv := run_convert_bytes (P := Try.prog) w1 22 9 5 v1 _ Try.underlying22 Try.underlying5 Try.underlying9 hv1
  clear hc1 hv1
  go_wp2_with (first | (refine wpList_convert_run rfl _ _ _ rfl rfl hcv ?_))
  go_ret
  exact ⟨rfl, HC.out, hb1⟩
theorem ctext_nil (most : Int) (w : World) : Calls Try.prog 24 #[.pointer none, .int .i64 most] w fun e w' => e = .returned (.string ByteArray.empty) ∧ w' = w := by
  go_enter Try.func24, Try.ntmps24
  go_wp2_with fail
  refine (part_nil most _).mono ?_
  rintro e w' ⟨rfl, hw⟩
  obtain rfl := hw.symm
  clear hw
  have hcv := run_convert_bytes (P := Try.prog) w 22 9 5 _ _ Try.underlying22 Try.underlying5 Try.underlying9 (isBytes_nil w)
  go_wp2_with (first | (refine wpList_convert_run rfl _ _ _ rfl rfl hcv ?_))
  go_ret
  exact ⟨rfl, rfl⟩
end Go.Proofs.Ytldjefhgbigplaa
