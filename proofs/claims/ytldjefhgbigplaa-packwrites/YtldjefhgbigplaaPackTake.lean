import Derived.Test.YtldjefhgbigplaaPackCut
namespace Go.Proofs.Ytldjefhgbigplaa
open Go.RowKit Go.Deep

theorem getD_take_le (l : List Int) (n i : Nat) (h : i < n) : (l.take n).getD i 0 = l.getD i 0 := by
  rw [List.getD_eq_getElem?_getD, List.getElem?_take, if_pos h, ← List.getD_eq_getElem?_getD]
theorem take_byte {l : List Int} (h : ∀ i, 0 ≤ l.getD i 0 ∧ l.getD i 0 ≤ 255) (n i : Nat) : 0 ≤ (l.take n).getD i 0 ∧ (l.take n).getD i 0 ≤ 255 := by
  by_cases e : i < n
  · rw [getD_take_le _ _ _ e]; exact h i
  · rw [List.getD_eq_getElem?_getD, List.getElem?_eq_none (by simp; omega)]; exact ⟨by simp, by simp⟩
theorem drop_byte {l : List Int} (h : ∀ i, 0 ≤ l.getD i 0 ∧ l.getD i 0 ≤ 255) (n i : Nat) : 0 ≤ (l.drop n).getD i 0 ∧ (l.drop n).getD i 0 ≤ 255 := by
  rw [getD_drop]; exact h _
/-- a Cut whose bytes are a slice of a block. -/
def cutNon (w : World) (B c : Nat) (l : List Int) (b : Bool) : Prop :=
  ∃ pb po cap, cutIs w c (.slice (some ⟨pb, po, none⟩) l.length cap) b ∧ isBytes w (.slice (some ⟨pb, po, none⟩) l.length cap) l ∧ B ≤ c ∧ B ≤ pb ∧ pb ≠ c
theorem cutNon.of {w : World} {B c : Nat} {l : List Int} {b : Bool} (h : cutNon w B c l b) : cutOf w B c l b := by
  obtain ⟨pb, po, cap, h1, h2, h3, h4, h5⟩ := h
  exact ⟨_, h1, h2, h3, fun k hk => by simp [Value.ownBlock] at hk; omega⟩
theorem cutOf.non {w : World} {B c : Nat} {l : List Int} {b : Bool} (h : cutOf w B c l b) (hl : 0 < l.length) : cutNon w B c l b := by
  obtain ⟨v, h1, h2, h3, h4⟩ := h
  have h2' := h2
  rcases h2 with ⟨_, rfl⟩ | ⟨pb, po, cap, rfl, _⟩
  · simp at hl
  · exact ⟨pb, po, cap, h1, h2', h3, (h4 pb rfl).1, (h4 pb rfl).2⟩

set_option maxHeartbeats 400000 in
theorem take_any' (c B : Nat) (l : List Int) (b : Bool) (n : Nat) (w : World) (h : cutNon w B c l b) (hn : n ≤ l.length) :
    Calls Try.prog 42 #[.pointer (some ⟨c, 0, none⟩), .int .i64 n] w fun e w' => ∃ pb po, e = .returned (.slice (some ⟨pb, po, none⟩) n n) ∧ isBytes w' (.slice (some ⟨pb, po, none⟩) n n) (l.take n) ∧ B ≤ pb ∧ pb ≠ c ∧ cutNon w' B c (l.drop n) b ∧ But w.heap.size c w w' := by
  obtain ⟨pb, po, cap, h1, h2, h3, h4, h5⟩ := h
  have c0 := h1.c0
  have z0 := World.rowIs.frozen h1 0
  have hm := h2.slice
  have hlt := h2.under
  have hby := h2.byte
  rcases h2 with ⟨h, _⟩ | ⟨pb', po', cap', he, g1, g2, g3, g4, _⟩
  · cases h
  · have he' : (pb = pb' ∧ po = po') ∧ cap = cap' := by simpa using he
    obtain ⟨⟨rfl, rfl⟩, rfl⟩ := he'
    clear he hm
    obtain ⟨o', ho', hsl⟩ := run_slice_from (P := Try.prog) 47 5 pb po l.length cap n Try.underlying47 (by kernel_rfl) hn
    have hsf := run_slice_front (P := Try.prog) 47 5 pb po l.length cap n Try.underlying47 (by kernel_rfl) (by omega)
    have hset := h1.set0 (.slice (some ⟨pb, o', none⟩) (l.length - n) (cap - n))
    have hcell : ∀ i, (w.setCell ⟨c, 0, none⟩ (.slice (some ⟨pb, o', none⟩) (l.length - n) (cap - n))).cell? ⟨pb, i, none⟩ = w.cell? ⟨pb, i, none⟩ := fun i => World.cell?_of_block (blk_setCell_other _ _ _ _ h5)
    have hnb : (w.setCell ⟨c, 0, none⟩ (.slice (some ⟨pb, o', none⟩) (l.length - n) (cap - n))).heap.size = w.heap.size := nblk_setCell _ _ _
    have HB : Hid _ := (But.refl w.heap.size c w).set 0 (.slice (some ⟨pb, o', none⟩) (l.length - n) (cap - n))
    have HF : Hid (isBytes (w.setCell ⟨c, 0, none⟩ (.slice (some ⟨pb, o', none⟩) (l.length - n) (cap - n))) (.slice (some ⟨pb, po, none⟩) n n) (l.take n)) := by
      refine show isBytes _ _ _ from Or.inr ⟨pb, po, n, ?_, ?_, ?_, ?_, fun i hi => ?_, take_byte hby n⟩
      · rw [List.length_take, Nat.min_eq_left hn]
      · rw [List.length_take, Nat.min_eq_left hn]; exact Nat.le_refl _
      · omega
      · rw [hnb]; exact hlt
      · rw [List.length_take, Nat.min_eq_left hn] at hi
        rw [hcell, g4 i (by omega), getD_take_le _ _ _ hi]
    have HC : Hid (cutNon (w.setCell ⟨c, 0, none⟩ (.slice (some ⟨pb, o', none⟩) (l.length - n) (cap - n))) B c (l.drop n) b) := by
      refine show cutNon _ _ _ _ _ from ⟨pb, o', cap - n, by rw [List.length_drop]; exact hset, Or.inr ⟨pb, o', cap - n, rfl, by rw [List.length_drop]; omega, by omega, by rw [hnb]; exact hlt, fun i hi => ?_, drop_byte hby n⟩, h3, h4, h5⟩
      rw [List.length_drop] at hi
      rw [hcell, ho' (by omega), Nat.add_assoc, g4 (n + i) (by omega), getD_drop]
    clear h1 hset hcell hnb g4 ho'
    go_enter Try.func42, Try.ntmps42
    go_wp2
    go_ret
    exact ⟨_, _, rfl, HF.out, h4, h5, HC.out, HB.out⟩

theorem firstB_some {l : List Int} {x : Int} {n : Nat} (hb : ∀ i, 0 ≤ l.getD i 0 ∧ l.getD i 0 ≤ 255) (h : firstB l = some (x, n)) : 1 ≤ n ∧ n ≤ 9 ∧ n ≤ l.length ∧ 0 ≤ x ∧ x < 18446744073709551616 ∧ 0 < l.length := by
  unfold firstB at h
  by_cases h1 : 0 < l.length ∧ l.getD 0 0 ≤ 8 ∧ l.getD 0 0 < l.length
  · rw [if_pos h1] at h
    have hk : (l.getD 0 0).toNat ≤ 8 := by omega
    obtain ⟨b0, b1⟩ := horn_take_bound (l.drop 1) (drop_byte hb 1) (l.getD 0 0).toNat
    have hp := pow256 _ hk
    by_cases h2 : 0 < (l.getD 0 0).toNat ∧ l.getD 1 0 = 0
    · rw [if_pos h2] at h; cases h
    · rw [if_neg h2] at h
      have h3 := Option.some.inj h
      rw [Prod.mk.injEq] at h3
      obtain ⟨e1, e2⟩ := h3
      have := hb 0
      refine ⟨by omega, by omega, by omega, by omega, by omega, by omega⟩
  · rw [if_neg h1] at h; cases h
theorem numOf_first {l : List Int} {most x : Int} {n : Nat} (h : numOf l most = some (x, n)) : firstB l = some (x, n) ∧ x ≤ most := by
  unfold numOf at h
  cases hf : firstB l with
  | none => rw [hf] at h; cases h
  | some q =>
    obtain ⟨y, m⟩ := q
    rw [hf] at h
    simp only at h
    by_cases e : most < y
    · rw [if_pos e] at h; cases h
    · rw [if_neg e] at h
      have h3 := Option.some.inj h
      rw [Prod.mk.injEq] at h3
      obtain ⟨rfl, rfl⟩ := h3
      exact ⟨rfl, by omega⟩
/-- Num: the answer, what is left, whether there was a fault. -/
def numR (l : List Int) (b : Bool) (most : Int) : Int × List Int × Bool :=
  if b then (0, l, true) else match numOf l most with
    | some (x, n) => (x, l.drop n, false)
    | none => (0, l, true)
set_option maxHeartbeats 400000 in
theorem cnum_any (c B : Nat) (l : List Int) (b : Bool) (most : Int) (hm0 : 0 ≤ most) (w : World) (h : cutOf w B c l b) :
    Calls Try.prog 22 #[.pointer (some ⟨c, 0, none⟩), .int .u64 most] w fun e w' => e = .returned (.int .u64 (numR l b most).1) ∧ cutOf w' B c (numR l b most).2.1 (numR l b most).2.2 ∧ But w.heap.size c w w' := by
  have HC : Hid _ := h
  have hby := h.byte
  obtain ⟨v, h1, h2, h3, h4⟩ := h
  have c0 := h1.c0
  have hm := h2.slice
  have H2 : Hid _ := h2
  clear h1 h2 h3 h4
  cases b with
  | true =>
    have HR : Hid (numR l true most = _) := rfl
    go_enter Try.func22, Try.ntmps22
    go_wp2_with fail
    refine (err_of c B l true _ HC.out).mono ?_
    rintro e w' ⟨rfl, hw⟩
    obtain rfl := hw.symm
    clear hw
    rw [show errI true = 2 from rfl]
    go_wp2
    go_ret
    exact ⟨rfl, HC.out, But.refl _ _ _⟩
  | false =>
    have HNA := number_any l v most hm0 w H2.out
    cases hn : numOf l most with
    | none =>
      have HR : numR l false most = (0, l, true) := by unfold numR; rw [hn]; rfl
      rw [HR]
      rw [hn] at HNA
      simp only [numberIs] at HNA
      go_enter Try.func22, Try.ntmps22
      go_wp2_with fail
      refine (err_of c B l false _ HC.out).mono ?_
      rintro e w' ⟨rfl, hw⟩
      obtain rfl := hw.symm
      clear hw
      rw [show errI false = 0 from rfl]
      go_wp2_with fail
      refine HNA.mono ?_
      rintro e w' ⟨rfl, hw⟩
      obtain rfl := hw.symm
      clear hw HNA
      go_wp2_with fail
      refine (fail_any c B l false _ HC.out).mono ?_
      rintro e w1 ⟨rfl, hc1, hb1⟩
      have HC1 : Hid _ := hc1
      clear hc1
      go_wp2
      go_ret
      exact ⟨rfl, HC1.out, hb1⟩
    | some q =>
      obtain ⟨x, n⟩ := q
      have HR : numR l false most = (x, l.drop n, false) := by unfold numR; rw [hn]; rfl
      rw [HR]
      rw [hn] at HNA
      simp only [numberIs] at HNA
      obtain ⟨f1, f2⟩ := numOf_first hn
      obtain ⟨g1, g2, g3, g4, g5, g6⟩ := firstB_some hby f1
      have HCN : Hid _ := cutOf.non HC.out g6
      go_enter Try.func22, Try.ntmps22
      go_wp2_with fail
      refine (err_of c B l false _ HC.out).mono ?_
      rintro e w' ⟨rfl, hw⟩
      obtain rfl := hw.symm
      clear hw
      rw [show errI false = 0 from rfl]
      go_wp2_with fail
      refine HNA.mono ?_
      rintro e w' ⟨rfl, hw⟩
      obtain rfl := hw.symm
      clear hw HNA
      go_wp2_with fail
      refine (take_any' c B l false n _ HCN.out g3).mono ?_
      rintro e w1 ⟨pb, po, rfl, _, _, _, hc1, hb1⟩
      have HC1 : Hid _ := hc1.of
      clear hc1
      go_wp2
      go_ret
      exact ⟨rfl, HC1.out, hb1⟩
theorem cnum_nil (most : Int) (w : World) : Calls Try.prog 22 #[.pointer none, .int .u64 most] w fun e w' => e = .returned (.int .u64 0) ∧ w' = w := by
  go_enter Try.func22, Try.ntmps22
  go_wp2_with fail
  refine (err_nil _).mono ?_
  rintro e w' ⟨rfl, hw⟩
  obtain rfl := hw.symm
  clear hw
  go_wp2
  go_ret
  exact ⟨rfl, rfl⟩
end Go.Proofs.Ytldjefhgbigplaa
