import Derived.Test.YtcfbaijibghcaaaDoorShaHash
namespace Go.Proofs.YtcfbaijibghcaaaDoor
open Go.RowKit Go.Deep

theorem min_or (a b : Nat) : Nat.min a b = a ∨ Nat.min a b = b := by
  rcases Nat.le_total a b with h | h
  · exact Or.inl (Nat.min_eq_left h)
  · exact Or.inr (Nat.min_eq_right h)
/-- a hash's bytes behind a copy of m bytes. -/
def addF (f : Nat → Int) (p : List Int) (d n m : Nat) (i : Nat) : Int := if n % 64 ≤ i ∧ i < n % 64 + m then p.getD (d + (i - n % 64)) 0 else f i
theorem addF_byte {f : Nat → Int} {p : List Int} {d n m : Nat} (hf : ∀ i, 0 ≤ f i ∧ f i ≤ 255) (hp : ∀ i, 0 ≤ p.getD i 0 ∧ p.getD i 0 ≤ 255) (i : Nat) : 0 ≤ addF f p d n m i ∧ addF f p d n m i ≤ 255 := by
  unfold addF; split
  · exact hp _
  · exact hf _
/-- the bytes of a hash behind a copy are those of the longer text. -/
theorem addF_text {l p : List Int} {d n m : Nat} {f : Nat → Int} (hd : d + m ≤ p.length) (hn : n = l.length + d) (hfl : ∀ i, i < n % 64 → f i = (l ++ p.take d).getD (n / 64 * 64 + i) 0) (i : Nat) (hi : i < n % 64 + m) :
    addF f p d n m i = (l ++ p.take (d + m)).getD (n / 64 * 64 + i) 0 := by
  have hL : (l ++ p.take d).length = n := by rw [List.length_append, List.length_take, Nat.min_eq_left (by omega), hn]
  have hsplit : l ++ p.take (d + m) = (l ++ p.take d) ++ (p.drop d).take m := by rw [List.append_assoc, ← List.take_add]
  rw [hsplit, List.getD_eq_getElem?_getD, List.getElem?_append, hL, addF]
  by_cases e : n % 64 ≤ i
  · rw [if_pos ⟨e, hi⟩, if_neg (by omega), show n / 64 * 64 + i - n = i - n % 64 by omega, List.getElem?_take, if_pos (by omega), List.getElem?_drop, ← List.getD_eq_getElem?_getD]
  · rw [if_neg (by omega), if_pos (by omega), ← List.getD_eq_getElem?_getD]; exact hfl i (by omega)
theorem hash_more {w : World} {b : Nat} {l p : List Int} {d n m : Nat} {v f : Nat → Int} (hd : d + m ≤ p.length) (hn : n = l.length + d) (hm : n % 64 + m < 64) (hfl : ∀ i, i < n % 64 → f i = (l ++ p.take d).getD (n / 64 * 64 + i) 0)
    (hf : ∀ i, 0 ≤ f i ∧ f i ≤ 255) (hp : ∀ i, 0 ≤ p.getD i 0 ∧ p.getD i 0 ≤ 255) (hv : ∀ i, i < 8 → v i = wordsAt (l ++ p.take d) (n / 64) i) (h : hashIs w b v (addF f p d n m) ((n + m : Nat) : Int)) : hashOf w b (l ++ p.take (d + m)) := by
  have hL : (l ++ p.take (d + m)).length = n + m := by rw [List.length_append, List.length_take, Nat.min_eq_left (by omega), hn]; omega
  have hL0 : (l ++ p.take d).length = n := by rw [List.length_append, List.length_take, Nat.min_eq_left (by omega), hn]
  have hsplit : l ++ p.take (d + m) = (l ++ p.take d) ++ (p.drop d).take m := by rw [List.append_assoc, ← List.take_add]
  refine ⟨v, addF f p d n m, by rw [hL]; exact h, fun i hi => ?_, addF_byte hf hp, fun i hi => ?_⟩
  · rw [hL, show (n + m) / 64 = n / 64 by omega, hv i hi, hsplit, wordsAt_append (l ++ p.take d) ((p.drop d).take m) _ (by rw [hL0]; omega) i hi]
  · rw [hL] at hi ⊢
    rw [show (n + m) / 64 = n / 64 by omega]
    exact addF_text hd hn hfl i (by omega)
theorem hash_full {w : World} {b : Nat} {l p : List Int} {d n m : Nat} {v f : Nat → Int} (hd : d + m ≤ p.length) (hn : n = l.length + d) (hm : n % 64 + m = 64) (hfl : ∀ i, i < n % 64 → f i = (l ++ p.take d).getD (n / 64 * 64 + i) 0)
    (hf : ∀ i, 0 ≤ f i ∧ f i ≤ 255) (hp : ∀ i, 0 ≤ p.getD i 0 ∧ p.getD i 0 ≤ 255) (hv : ∀ i, i < 8 → v i = wordsAt (l ++ p.take d) (n / 64) i) (h : hashIs w b (takeI v (addF f p d n m)) (addF f p d n m) ((n + m : Nat) : Int)) : hashOf w b (l ++ p.take (d + m)) := by
  have hL : (l ++ p.take (d + m)).length = n + m := by rw [List.length_append, List.length_take, Nat.min_eq_left (by omega), hn]; omega
  have hL0 : (l ++ p.take d).length = n := by rw [List.length_append, List.length_take, Nat.min_eq_left (by omega), hn]
  have hsplit : l ++ p.take (d + m) = (l ++ p.take d) ++ (p.drop d).take m := by rw [List.append_assoc, ← List.take_add]
  refine ⟨takeI v (addF f p d n m), addF f p d n m, by rw [hL]; exact h, fun i hi => ?_, addF_byte hf hp, fun i hi => ?_⟩
  · rw [hL, show (n + m) / 64 = n / 64 + 1 by omega, wordsAt]
    refine takeI_congr (fun j hj => ?_) (fun j hj => ?_) i hi
    · rw [hv j hj, hsplit, wordsAt_append (l ++ p.take d) ((p.drop d).take m) _ (by rw [hL0]; omega) j hj]
    · rw [addF_text hd hn hfl j (by omega), Nat.mul_comm]
  · rw [hL] at hi
    omega
def sliceLen : Value → Nat
  | .slice _ n _ => n
  | _ => 0
set_option maxHeartbeats 1000000 in
set_option maxRecDepth 100000 in
theorem add_any (b : Nat) (l p : List Int) (pb po cap : Nat) (w : World) (h : hashOf w b l) (hne : pb ≠ b) (hpb : pb < w.heap.size) (hcap : p.length ≤ cap) (hbig : l.length + p.length < 1099511627776)
    (hcell : ∀ i, i < p.length → w.cell? ⟨pb, po + i, none⟩ = some (.int .u8 (p.getD i 0))) (hbyte : ∀ i, 0 ≤ p.getD i 0 ∧ p.getD i 0 ≤ 255)
    (hk : ∀ i, i < 64 → w.cell? ⟨0, i, none⟩ = some (.int .u32 (kAt i))) (hb0 : b ≠ 0) (hcm : cap ≤ maxLen) :
    Calls Tryd.prog 49 #[.pointer (some ⟨b, 0, none⟩), .slice (some ⟨pb, po, none⟩) p.length cap] w fun e w' => e = .returned (.tuple #[]) ∧ But w.heap.size b w w' ∧ hashOf w' b (l ++ p) := by
  unfold maxLen at hcm
  have hlt : b < w.heap.size := by obtain ⟨v, f, h, _⟩ := h; exact h.lt
  go_enter Tryd.func49, Tryd.ntmps49
  go_wp2
  go_loopw [1] (fun s wr => ∃ d r c o : Nat, d + r ≤ p.length ∧ p.length ≤ d + r ∧ r ≤ c ∧ c ≤ cap ∧ (0 < r → o = po + d) ∧ s = .slice (some ⟨pb, o, none⟩) r c ∧ But w.heap.size b w wr ∧ hashOf wr b (l ++ p.take d)) (fun s _ => sliceLen s)
  case atStart => exact ⟨0, p.length, cap, po, by omega, by omega, hcap, Nat.le_refl _, fun _ => rfl, rfl, But.refl _ _ _, by simpa using h⟩
  case round =>
    clear h
    obtain ⟨d, r, c, o, hd1, hd2, hrc, hcc, ho, rfl, hbut, v, f, h, hv, hf, hfl⟩ := hrel
    have hl : (l ++ p.take d).length = l.length + d := by rw [List.length_append, List.length_take, Nat.min_eq_left (by omega)]
    rw [hl] at h hv hfl
    clear hl
    obtain ⟨n, hn⟩ : ∃ n, n = l.length + d := ⟨_, rfl⟩
    rw [← hn] at h hv hfl
    have HN : Hid (n = l.length + d) := hn
    have hn2 : n < 1099511627776 := by omega
    clear hn
    by_cases hr : 0 < r
    · obtain rfl := ho hr
      clear ho
      have q0 : (0 : Int) < (r : Int) := by omega
      have q1 : (0 : Int) ≤ (n : Int) % 64 := by omega
      have q2 : (n : Int) % 64 < 64 := by omega
      have q3 : (n : Int) % 64 ≤ 64 := by omega
      obtain ⟨m, hm⟩ : ∃ m, m = Nat.min r (64 - ((n : Int) % 64).toNat) := ⟨_, rfl⟩
      have hmr : m ≤ r := by rw [hm]; exact Nat.min_le_left _ _
      have hmq : m ≤ 64 - ((n : Int) % 64).toNat := by rw [hm]; exact Nat.min_le_right _ _
      have hm0 : 0 < m := by rw [hm]; exact Nat.lt_min.2 ⟨by omega, by omega⟩
      have hmx : m = r ∨ m = 64 - ((n : Int) % 64).toNat := by rw [hm]; exact min_or _ _
      have hsrc : ∀ j, j < m → wr.drew.cell? ⟨pb, po + d + j, none⟩ = some (.int .u8 (p.getD (d + j) 0)) := fun j hj => by
        show wr.cell? _ = _
        rw [hbut.cell hpb hne, Nat.add_assoc]; exact hcell _ (by omega)
      have hcp := run_copy_seg (P := Tryd.prog) wr.drew 36 36 3 5 b (8 + ((n : Int) % 64).toNat) (64 - ((n : Int) % 64).toNat) (64 - ((n : Int) % 64).toNat) pb (po + d) r c m (fun j => .int .u8 (p.getD (d + j) 0)) 97 73 (hashV v f n) Tryd.underlying36 (by kernel_rfl) hm h.drew (by omega) hsrc (fun _ _ => rfl)
      have rW : (wr.drew.setCells b (8 + ((n : Int) % 64).toNat) (rowV m fun j => .int .u8 (p.getD (d + j) 0)).toList).rowIs b 97 73 _ := rowIs_splice h.drew
      have hbW : But w.heap.size b w (wr.drew.setCells b (8 + ((n : Int) % 64).toNat) (rowV m fun j => .int .u8 (p.getD (d + j) 0)).toList) := but_setCells _ _ hbut.drew
      revert hcp rW hbW
      generalize wr.drew.setCells b (8 + ((n : Int) % 64).toNat) (rowV m fun j => .int .u8 (p.getD (d + j) 0)).toList = W
      intro hcp rW hbW
      have HM : Hid (m = r ∨ m = 64 - ((n : Int) % 64).toNat) := hmx
      clear hm hsrc hmx
      go_wp2
      go_region_held3 (fun _ => True) (trivial) (first | (go_at_call 58; refine (waiting_any b v f n _ ?_).mono ?_; exact h; rintro e w' ⟨rfl, rfl⟩))
      clear hcp
      obtain ⟨o', ho', hsl⟩ := run_slice_from (P := Tryd.prog) 36 5 pb (po + d) r c m Tryd.underlying36 (by kernel_rfl) hmr
      have cW : W.cell? ⟨b, 72, none⟩ = some (.int .u64 n) := by rw [rW.cell (by omega), if_neg (by omega), hashV_count]
      have zW := rW.frozen 72
      have HO : Hid (m < c → o' = po + d + m) := ho'
      clear ho'
      have rW' : hashIs W b v (addF f p d n m) n := rW.congr fun i hi => by
        unfold hashV addF
        by_cases e : i < 8
        · rw [if_neg (by omega), if_pos e, if_pos e]
        · by_cases e2 : i < 72
          · rw [if_neg e, if_pos e2, if_neg e, if_pos e2]
            by_cases e3 : n % 64 ≤ i - 8 ∧ i - 8 < n % 64 + m
            · rw [if_pos (by omega), if_pos e3, show i - (8 + ((n : Int) % 64).toNat) = i - 8 - n % 64 by omega]
            · rw [if_neg (by omega), if_neg e3]
          · rw [if_neg (by omega), if_neg e, if_neg e2, if_neg e, if_neg e2]
      have r2 : hashIs (W.setCell ⟨b, 72, none⟩ (.int .u64 ((n : Int) + m))) b v (addF f p d n m) ((n + m : Nat) : Int) := (rW'.set 72 _).congr fun i hi => by
        unfold hashV
        by_cases e : i = 72
        · rw [if_pos e, if_neg (by omega), if_neg (by omega), Int.natCast_add]
        · rw [if_neg e]
          by_cases e1 : i < 8
          · rw [if_pos e1, if_pos e1]
          · rw [if_neg e1, if_neg e1, if_pos (by omega), if_pos (by omega)]
      have hb2 := hbW.set 72 (.int .u64 ((n : Int) + m))
      have HR : Hid (But w.heap.size b w W ∧ hashIs W b v (addF f p d n m) n) := ⟨hbW, rW'⟩
      clear rW rW' hbW
      by_cases hfull : (n + m) % 64 = 0
      · have hdb : (((n : Int) + (m : Int)) % 64 == 0) = true := by simp; omega
        go_wp2
        revert r2 hb2
        generalize W.setCell ⟨b, 72, none⟩ (.int .u64 ((n : Int) + m)) = W2
        intro r2 hb2
        obtain ⟨cs, hcl, hcr, Hcs⟩ := hash_range r2
        have hu := Tryd.underlying95
        have hi : (Tryd.prog.info? 95).map (·.size) = some cs.length := by rw [hcl]; kernel_rfl
        have hk2 : ∀ i, i < 64 → W2.cell? ⟨0, i, none⟩ = some (.int .u32 (kAt i)) := fun i hi => by rw [hb2.cell (by omega) (Ne.symm hb0)]; exact hk i hi
        go_region_held3 (fun w' => w'.rangeAt b 8 cs) (first | exact hrng | exact hcr) (first | (go_at_call 59; refine (take_hash b v (addF f p d n m) _ cs _ Hcs r2.drew hk2).mono ?_; rintro e w3 ⟨rfl, hb3, r3, hrng⟩))
        go_wp2
        go_light
        exact ⟨⟨d + m, r - m, c - m, o', by omega, by omega, by omega, by omega, fun h => by have := HO.out (by omega); omega, rfl, hb2.drew.trans (hb3.mono hb2.size), hash_full (by omega) HN.out (by omega) hfl hf hbyte hv r3⟩, by simp [sliceLen]; omega⟩
      · have hdb : (((n : Int) + (m : Int)) % 64 == 0) = false := by simp; omega
        go_wp2
        go_light
        have hm2 : m = r := by have := HM.out; omega
        exact ⟨⟨d + m, r - m, c - m, o', by omega, by omega, by omega, by omega, fun h => by have := HO.out (by omega); omega, rfl, hb2, hash_more (by omega) HN.out (by omega) hfl hf hbyte hv r2⟩, by simp [sliceLen]; omega⟩
    · obtain rfl : r = 0 := by omega
      go_wp2
      go_end0
      have hpl : d = p.length := by omega
      subst hpl
      refine ⟨rfl, hbut, v, f, ?_⟩
      rw [List.take_length] at hv hfl
      have e2 : (l ++ p).length = n := by rw [List.length_append, HN.out]
      rw [e2]
      exact ⟨h, hv, hf, hfl⟩
end Go.Proofs.YtcfbaijibghcaaaDoor
