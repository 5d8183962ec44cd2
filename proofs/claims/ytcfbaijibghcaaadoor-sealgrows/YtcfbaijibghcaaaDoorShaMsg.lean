import Derived.Test.YtcfbaijibghcaaaDoorShaPad
namespace Go.Proofs.YtcfbaijibghcaaaDoor
open Go.RowKit Go.Deep

/-- eight times a number, in eight bytes. -/
def lenBytes (n : Nat) : List Int := (List.range 8).map fun k => (8 * (n : Int)) / 2 ^ (56 - 8 * k) % 256
/-- the message of some bytes. -/
def msg (l : List Int) : List Int := l ++ ((128 :: List.replicate ((119 - l.length % 64) % 64) 0) ++ lenBytes l.length)
/-- the words behind the whole message, and the sum's bytes. -/
def finalW (l : List Int) : Nat → Int := wordsAt (msg l) ((msg l).length / 64)
def sumI (l : List Int) (i : Nat) : Int := sumByte (finalW l) i

theorem lenBytes_length (n : Nat) : (lenBytes n).length = 8 := by simp [lenBytes]
theorem lenBytes_get (n k : Nat) (h : k < 8) : (lenBytes n).getD k 0 = (8 * (n : Int)) / 2 ^ (56 - 8 * k) % 256 := by
  rw [List.getD_eq_getElem?_getD, lenBytes, List.getElem?_map, List.getElem?_range h]; rfl
theorem msg_length (l : List Int) : (msg l).length = l.length + (1 + (119 - l.length % 64) % 64 + 8) := by
  simp [msg, lenBytes_length]; omega
theorem msg_head (l : List Int) (j : Nat) (h : j < l.length) : (msg l).getD j 0 = l.getD j 0 := by
  rw [List.getD_eq_getElem?_getD, List.getD_eq_getElem?_getD, msg, List.getElem?_append_left h]
theorem msg_one (l : List Int) : (msg l).getD l.length 0 = 128 := by
  rw [List.getD_eq_getElem?_getD, msg, List.getElem?_append_right (Nat.le_refl _), Nat.sub_self]; rfl
theorem msg_zero (l : List Int) (j : Nat) (h0 : l.length < j) (h1 : j < l.length + 1 + (119 - l.length % 64) % 64) : (msg l).getD j 0 = 0 := by
  obtain ⟨m, rfl⟩ : ∃ m, j = l.length + (m + 1) := ⟨j - l.length - 1, by omega⟩
  rw [List.getD_eq_getElem?_getD, msg, List.getElem?_append_right (by omega), show l.length + (m + 1) - l.length = m + 1 by omega, List.getElem?_append_left (by simp; omega), List.getElem?_cons_succ, List.getElem?_replicate, if_pos (by omega)]; rfl
theorem msg_len (l : List Int) (k : Nat) (hk : k < 8) : (msg l).getD (l.length + 1 + (119 - l.length % 64) % 64 + k) 0 = (8 * (l.length : Int)) / 2 ^ (56 - 8 * k) % 256 := by
  rw [← lenBytes_get _ _ hk, List.getD_eq_getElem?_getD, List.getD_eq_getElem?_getD, msg, List.getElem?_append_right (by omega), List.getElem?_append_right (by simp; omega)]
  congr 2
  simp; omega

theorem padW_msg {l : List Int} {v f : Nat → Int} (hv : ∀ i, i < 8 → v i = wordsAt l (l.length / 64) i) (hfl : ∀ i, i < l.length % 64 → f i = l.getD (l.length / 64 * 64 + i) 0) (i : Nat) (hi : i < 8) : padW v f l.length i = finalW l i := by
  have hl := msg_length l
  have hpre : ∀ i, i < 8 → v i = wordsAt (msg l) (l.length / 64) i := fun i hi => by
    rw [hv i hi, msg, wordsAt_append l _ _ (by omega) i hi]
  unfold padW finalW
  by_cases hq : l.length % 64 < 56
  · rw [if_pos hq, show (msg l).length / 64 = l.length / 64 + 1 by omega, wordsAt]
    refine takeI_congr hpre (fun j hj => ?_) i hi
    unfold lenF padF
    by_cases e : j < 56
    · rw [if_pos e]
      by_cases e1 : j < l.length % 64
      · rw [if_pos e1, hfl j e1, msg_head l _ (by omega), Nat.mul_comm]
      · rw [if_neg e1]
        by_cases e2 : j = l.length % 64
        · rw [if_pos e2, show 64 * (l.length / 64) + j = l.length by omega, msg_one]
        · rw [if_neg e2, msg_zero l _ (by omega) (by omega)]
    · rw [if_neg e, show 64 * (l.length / 64) + j = l.length + 1 + (119 - l.length % 64) % 64 + (j - 56) by omega, msg_len l _ (by omega)]
  · rw [if_neg hq, show (msg l).length / 64 = l.length / 64 + 1 + 1 by omega, wordsAt]
    refine takeI_congr (fun j hj => ?_) (fun j hj => ?_) i hi
    · rw [wordsAt]
      refine takeI_congr hpre (fun k hk => ?_) j hj
      unfold padF
      by_cases e1 : k < l.length % 64
      · rw [if_pos e1, hfl k e1, msg_head l _ (by omega), Nat.mul_comm]
      · rw [if_neg e1]
        by_cases e2 : k = l.length % 64
        · rw [if_pos e2, show 64 * (l.length / 64) + k = l.length by omega, msg_one]
        · rw [if_neg e2, msg_zero l _ (by omega) (by omega)]
    · unfold lenF
      by_cases e : j < 56
      · rw [if_pos e, msg_zero l _ (by omega) (by omega)]
      · rw [if_neg e, show 64 * (l.length / 64 + 1) + j = l.length + 1 + (119 - l.length % 64) % 64 + (j - 56) by omega, msg_len l _ (by omega)]
end Go.Proofs.YtcfbaijibghcaaaDoor
