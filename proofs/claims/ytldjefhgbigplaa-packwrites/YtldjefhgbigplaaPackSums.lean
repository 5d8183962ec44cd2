import Derived.Test.YtldjefhgbigplaaPackSum
namespace Go.Proofs.Ytldjefhgbigplaa
open Go.RowKit Go.Deep

/-- THE VALUE v IS A SLICE OF n SUMS. -/
def isSums (w : World) (v : Value) (n : Nat) (g : Nat → List Int) : Prop :=
  (∀ i, i < n → (g i).length = 32 ∧ ∀ j, 0 ≤ (g i).getD j 0 ∧ (g i).getD j 0 ≤ 255) ∧ ((v = .slice none 0 0 ∧ n = 0) ∨ ∃ pb po cap : Nat, v = .slice (some ⟨pb, po, none⟩) n cap ∧ pb < w.heap.size ∧ n ≤ maxLen ∧
    ∀ i, i < n → ∀ j, j < 32 → w.cell? ⟨pb, po + i * 32 + j, none⟩ = some (arrV (g i) j))
theorem isSums.below {w w' : World} {B : Nat} {v : Value} {n : Nat} {g : Nat → List Int} (h : isSums w v n g) (hb : Below B w w') (hB : w.heap.size ≤ B) : isSums w' v n g := by
  obtain ⟨h0, h | ⟨pb, po, cap, h1, h2, h3, h4⟩⟩ := h
  · exact ⟨h0, Or.inl h⟩
  · exact ⟨h0, Or.inr ⟨pb, po, cap, h1, Nat.lt_of_lt_of_le h2 hb.size, h3, fun i hi j hj => by rw [hb.cell (p := ⟨pb, po + i * 32 + j, none⟩) (Nat.lt_of_lt_of_le h2 hB)]; exact h4 i hi j hj⟩⟩
theorem isSums.open {w : World} {v : Value} {n : Nat} {g : Nat → List Int} (h : isSums w v n g) :
    ∃ a cap, v = .slice a n cap ∧ n ≤ maxLen ∧ ∀ k, k < n → ∃ qb qo, a = some ⟨qb, qo, none⟩ ∧ qb < w.heap.size ∧ ∀ j, j < 32 → w.cell? ⟨qb, qo + k * 32 + j, none⟩ = some (arrV (g k) j) := by
  obtain ⟨_, ⟨rfl, rfl⟩ | ⟨pb, po, cap, rfl, h2, h3, h4⟩⟩ := h
  · exact ⟨_, _, rfl, Nat.zero_le _, fun k hk => by omega⟩
  · exact ⟨_, _, rfl, h3, fun k hk => ⟨pb, po, rfl, h2, h4 k hk⟩⟩
theorem isBytes_row' {w : World} {g : Nat} {q : List Int} (hr : w.rowIs g 51 32 (arrV q)) (hq : q.length = 32) (hb : ∀ i, 0 ≤ q.getD i 0 ∧ q.getD i 0 ≤ 255) : isBytes w (.slice (some ⟨g, 0, none⟩) 32 32) q :=
  Or.inr ⟨g, 0, 32, by rw [hq], by omega, by unfold maxLen; omega, World.block_lt_of_cell? _ _ (hr.cell (i := 0) (by omega)), fun i hi => by rw [Nat.zero_add]; exact hr.cell (by omega), hb⟩
theorem flatTo_32 (g : Nat → List Int) (n : Nat) (h : ∀ i, i < n → (g i).length = 32) : ∀ k, k ≤ n → (flatTo g k).length = 32 * k
  | 0, _ => rfl
  | k + 1, hk => by rw [flatTo, List.length_append, flatTo_32 g n h k (by omega), h k (by omega)]; omega
set_option maxHeartbeats 1000000 in
set_option maxRecDepth 100000 in
theorem sums_any (l : List Int) (v u : Value) (n : Nat) (g : Nat → List Int) (w : World) (hv : isBytes w v l) (hu : isSums w u n g) (hs : l.length + 32 * n ≤ 1000000000000) :
    Calls Try.prog 13 #[v, u] w fun e w' => ∃ v', e = .returned v' ∧ newBytes w' w.heap.size v' (l ++ flatTo g n) ∧ Below w.heap.size w w' := by
  obtain ⟨a, cap, rfl, hnm, hcell⟩ := hu.open
  have h32 := hu.1
  have hlen := flatTo_32 g n (fun i hi => (h32 i hi).1)
  clear hu
  have q0 : (n : Int) ≤ 1000000000000 := by omega
  go_enter Try.func13, Try.ntmps13
  have K := withRoom_any l v (32 * n) w hv (by omega)
  rw [show ((32 * n : Nat) : Int) = 32 * (n : Int) by omega] at K
  go_wp2_with fail
  refine K.mono ?_
  rintro e w1 ⟨v1, rfl, hn1, hb1⟩
  have HN : Hid _ := hn1
  have HB : Hid _ := hb1
  clear hn1 hb1 K hv
  go_wp2
  go_loopw [5, 15] (fun z i wr => ∃ j : Nat, j ≤ n ∧ i = .int .i64 j ∧ newBytes wr w.heap.size z (l ++ flatTo g j) ∧ Below w.heap.size w wr) (fun _ i _ => n - (intOf i).toNat)
  case atStart => exact ⟨0, by omega, rfl, by rw [flatTo, List.append_nil]; exact HN.out, HB.out⟩
  case round =>
    clear HN HB
    obtain ⟨j, hj, rfl, hn, hb⟩ := hrel
    by_cases hlt2 : j < n
    · obtain ⟨qb, qo, rfl, hq, hc⟩ := hcell j hlt2
      obtain ⟨g1, g2⟩ := h32 j hlt2
      have b0 : (0 : Int) ≤ (j : Int) := by omega
      have b1 : (j : Int) < (n : Int) := by omega
      have hlj := hlen j (by omega)
      have cl : ∀ i, i < 32 → wr.cell? ⟨qb, qo + j * 32 + i, none⟩ = some (arrV (g j) i) := fun i hi => by rw [hb.cell (p := ⟨qb, qo + j * 32 + i, none⟩) hq]; exact hc i hi
      have hz := rowIs_zero wr #[.int .u8 0, .int .u8 0, .int .u8 0, .int .u8 0, .int .u8 0, .int .u8 0, .int .u8 0, .int .u8 0, .int .u8 0, .int .u8 0, .int .u8 0, .int .u8 0, .int .u8 0, .int .u8 0, .int .u8 0, .int .u8 0, .int .u8 0, .int .u8 0, .int .u8 0, .int .u8 0, .int .u8 0, .int .u8 0, .int .u8 0, .int .u8 0, .int .u8 0, .int .u8 0, .int .u8 0, .int .u8 0, .int .u8 0, .int .u8 0, .int .u8 0, .int .u8 0] 51 32 (.int .u8 0) rfl
      have hba : Below wr.heap.size wr (wr.alloc (.cells #[.int .u8 0, .int .u8 0, .int .u8 0, .int .u8 0, .int .u8 0, .int .u8 0, .int .u8 0, .int .u8 0, .int .u8 0, .int .u8 0, .int .u8 0, .int .u8 0, .int .u8 0, .int .u8 0, .int .u8 0, .int .u8 0, .int .u8 0, .int .u8 0, .int .u8 0, .int .u8 0, .int .u8 0, .int .u8 0, .int .u8 0, .int .u8 0, .int .u8 0, .int .u8 0, .int .u8 0, .int .u8 0, .int .u8 0, .int .u8 0, .int .u8 0, .int .u8 0] 51)) := (Below.refl _ _).alloc (Nat.le_refl _) _
      have hsa : (wr.alloc (.cells #[.int .u8 0, .int .u8 0, .int .u8 0, .int .u8 0, .int .u8 0, .int .u8 0, .int .u8 0, .int .u8 0, .int .u8 0, .int .u8 0, .int .u8 0, .int .u8 0, .int .u8 0, .int .u8 0, .int .u8 0, .int .u8 0, .int .u8 0, .int .u8 0, .int .u8 0, .int .u8 0, .int .u8 0, .int .u8 0, .int .u8 0, .int .u8 0, .int .u8 0, .int .u8 0, .int .u8 0, .int .u8 0, .int .u8 0, .int .u8 0, .int .u8 0, .int .u8 0] 51)).heap.size = wr.heap.size + 1 := by simp
      have key : ∀ w3 : World, w3.rowIs wr.heap.size 51 32 (fun i => if 0 ≤ i ∧ i < 0 + 32 then arrV (g j) (i - 0) else .int .u8 0) → w3.heap.size = (wr.alloc (.cells #[.int .u8 0, .int .u8 0, .int .u8 0, .int .u8 0, .int .u8 0, .int .u8 0, .int .u8 0, .int .u8 0, .int .u8 0, .int .u8 0, .int .u8 0, .int .u8 0, .int .u8 0, .int .u8 0, .int .u8 0, .int .u8 0, .int .u8 0, .int .u8 0, .int .u8 0, .int .u8 0, .int .u8 0, .int .u8 0, .int .u8 0, .int .u8 0, .int .u8 0, .int .u8 0, .int .u8 0, .int .u8 0, .int .u8 0, .int .u8 0, .int .u8 0, .int .u8 0] 51)).heap.size → But (wr.alloc (.cells #[.int .u8 0, .int .u8 0, .int .u8 0, .int .u8 0, .int .u8 0, .int .u8 0, .int .u8 0, .int .u8 0, .int .u8 0, .int .u8 0, .int .u8 0, .int .u8 0, .int .u8 0, .int .u8 0, .int .u8 0, .int .u8 0, .int .u8 0, .int .u8 0, .int .u8 0, .int .u8 0, .int .u8 0, .int .u8 0, .int .u8 0, .int .u8 0, .int .u8 0, .int .u8 0, .int .u8 0, .int .u8 0, .int .u8 0, .int .u8 0, .int .u8 0, .int .u8 0] 51)).heap.size wr.heap.size (wr.alloc (.cells #[.int .u8 0, .int .u8 0, .int .u8 0, .int .u8 0, .int .u8 0, .int .u8 0, .int .u8 0, .int .u8 0, .int .u8 0, .int .u8 0, .int .u8 0, .int .u8 0, .int .u8 0, .int .u8 0, .int .u8 0, .int .u8 0, .int .u8 0, .int .u8 0, .int .u8 0, .int .u8 0, .int .u8 0, .int .u8 0, .int .u8 0, .int .u8 0, .int .u8 0, .int .u8 0, .int .u8 0, .int .u8 0, .int .u8 0, .int .u8 0, .int .u8 0, .int .u8 0] 51)) w3 →
          ∃ v4 w4, (Builtin.append_ #[22, 22] 22 #[u5, .slice (some ⟨wr.heap.size, 0, none⟩) 32 32]).run Try.prog w3 = .ok v4 w4 ∧ newBytes w4 w.heap.size v4 (l ++ flatTo g (j + 1)) ∧ Below w.heap.size w w4 := fun w3 r3 hz3 hb3 => by
        have hr3 : w3.rowIs wr.heap.size 51 32 (arrV (g j)) := r3.congr (fun i hi => by rw [if_pos (by omega)]; rfl)
        have hB3 : Below w.heap.size w w3 := (hb.trans (hba.mono hb.size)).trans ((hb3.mono (by have := hb.size; omega)).below hb.size)
        have hn3 : newBytes w3 w.heap.size u5 (l ++ flatTo g j) := ⟨hn.1.far (fun k hk => by
          have := hn.block k hk
          exact (hb3.block k (by omega) (by omega)).trans (hba.block k (by omega))), hn.2⟩
        obtain ⟨v4, w4, hr4, hn4, hg4, _⟩ := bytes_append_run w3 w.heap.size u5 _ _ (g j) hn3 (isBytes_row' hr3 g1 g2) (by rw [List.length_append]; omega) (by have := hb.size; omega)
        refine ⟨v4, w4, hr4, by rw [flatTo, ← List.append_assoc]; exact hn4, hB3.trans (below_grown hg4 (fun k hk => (hn3.block k hk).1) (by have := hb.size; omega))⟩
      have CL : Hid _ := cl
      have KEY : Hid _ := key
      clear hn cl hcell hc h32 hlen key hb hba
      go_wp2_with (first | (refine wpList_load_seg rfl 51 _ rfl qb (qo + j * 32) 32 (arrV (g j)) rfl _ Try.underlying51 rfl hi32 CL.out ?_) | (refine wpList_store_row rfl 51 _ _ rfl rfl wr.heap.size 0 32 (arrV (g j)) rfl rfl hi32 (fun _ _ => rfl) _ _ _ hz (by omega) ?_; intro w3 r3 hz3 hb3; obtain ⟨v4, w4, hr4, hn4, hb4⟩ := KEY.out w3 r3 hz3 hb3) | (at_builtin; refine wpList_append_run rfl (.tmp 19) (.tmp 20) _ rfl rfl rfl hr4 ?_))
      have HN4 : Hid _ := hn4
      have HB4 : Hid _ := hb4
      clear hn4 hb4 hb3 r3 hr4 KEY CL hz
      go_light
      exact ⟨⟨j + 1, by omega, by go_num, HN4.out, HB4.out⟩, by simp [intOf]; omega⟩
    · obtain rfl : j = n := by omega
      have HN : Hid _ := hn
      clear hn hcell
      go_wp2
      go_ret
      exact ⟨_, rfl, HN.out, hb⟩
end Go.Proofs.Ytldjefhgbigplaa
