import Derived.Laws.Cover4
import Derived.ProofKit
import Derived.OpenShut
import Derived.Test.YtadbjcpooeibkaaDoorRows
import Derived.ChangeSlices
import Derived.Deep.Slices
import Derived.Deep.Strs
import Derived.Test.YtadbjcpooeibkaaDoorCards
import Derived.Deep.DeepHandedRow
import Derived.Lib.LaidTab
import Derived.Lib.LaidU8
import Derived.Test.YtadbjcpooeibkaaDoorOwn1
set_option linter.unusedVariables false
set_option linter.unusedSimpArgs false
/- The document's Fault, May, Letter, Small. -/
namespace Go.Proofs.YtadbjcpooeibkaaDoor
set_option linter.unusedSimpArgs false
set_option linter.unusedVariables false
open Go.RowKit Go.Deep

set_option maxHeartbeats 2000000 in
set_option maxRecDepth 100000 in
theorem rfault_any (s : ByteArray) (hs : s.size ≤ maxLen) (w : World) :
    Calls Tryd.prog 13 #[.string s] w fun e w' => e = .returned (.int .i64 (fl s)) ∧ Below w.heap.size w w' := by
  have hm : (s.size : Int) ≤ 9223372036854775807 := by unfold maxLen at hs; omega
  have HS : Hid (s.size ≤ maxLen) := (show s.size ≤ maxLen from hs)
  clear hs
  go_enter Tryd.func13, Tryd.ntmps13
  go_wp2_with fail
  go_loopw [3] (fun i wr => ∃ m : Nat, i = .int .i64 (m : Int) ∧ flAt s m = fl s ∧ m ≤ s.size ∧ Below w.heap.size w wr) (fun i _ => s.size - (intOf i).toNat)
  case atStart => exact ⟨0, rfl, rfl, by omega, Below.refl _ _⟩
  case round =>
    obtain ⟨m, rfl, hf, hmm, hb⟩ := hrel
    have HB : Hid (Below w.heap.size w wr) := hb
    have X := rnext_any s HS.out ((m : Nat) : Int) (by omega) wr
    rw [nxI_nat] at X
    have h1 := nx_size s m
    have h2 := flAt_stop (s := s) (k := m)
    have h3 := flAt_step (s := s) (k := m)
    generalize nx s m = c at X h1 h2 h3
    obtain ⟨r, z⟩ := c
    simp only at X h1 h2 h3
    have HZ : Hid ((z = 0 → fl s = m) ∧ (z ≠ 0 → flAt s (m + z) = fl s)) := (show _ from ⟨fun h => by rw [← hf, h2 h], fun h => by rw [← hf, h3 h]⟩)
    have z0 : (m : Int) + (z : Int) ≤ (s.size : Int) := by omega
    clear h1 h2 h3 hb hf
    go_wp2_with fail
    refine X.mono ?_
    rintro e w1 ⟨rfl, b1⟩
    have B1 : Hid (Below w.heap.size w w1) := (show Below w.heap.size w w1 from HB.out.trans (b1.mono HB.out.size))
    clear X b1
    by_cases hz : z = 0
    · subst hz
      go_wp2
      go_ret
      exact ⟨by rw [HZ.out.1 trivial]; rfl, B1.out⟩
    · have hz' : ¬ (z : Int) = 0 := by omega
      go_wp2
      go_light
      exact ⟨⟨m + z, by rw [Int.natCast_add], HZ.out.2 hz, by omega, B1.out⟩, by simp [intOf]; omega⟩
theorem rmay_any (s : ByteArray) (hs : s.size ≤ maxLen) (w : World) :
    Calls Tryd.prog 15 #[.string s] w fun e w' => e = .returned (.bool (decide (fl s = s.size))) ∧ Below w.heap.size w w' := by
  have X := rfault_any s hs w
  have e : (decide (fl s = s.size)) = (decide ((fl s : Int) = (s.size : Int))) := decide_eq_decide.2 (by omega)
  rw [e]
  clear e
  go_enter Tryd.func15, Tryd.ntmps15
  go_wp2_with fail
  refine X.mono ?_
  rintro e w1 ⟨rfl, b1⟩
  clear X
  go_wp2
  go_ret
  exact ⟨rfl, b1⟩
theorem wpList_runU {P : Program} {ops : Array Oper} {rest : List Oper} {o : Oper} {a : Act} {w w' : World} {Q : Exit → Act → World → Prop} {v : Value} (hgd : o.guard = none) (hr : (execOp a.eval o).run P w = .ok (.value v) w') (h : wpList P ops Q rest (a.put o.dst v) w') : wpList P ops Q (o :: rest) a w :=
  wpList_plain hgd fun _ hK => wp_of_run hr (hK _ _ h)
/-- the document's row of letters. -/
def lrow : Array Value := (ltL.flatMap fun p => [Value.int .i64 p.1, Value.int .i64 p.2]).toArray
theorem flat2 : ∀ (l : List (Int × Int)) (i : Nat) (x : Int × Int), l[i]? = some x → (l.flatMap fun p => [Value.int .i64 p.1, Value.int .i64 p.2])[i * 2]? = some (.int .i64 x.1) ∧ (l.flatMap fun p => [Value.int .i64 p.1, Value.int .i64 p.2])[i * 2 + 1]? = some (.int .i64 x.2)
  | [], i, x, h => by simp at h
  | y :: t, 0, x, h => by
    simp at h
    subst h
    exact ⟨rfl, rfl⟩
  | y :: t, i + 1, x, h => by
    simp at h
    have := flat2 t i x h
    rw [List.flatMap_cons]
    rw [show (i + 1) * 2 = (i * 2) + 2 by omega, show (i * 2) + 2 + 1 = (i * 2 + 1) + 2 by omega]
    exact this
theorem lrow_cell (w : World) (i : Nat) (hi : i < 43) : (w.alloc (.cells lrow 3)).cell? ⟨w.heap.size, i * 2, none⟩ = some (.int .i64 (ltA i)) ∧ (w.alloc (.cells lrow 3)).cell? ⟨w.heap.size, i * 2 + 1, none⟩ = some (.int .i64 (ltB i)) := by
  have hl : ltL[i]? = some (ltL.getD i (0, 0)) := by
    rw [List.getD_eq_getElem?_getD, List.getElem?_eq_getElem (show i < ltL.length from hi)]; rfl
  have := flat2 ltL i _ hl
  rw [cell_of_row _ _ _ _ _ _ (blk_alloc_new w _), cell_of_row _ _ _ _ _ _ (blk_alloc_new w _)]
  exact ⟨by rw [lrow, List.getElem?_toArray]; exact this.1, by rw [lrow, List.getElem?_toArray]; exact this.2⟩
set_option maxHeartbeats 4000000 in
set_option maxRecDepth 100000 in
theorem rletter_any (c : Int) (w : World) :
    Calls Tryd.prog 19 #[.int .i64 c] w fun e w' => e = .returned (.bool (letB c)) ∧ Below w.heap.size w w' := by
  obtain ⟨w1, hw1⟩ : ∃ w1, w1 = w.alloc (.cells lrow 3) := ⟨_, rfl⟩
  have b1 : Below w.heap.size w w1 := by rw [hw1]; exact (Below.refl _ _).alloc (Nat.le_refl _) _
  obtain ⟨fb, hfb⟩ : ∃ fb, fb = w.heap.size := ⟨_, rfl⟩
  have FC : Hid (∀ i, i < 43 → w1.cell? ⟨fb, i * 2, none⟩ = some (.int .i64 (ltA i)) ∧ w1.cell? ⟨fb, i * 2 + 1, none⟩ = some (.int .i64 (ltB i))) := (show _ from fun i hi => by rw [hw1, hfb]; exact lrow_cell w i hi)
  have B1 : Hid (Below w.heap.size w w1) := (show Below w.heap.size w w1 from b1)
  clear b1
  go_enter Tryd.func19, Tryd.ntmps19
  go_upto_region 1 with fail
  go_wp2_with (first | (refine wpList_runU (v := .slice (some ⟨w.heap.size, 0, none⟩) 86 86) (w' := w1) rfl (by rw [hw1]; kernel_rfl) ?_; rw [← hfb]; clear hw1 hfb))
  go_loopw [4] (fun i wr => ∃ j : Nat, j ≤ 43 ∧ i = .int .i64 ((j : Int) * 2) ∧ (∀ t, t < j → ¬ (ltA t ≤ c ∧ c ≤ ltB t)) ∧ wr = w1) (fun i _ => 86 - (intOf i).toNat)
  case atStart => exact ⟨0, by omega, rfl, fun t ht => by omega, rfl⟩
  case round =>
    obtain ⟨j, hj, rfl, hno, hw⟩ := hrel
    obtain rfl := hw.symm
    have HN : Hid (∀ t, t < j → ¬ (ltA t ≤ c ∧ c ≤ ltB t)) := (show _ from hno)
    have j0 : (0 : Int) ≤ (j : Int) * 2 := by omega
    have j1 : ((j : Int) * 2).toNat = j * 2 := by omega
    have j2 : ((j : Int) * 2 + 1).toNat = j * 2 + 1 := by omega
    clear hno hw
    by_cases hlt : j < 43
    · have j3 : (j : Int) * 2 < 86 := by omega
      have j4 : (j : Int) * 2 + 1 < 86 := by omega
      obtain ⟨c1, c2⟩ := FC.out j hlt
      obtain ⟨a, ha⟩ : ∃ a, a = ltA j := ⟨_, rfl⟩
      obtain ⟨b, hb⟩ : ∃ b, b = ltB j := ⟨_, rfl⟩
      rw [← ha] at c1
      rw [← hb] at c2
      have HA : Hid (a = ltA j ∧ b = ltB j) := (show _ ∧ _ from ⟨ha, hb⟩)
      clear ha hb
      by_cases h1 : a ≤ c
      · by_cases h2 : c ≤ b
        · have HL : Hid (letB c = true) := (show letB c = true from (letB_is c).2 ⟨j, hlt, by rw [← HA.out.1]; exact h1, by rw [← HA.out.2]; exact h2⟩)
          go_wp2
          go_ret
          exact ⟨by rw [HL.out]; rfl, B1.out⟩
        · go_wp2
          go_light
          refine ⟨⟨j + 1, by omega, by go_num, fun t ht => ?_, trivial⟩, by simp [intOf]; omega⟩
          by_cases e : t = j
          · subst e; intro h; rw [← HA.out.2] at h; exact h2 h.2
          · exact HN.out t (by omega)
      · go_wp2
        go_light
        refine ⟨⟨j + 1, by omega, by go_num, fun t ht => ?_, trivial⟩, by simp [intOf]; omega⟩
        by_cases e : t = j
        · subst e; intro h; rw [← HA.out.1] at h; exact h1 h.1
        · exact HN.out t (by omega)
    · obtain rfl : j = 43 := by omega
      have HL : Hid (letB c = false) := (show letB c = false from by
        cases e : letB c with
        | false => rfl
        | true => obtain ⟨i, hi, h⟩ := (letB_is c).1 e; exact absurd h (HN.out i hi))
      go_wp2
      go_ret
      exact ⟨by rw [HL.out]; rfl, B1.out⟩
end Go.Proofs.YtadbjcpooeibkaaDoor

/- The document's Small. -/
namespace Go.Proofs.YtadbjcpooeibkaaDoor
set_option linter.unusedSimpArgs false
set_option linter.unusedVariables false
open Go.RowKit Go.Deep

theorem strOf_append (l m : List Int) : strOf l ++ strOf m = strOf (l ++ m) := by
  unfold strOf
  apply ByteArray.ext
  simp [ByteArray.data_append]
theorem conv_one (w : World) (x : Int) : (convert 38 9 (.slice (some ⟨w.heap.size, 0, none⟩) 1 1)).run Tryd.prog (w.alloc (.cells #[.int .u8 x] 5)) = .ok (.string (strOf [x])) (w.alloc (.cells #[.int .u8 x] 5)) :=
  conv_lit (w.alloc (.cells #[.int .u8 x] 5)) w.heap.size 1 1 (fun _ => x) (fun i hi => by
    obtain rfl : i = 0 := by omega
    rw [cell_of_row _ _ _ _ _ _ (blk_alloc_new w _)]; rfl)
theorem sBytes_bt (s : ByteArray) (k : Nat) : (sBytes s).getD k 0 = (bt s k : Int) := by
  unfold bt
  by_cases h : k < s.size
  · rw [get_ok s k h, sBytes, List.getD_eq_getElem?_getD, List.getElem?_map, Array.getElem?_toList]
    have h' : k < s.data.size := h
    rw [Array.getElem?_eq_getElem h']
    rfl
  · rw [get_out s k h, List.getD_eq_getElem?_getD, List.getElem?_eq_none (by rw [sBytes_length]; omega)]; rfl
set_option maxHeartbeats 4000000 in
set_option maxRecDepth 100000 in
theorem rsmall_any (s : ByteArray) (hs : s.size ≤ maxLen) (w : World) :
    Calls Tryd.prog 17 #[.string s] w fun e w' => e = .returned (.string (smS s)) ∧ Below w.heap.size w w' := by
  have hm : (s.size : Int) ≤ 9223372036854775807 := by unfold maxLen at hs; omega
  have hone := conv_one
  have HO : Hid _ := hone
  clear hs hone
  go_enter Tryd.func17, Tryd.ntmps17
  go_wp2_with fail
  go_loopw [3, 4] (fun z i wr => ∃ j : Nat, j ≤ s.size ∧ i = .int .i64 (j : Int) ∧ z = .string (strOf ((List.range j).map fun i => smI ((sBytes s).getD i 0))) ∧ Below w.heap.size w wr) (fun _ i _ => s.size - (intOf i).toNat)
  case atStart => exact ⟨0, by omega, rfl, rfl, Below.refl _ _⟩
  case round =>
    obtain ⟨j, hj, rfl, rfl, hb⟩ := hrel
    have HB : Hid (Below w.heap.size w wr) := (show Below w.heap.size w wr from hb)
    have j0 : (0 : Int) ≤ (j : Int) := by omega
    have hl : (strOf ((List.range j).map fun i => smI ((sBytes s).getD i 0))).size = j := by rw [strOf_size]; simp
    have hnx : ∀ y, y = smI ((sBytes s).getD j 0) → strOf ((List.range j).map fun i => smI ((sBytes s).getD i 0)) ++ strOf [y] = strOf ((List.range (j + 1)).map fun i => smI ((sBytes s).getD i 0)) := fun y hy => by
      rw [strOf_append, List.range_succ, List.map_append, hy]; rfl
    rw [sBytes_bt s j] at hnx
    clear hb
    by_cases hlt : j < s.size
    · have j1 : (j : Int) < (s.size : Int) := by omega
      have hb0 := bt_get s j hlt
      have hbl := bt_lt s j
      have hbl' : (bt s j : Int) ≤ 255 := by omega
      have hbl0 : (0 : Int) ≤ (bt s j : Int) := by omega
      have HN : Hid (∀ y, y = smI (bt s j : Int) → strOf ((List.range j).map fun i => smI ((sBytes s).getD i 0)) ++ strOf [y] = strOf ((List.range (j + 1)).map fun i => smI ((sBytes s).getD i 0))) := (show _ from hnx)
      generalize strOf ((List.range j).map fun i => smI ((sBytes s).getD i 0)) = Z at hl HN ⊢
      have hZ : (Z.size : Int) + 1 ≤ 9223372036854775807 := by omega
      obtain ⟨x, hx⟩ : ∃ x : Int, (bt s j : Int) = x := ⟨_, rfl⟩
      rw [hx] at hbl' hbl0 HN
      clear hnx hbl hl
      by_cases h1 : x ≥ 65
      · by_cases h2 : x ≤ 90
        · have c1 := HO.out wr (x + 32)
          have hsz : (strOf [x + 32]).size = 1 := rfl
          have HY : Hid (Z ++ strOf [x + 32] = strOf ((List.range (j + 1)).map fun i => smI ((sBytes s).getD i 0))) := (show Z ++ strOf [x + 32] = strOf ((List.range (j + 1)).map fun i => smI ((sBytes s).getD i 0)) from HN.out (x + 32) (by unfold smI; rw [if_pos ⟨h1, h2⟩]))
          generalize strOf [x + 32] = Y at c1 hsz HY
          have hcat : ¬ (9223372036854775807 < Z.size + Y.size) := by omega
          go_wp2
          go_light
          exact ⟨⟨j + 1, by omega, by go_num, by rw [HY.out], HB.out.alloc HB.out.size _⟩, by simp [intOf]; omega⟩
        · have c1 := HO.out wr x
          have hsz : (strOf [x]).size = 1 := rfl
          have HY : Hid (Z ++ strOf [x] = strOf ((List.range (j + 1)).map fun i => smI ((sBytes s).getD i 0))) := (show Z ++ strOf [x] = strOf ((List.range (j + 1)).map fun i => smI ((sBytes s).getD i 0)) from HN.out x (by unfold smI; rw [if_neg (by omega)]))
          generalize strOf [x] = Y at c1 hsz HY
          have hcat : ¬ (9223372036854775807 < Z.size + Y.size) := by omega
          go_wp2
          go_light
          exact ⟨⟨j + 1, by omega, by go_num, by rw [HY.out], HB.out.alloc HB.out.size _⟩, by simp [intOf]; omega⟩
      · have c1 := HO.out wr x
        have hsz : (strOf [x]).size = 1 := rfl
        have HY : Hid (Z ++ strOf [x] = strOf ((List.range (j + 1)).map fun i => smI ((sBytes s).getD i 0))) := (show Z ++ strOf [x] = strOf ((List.range (j + 1)).map fun i => smI ((sBytes s).getD i 0)) from HN.out x (by unfold smI; rw [if_neg (by omega)]))
        generalize strOf [x] = Y at c1 hsz HY
        have hcat : ¬ (9223372036854775807 < Z.size + Y.size) := by omega
        go_wp2
        go_light
        exact ⟨⟨j + 1, by omega, by go_num, by rw [HY.out], HB.out.alloc HB.out.size _⟩, by simp [intOf]; omega⟩
    · obtain rfl : j = s.size := by omega
      rw [smS_range]
      clear hnx hl
      go_wp2
      go_ret
      exact ⟨rfl, HB.out⟩
end Go.Proofs.YtadbjcpooeibkaaDoor

/- Layer 8, pure: what is small; one behind the other; a beginning. -/
namespace Go.Proofs.YtadbjcpooeibkaaDoor
set_option linter.unusedVariables false
open Go.RowKit Go.Deep

def smN (b : Nat) : Nat := if 65 ≤ b ∧ b ≤ 90 then b + 32 else b
theorem smI_nat (b : Nat) : smI (b : Int) = (smN b : Int) := by unfold smI smN; split <;> split <;> omega
theorem smS_size (s : ByteArray) : (smS s).size = s.size := by unfold smS; rw [strOf_size, List.length_map, sBytes_length]
theorem smS_sb (s : ByteArray) : sBytes (smS s) = (sBytes s).map smI := by
  unfold smS
  refine sBytes_strOf _ fun i => ?_
  rw [List.getD_eq_getElem?_getD, List.getElem?_map]
  cases h : (sBytes s)[i]? with
  | none => exact ⟨by simp, by simp⟩
  | some x =>
    have := sBytes_byte s i
    rw [List.getD_eq_getElem?_getD, h] at this
    exact smI_byte this
theorem bt_smS (s : ByteArray) (k : Nat) : bt (smS s) k = smN (bt s k) := by
  have h : ((bt (smS s) k : Nat) : Int) = (smN (bt s k) : Int) := by
    rw [← sBytes_bt, smS_sb, ← smI_nat, ← sBytes_bt, List.getD_eq_getElem?_getD, List.getD_eq_getElem?_getD, List.getElem?_map]
    cases (sBytes s)[k]? with
    | none => rfl
    | some x => rfl
  omega
theorem smS_again (s : ByteArray) : smS (smS s) = smS s := by
  show strOf ((sBytes (smS s)).map smI) = strOf ((sBytes s).map smI)
  rw [smS_sb, List.map_map]
  congr 1
  apply List.map_congr_left
  intro x _
  show smI (smI x) = smI x
  unfold smI
  repeat' split
  all_goals omega
set_option maxHeartbeats 4000000 in
theorem nxN_small (n b0 b1 b2 b3 : Nat) : (nxN n (smN b0) (smN b1) (smN b2) (smN b3)).2 = (nxN n b0 b1 b2 b3).2 := by
  have e : ∀ b, smN b = b ∨ (b < 128 ∧ smN b < 128) := fun b => by unfold smN; split <;> omega
  rw [nxN_is, nxN_is]
  by_cases h0 : b0 < 128
  · have : smN b0 < 128 := by have := e b0; omega
    by_cases hn : n = 0
    · rw [if_pos hn, if_pos hn]
    · rw [if_neg hn, if_pos this, if_neg hn, if_pos h0]
  · have e0 : smN b0 = b0 := by have := e b0; omega
    rw [e0]
    rcases e b1 with e1 | ⟨e1, f1⟩
    · rw [e1]
      rcases e b2 with e2 | ⟨e2, f2⟩
      · rw [e2]
        rcases e b3 with e3 | ⟨e3, f3⟩
        · rw [e3]
        · repeat' split
          all_goals first | rfl | (exfalso; omega)
      · repeat' split
        all_goals first | rfl | (exfalso; omega)
    · repeat' split
      all_goals first | rfl | (exfalso; omega)
theorem nx_small (s : ByteArray) (k : Nat) : (nx (smS s) k).2 = (nx s k).2 := by
  unfold nx
  rw [smS_size, bt_smS, bt_smS, bt_smS, bt_smS]
  exact nxN_small _ _ _ _ _
theorem fl_small (s : ByteArray) : fl (smS s) = fl s := by
  have h : ∀ f k, flF (smS s) f k = flF s f k := by
    intro f
    induction f with
    | zero => intro k; rfl
    | succ f ih => intro k; rw [flF, flF, nx_small, ih]
  unfold fl flAt
  rw [smS_size]; exact h _ _
/-- as far as the bytes are alike. -/
theorem nx_alike {s t : ByteArray} {k k' : Nat} (hz : 0 < (nx s k).2) (hn : k' + (nx s k).2 ≤ t.size) (hb : ∀ i, i < (nx s k).2 → bt t (k' + i) = bt s (k + i)) : nx t k' = nx s k := by
  have h : nx s k = ((nx s k).1, (nx s k).2) := rfl
  unfold nx at h ⊢
  rw [h]
  refine nxN_same h hz (by have : (nx s k).2 = (nxN (s.size - k) (bt s k) (bt s (k + 1)) (bt s (k + 2)) (bt s (k + 3))).2 := rfl; omega) ?_ ?_ ?_ ?_
  · exact hb 0 hz
  · exact fun h => hb 1 h
  · exact fun h => hb 2 h
  · exact fun h => hb 3 h
theorem nx_cut {s t : ByteArray} {k : Nat} (hk : k ≤ t.size) (hn : t.size < k + (nx s k).2) (hb : k < t.size → bt t k = bt s k) : nx t k = (0, 0) := by
  have h : nx s k = ((nx s k).1, (nx s k).2) := rfl
  have hz : (nx s k).2 = (nxN (s.size - k) (bt s k) (bt s (k + 1)) (bt s (k + 2)) (bt s (k + 3))).2 := rfl
  unfold nx at h ⊢
  exact nxN_short h (by omega) (fun h => hb (by omega))
/-- the way through what is alike. -/
theorem flAt_alike {s t : ByteArray} : ∀ d k, s.size ≤ k + d → flAt s k ≤ t.size → (∀ i, i < flAt s k → bt t i = bt s i) → flAt t k = flAt t (flAt s k) := by
  intro d
  induction d using Nat.strongRecOn with
  | ind d ih =>
    intro k hd hm hb
    by_cases e : (nx s k).2 = 0
    · rw [flAt_stop e]
    · have hstep := flAt_step e
      have hle : k + (nx s k).2 ≤ flAt s k := by
        rw [hstep]
        rcases nx_size s k with h | h
        · exact (flAt_le s (s.size - (k + (nx s k).2)) (k + (nx s k).2) (by omega)).1
        · exact absurd h e
      have hnx : nx t k = nx s k := nx_alike (by omega) (by omega) (fun i hi => hb (k + i) (by omega))
      rw [flAt_step (s := t) (by rw [hnx]; exact e), hnx]
      rw [hstep]
      rcases nx_size s k with h | h
      · by_cases hd0 : d = 0
        · omega
        · exact ih (d - 1) (by omega) (k + (nx s k).2) (by omega) (by rw [← hstep]; exact hm) (by rw [← hstep]; exact hb)
      · exact absurd h e
theorem bt_head (s : ByteArray) (m i : Nat) (hi : i < m) (hm : m ≤ s.size) : bt (s.extract 0 m) i = bt s i := by
  unfold bt
  have h1 : i < (s.extract 0 m).size := by rw [ByteArray.size_extract]; omega
  rw [get_ok _ _ h1, get_ok _ _ (by omega), ByteArray.getElem_extract]
  simp
theorem head_size (s : ByteArray) (m : Nat) (hm : m ≤ s.size) : (s.extract 0 m).size = m := by rw [ByteArray.size_extract]; omega
/-- what is right is right by itself. -/
theorem fl_head (s : ByteArray) : fl (s.extract 0 (fl s)) = fl s := by
  have hle := fl_le s
  unfold fl at hle ⊢
  have h := flAt_alike (s := s) (t := s.extract 0 (flAt s 0)) s.size 0 (by omega) (by rw [head_size s _ hle]; exact Nat.le_refl _) (fun i hi => bt_head s _ i hi hle)
  rw [h]
  exact flAt_stop (by rw [nx_end (by rw [head_size s _ hle]; exact Nat.le_refl _)])
theorem bt_app_l (a b : ByteArray) (i : Nat) (h : i < a.size) : bt (a ++ b) i = bt a i := by
  unfold bt
  rw [get_ok _ _ (by rw [ByteArray.size_append]; omega), get_ok _ _ h, ByteArray.getElem_append_left h]
theorem bt_app_r (a b : ByteArray) (i : Nat) : bt (a ++ b) (a.size + i) = bt b i := by
  unfold bt
  by_cases h : i < b.size
  · rw [get_ok _ _ (by rw [ByteArray.size_append]; omega), get_ok _ _ h, ByteArray.getElem_append_right (by omega)]
    simp
  · rw [get_out _ _ (by rw [ByteArray.size_append]; omega), get_out _ _ h]
theorem nx_app_r (a b : ByteArray) (k : Nat) : nx (a ++ b) (a.size + k) = nx b k := by
  unfold nx
  rw [Nat.add_assoc, Nat.add_assoc, Nat.add_assoc, bt_app_r, bt_app_r, bt_app_r, bt_app_r, ByteArray.size_append, show a.size + b.size - (a.size + k) = b.size - k by omega]
theorem flAt_app_r (a b : ByteArray) : ∀ d k, b.size ≤ k + d → flAt (a ++ b) (a.size + k) = a.size + flAt b k := by
  intro d
  induction d using Nat.strongRecOn with
  | ind d ih =>
    intro k hd
    by_cases e : (nx b k).2 = 0
    · rw [flAt_stop e, flAt_stop (by rw [nx_app_r]; exact e)]
    · rw [flAt_step e, flAt_step (s := a ++ b) (by rw [nx_app_r]; exact e), nx_app_r, Nat.add_assoc]
      by_cases hd0 : d = 0
      · rw [nx_end (by omega)] at e; exact absurd rfl e
      · exact ih (d - 1) (by omega) _ (by omega)
/-- one behind the other. -/
theorem fl_joins (s b : ByteArray) : fl (s.extract 0 (fl s) ++ b) = fl s + fl b := by
  have hle := fl_le s
  have hs := head_size s _ hle
  have h := flAt_alike (s := s) (t := s.extract 0 (fl s) ++ b) s.size 0 (by omega) (by rw [ByteArray.size_append, hs]; show fl s ≤ _; omega) (fun i hi => by
    have hi' : i < fl s := hi
    rw [bt_app_l _ _ _ (by rw [hs]; exact hi'), bt_head s _ i hi' hle])
  show flAt _ 0 = _
  rw [h]
  show flAt _ (fl s) = _
  have := flAt_app_r (s.extract 0 (fl s)) b b.size 0 (by omega)
  rw [hs, Nat.add_zero] at this
  rw [this]; rfl
end Go.Proofs.YtadbjcpooeibkaaDoor

/- UtfSteps, pure: code points as bytes are gone through as they are. -/
namespace Go.Proofs.YtadbjcpooeibkaaDoor
set_option linter.unusedVariables false
open Go.RowKit Go.Deep

theorem encI_len {c : Int} (h : ptP c) : 1 ≤ (encI c).length ∧ (encI c).length ≤ 4 := by
  unfold encI
  repeat' split
  all_goals simp
theorem encode_enc {c : Int} (h : ptP c) : Utf8.encode c = strOf (encI c) := by
  have hp := h
  unfold ptP at hp
  have hv : Utf8.valid c = true := by
    unfold Utf8.valid
    simp only [Bool.or_eq_true, Bool.and_eq_true, decide_eq_true_eq]
    omega
  unfold Utf8.encode
  simp only [hv, if_true]
  unfold encI
  by_cases h1 : c < 128
  · rw [if_pos h1, if_pos (by omega)]; rfl
  rw [if_neg h1, if_neg (by omega)]
  by_cases h2 : c < 2048
  · rw [if_pos h2, if_pos (by omega)]
    have e1 : 192 + c.toNat / 64 = (192 + c / 64).toNat := by omega
    have e2 : 128 + c.toNat % 64 = (128 + c % 64).toNat := by omega
    rw [e1, e2]; rfl
  rw [if_neg h2, if_neg (by omega)]
  by_cases h3 : c < 65536
  · rw [if_pos h3, if_pos (by omega)]
    have e1 : 224 + c.toNat / 4096 = (224 + c / 4096).toNat := by omega
    have e2 : 128 + c.toNat / 64 % 64 = (128 + c / 64 % 64).toNat := by omega
    have e3 : 128 + c.toNat % 64 = (128 + c % 64).toNat := by omega
    rw [e1, e2, e3]; rfl
  · rw [if_neg h3, if_neg (by omega)]
    have e1 : 240 + c.toNat / 262144 = (240 + c / 262144).toNat := by omega
    have e2 : 128 + c.toNat / 4096 % 64 = (128 + c / 4096 % 64).toNat := by omega
    have e3 : 128 + c.toNat / 64 % 64 = (128 + c / 64 % 64).toNat := by omega
    have e4 : 128 + c.toNat % 64 = (128 + c % 64).toNat := by omega
    rw [e1, e2, e3, e4]; rfl
/-- their bytes, one behind the other. -/
def encL (ns : List Int) : List Int := ns.flatMap encI
theorem fold_enc : ∀ (ns : List Int) (l : List Int), (∀ c ∈ ns, ptP c) → ns.foldl (fun r n => r ++ Utf8.encode n) (strOf l) = strOf (l ++ encL ns)
  | [], l, _ => by simp [encL]
  | c :: ns, l, h => by
    rw [List.foldl_cons, encode_enc (h c (by simp)), strOf_append, fold_enc ns _ (fun x hx => h x (by simp [hx]))]
    simp [encL]
theorem runes_enc (ns : List Int) (h : ∀ c ∈ ns, ptP c) : runesBytes ns = strOf (encL ns) := by
  have := fold_enc ns [] h
  rw [List.nil_append] at this
  exact this
theorem encL_byte (ns : List Int) (h : ∀ c ∈ ns, ptP c) : ∀ x ∈ encL ns, 0 ≤ x ∧ x ≤ 255 := fun x hx => by
  unfold encL at hx
  obtain ⟨c, hc, hx⟩ := List.mem_flatMap.1 hx
  obtain ⟨i, hi, rfl⟩ := List.getElem_of_mem hx
  have := encI_byte (h c hc) i
  rwa [List.getD_eq_getElem?_getD, List.getElem?_eq_getElem hi] at this
theorem getD_of_all {l : List Int} (h : ∀ x ∈ l, 0 ≤ x ∧ x ≤ 255) (i : Nat) : 0 ≤ l.getD i 0 ∧ l.getD i 0 ≤ 255 := by
  rw [List.getD_eq_getElem?_getD]
  cases e : l[i]? with
  | none => exact ⟨by simp, by simp⟩
  | some x => exact h x (List.mem_of_getElem? e)
theorem bt_strOf (l : List Int) (h : ∀ x ∈ l, 0 ≤ x ∧ x ≤ 255) (i : Nat) : (bt (strOf l) i : Int) = l.getD i 0 := by
  rw [← sBytes_bt, sBytes_strOf l (getD_of_all h)]
/-- where the code point j begins. -/
def offE (ns : List Int) (j : Nat) : Nat := (encL (ns.take j)).length
theorem offE_next (ns : List Int) (j : Nat) (c : Int) (h : ns[j]? = some c) : offE ns (j + 1) = offE ns j + (encI c).length := by
  unfold offE
  rw [List.take_succ_eq_append_getElem (List.getElem?_eq_some_iff.1 h).1, encL, List.flatMap_append, List.length_append]
  congr 1
  have := (List.getElem?_eq_some_iff.1 h).2
  rw [this]; simp
theorem offE_all (ns : List Int) : offE ns ns.length = (encL ns).length := by unfold offE; rw [List.take_length]
theorem offE_le (ns : List Int) (j : Nat) : offE ns j ≤ (encL ns).length := by
  unfold offE
  have : encL ns = encL (ns.take j) ++ encL (ns.drop j) := by unfold encL; rw [← List.flatMap_append, List.take_append_drop]
  rw [this, List.length_append]; omega
theorem encL_at (ns : List Int) (j : Nat) (c : Int) (h : ns[j]? = some c) (i : Nat) (hi : i < (encI c).length) : (encL ns).getD (offE ns j + i) 0 = (encI c).getD i 0 := by
  have hj := (List.getElem?_eq_some_iff.1 h).1
  have e : encL ns = encL (ns.take j) ++ (encI c ++ encL (ns.drop (j + 1))) := by
    have h1 : ns = ns.take j ++ c :: ns.drop (j + 1) := by
      have h2 := (List.getElem?_eq_some_iff.1 h).2
      rw [← h2, ← List.drop_eq_getElem_cons hj, List.take_append_drop]
    calc encL ns = encL (ns.take j ++ c :: ns.drop (j + 1)) := by rw [← h1]
      _ = _ := by unfold encL; rw [List.flatMap_append, List.flatMap_cons]
  rw [e, List.getD_eq_getElem?_getD, List.getD_eq_getElem?_getD]
  unfold offE
  rw [List.getElem?_append_right (by omega), show (encL (ns.take j)).length + i - (encL (ns.take j)).length = i by omega, List.getElem?_append_left hi]
set_option maxHeartbeats 2000000 in
/-- a code point's bytes are told as it. -/
theorem enc_nx {c : Int} (hc : ptP c) (s : ByteArray) (k : Nat) (hn : k + (encI c).length ≤ s.size) (hb : ∀ i, i < (encI c).length → (bt s (k + i) : Int) = (encI c).getD i 0) : ((nx s k).1 : Int) = c ∧ (nx s k).2 = (encI c).length := by
  have hp := hc
  unfold ptP at hp
  unfold nx
  rw [nxN_is]
  unfold encI at hn hb ⊢
  by_cases h1 : c < 128
  · simp only [if_pos h1] at hn hb ⊢
    have b0 := hb 0 (by simp)
    simp at b0 hn ⊢
    rw [if_neg (by omega), if_pos (by omega)]
    exact ⟨b0, rfl⟩
  by_cases h2 : c < 2048
  · simp only [if_neg h1, if_pos h2] at hn hb ⊢
    have b0 := hb 0 (by simp)
    have b1 := hb 1 (by simp)
    simp at b0 b1 hn ⊢
    rw [if_neg (by omega), if_neg (by omega), if_pos (by omega)]
    exact ⟨by simp only; omega, rfl⟩
  by_cases h3 : c < 65536
  · simp only [if_neg h1, if_neg h2, if_pos h3] at hn hb ⊢
    have b0 := hb 0 (by simp)
    have b1 := hb 1 (by simp)
    have b2 := hb 2 (by simp)
    simp at b0 b1 b2 hn ⊢
    rw [if_neg (by omega), if_neg (by omega), if_neg (by omega), if_pos (by omega)]
    exact ⟨by simp only; omega, rfl⟩
  · simp only [if_neg h1, if_neg h2, if_neg h3] at hn hb ⊢
    have b0 := hb 0 (by simp)
    have b1 := hb 1 (by simp)
    have b2 := hb 2 (by simp)
    have b3 := hb 3 (by simp)
    simp at b0 b1 b2 b3 hn ⊢
    rw [if_neg (by omega), if_neg (by omega), if_neg (by omega), if_neg (by omega), if_pos (by omega)]
    exact ⟨by simp only; omega, rfl⟩
/-- the text's code point j. -/
theorem text_nx (ns : List Int) (h : ∀ c ∈ ns, ptP c) (j : Nat) (c : Int) (hj : ns[j]? = some c) : ((nx (strOf (encL ns)) (offE ns j)).1 : Int) = c ∧ (nx (strOf (encL ns)) (offE ns j)).2 = (encI c).length := by
  refine enc_nx (h c (List.mem_of_getElem? hj)) _ _ ?_ fun i hi => ?_
  · rw [strOf_size, ← offE_next ns j c hj]; exact offE_le ns _
  · rw [bt_strOf _ (encL_byte ns h), encL_at ns j c hj i hi]
/-- how far a beginning is right. -/
def stI (s : ByteArray) (k at_ r : Nat) : Prop := (at_ ≤ k → r = at_ ∧ fl (s.extract 0 k) = flAt (s.extract 0 k) at_) ∧ (k < at_ → fl (s.extract 0 k) = r)
theorem stI_begin (s : ByteArray) (k : Nat) : stI s k 0 0 := ⟨fun _ => ⟨rfl, rfl⟩, fun h => by omega⟩
theorem stI_in {s : ByteArray} {k a r : Nat} (h : stI s k a r) (hk : k ≤ s.size) (hz : 0 < (nx s a).2) (hle : a + (nx s a).2 ≤ k) : stI s k (a + (nx s a).2) (a + (nx s a).2) := by
  obtain ⟨_, h1⟩ := h.1 (by omega)
  have hs := head_size s k hk
  have e : nx (s.extract 0 k) a = nx s a := nx_alike hz (by omega) (fun i hi => bt_head s k (a + i) (by omega) hk)
  refine ⟨fun _ => ⟨rfl, ?_⟩, fun h => by omega⟩
  rw [h1, flAt_step (by rw [e]; omega), e]
theorem stI_out {s : ByteArray} {k a r : Nat} (h : stI s k a r) (hk : k ≤ s.size) (hz : 0 < (nx s a).2) (hle : ¬ a + (nx s a).2 ≤ k) : stI s k (a + (nx s a).2) r := by
  have hs := head_size s k hk
  refine ⟨fun h => by omega, fun _ => ?_⟩
  by_cases ha : a ≤ k
  · obtain ⟨h0, h1⟩ := h.1 ha
    have e : nx (s.extract 0 k) a = (0, 0) := nx_cut (s := s) (by omega) (by omega) (fun h => bt_head s k a (by omega) hk)
    rw [h1, flAt_stop (by rw [e]), h0]
  · exact h.2 (by omega)
theorem stI_end {s : ByteArray} {k r : Nat} (h : stI s k s.size r) (hk : k ≤ s.size) : fl (s.extract 0 k) = r := by
  by_cases e : s.size ≤ k
  · obtain ⟨h0, h1⟩ := h.1 e
    have hs := head_size s k hk
    rw [h1, flAt_stop (by rw [nx_end (by omega)]), h0]
  · exact h.2 (by omega)
/-- the whole is right. -/
theorem text_fl (ns : List Int) (h : ∀ c ∈ ns, ptP c) : fl (strOf (encL ns)) = (strOf (encL ns)).size := by
  have all : ∀ d j, ns.length = j + d → flAt (strOf (encL ns)) (offE ns j) = (strOf (encL ns)).size := by
    intro d
    induction d with
    | zero =>
      intro j hj
      have e : offE ns j = (strOf (encL ns)).size := by rw [show j = ns.length by omega, offE_all, strOf_size]
      rw [e, flAt_stop (by rw [nx_end (Nat.le_refl _)])]
    | succ d ih =>
      intro j hj
      have hjl : j < ns.length := by omega
      have hc : ns[j]? = some ns[j] := List.getElem?_eq_getElem hjl
      obtain ⟨_, h2⟩ := text_nx ns h j _ hc
      have hl := encI_len (h _ (List.getElem_mem hjl))
      rw [flAt_step (by omega), h2, ← offE_next ns j _ hc]
      exact ih (j + 1) (by omega)
  have := all ns.length 0 (by omega)
  exact this
end Go.Proofs.YtadbjcpooeibkaaDoor

/- awake: the chapter's examples. -/
namespace Go.Proofs.YtadbjcpooeibkaaDoor
set_option linter.unusedSimpArgs false
set_option linter.unusedVariables false
open Go.RowKit Go.Deep

def sAe : ByteArray := { data := #[97, 195, 169] }
theorem ae0 : nxI sAe 0 = (97, 1) := by kernel_rfl
theorem ae1 : nxI sAe 1 = (233, 2) := by kernel_rfl
theorem ae2 : nxI sAe 2 = (0, 0) := by kernel_rfl
theorem ae3 : nxI sAe 3 = (0, 0) := by kernel_rfl
theorem aef : fl sAe = 3 := by kernel_rfl
theorem acf : fl { data := #[97, 195] } = 1 := by kernel_rfl
theorem edf : fl { data := #[237, 160, 128] } = 0 := by kernel_rfl
theorem let1 : letB 65 = true := by kernel_rfl
theorem let2 : letB 19968 = true := by kernel_rfl
theorem let3 : letB 32 = false := by kernel_rfl
theorem let4 : letB (-1) = false := by kernel_rfl
theorem smal : smS { data := #[65, 66, 122, 32, 195, 137] } = { data := #[97, 98, 122, 32, 195, 137] } := by kernel_rfl
/-- the program's three tables. -/
def utT (w : World) : Prop := u8T w ∧ ltT w
theorem utT.below {w w' : World} (h : utT w) (hb : Below w.heap.size w w') : utT w' := ⟨h.1.below hb, h.2.below hb⟩
set_option maxHeartbeats 4000000 in
set_option maxRecDepth 100000 in
theorem awake_any (w : World) (hT : utT w) :
    Calls Tryd.prog 9 #[] w fun e w' => e = .returned (.bool true) ∧ Below w.heap.size w w' := by
  have HT : Hid (utT w) := hT
  have X1 := next_any sAe 0 (by omega) w hT.1
  rw [ae0] at X1
  clear hT
  go_enter Tryd.func9, Tryd.ntmps9
  go_wp2_with fail
  refine X1.mono ?_
  rintro e w1 ⟨rfl, b1⟩
  have B1 : Hid (Below w.heap.size w w1) := (show Below w.heap.size w w1 from b1)
  clear b1 X1
  have X2 := next_any sAe 1 (by omega) w1 (HT.out.below B1.out).1
  rw [ae1] at X2
  go_wp2_with fail
  refine X2.mono ?_
  rintro e w2 ⟨rfl, b2⟩
  have B2 : Hid (Below w.heap.size w w2) := (show Below w.heap.size w w2 from B1.out.trans (b2.mono B1.out.size))
  clear b2 X2
  have X3 := next_any sAe 2 (by omega) w2 (HT.out.below B2.out).1
  rw [ae2] at X3
  go_wp2_with fail
  refine X3.mono ?_
  rintro e w3 ⟨rfl, b3⟩
  have B3 : Hid (Below w.heap.size w w3) := (show Below w.heap.size w w3 from B2.out.trans (b3.mono B2.out.size))
  clear b3 X3
  have X4 := next_any sAe 3 (by omega) w3 (HT.out.below B3.out).1
  rw [ae3] at X4
  go_wp2_with fail
  refine X4.mono ?_
  rintro e w4 ⟨rfl, b4⟩
  have B4 : Hid (Below w.heap.size w w4) := (show Below w.heap.size w w4 from B3.out.trans (b4.mono B3.out.size))
  clear b4 X4
  have X5 := fault_any sAe (by unfold maxLen; decide) w4 (HT.out.below B4.out).1
  rw [aef] at X5
  go_wp2_with fail
  refine X5.mono ?_
  rintro e w5 ⟨rfl, b5⟩
  have B5 : Hid (Below w.heap.size w w5) := (show Below w.heap.size w w5 from B4.out.trans (b5.mono B4.out.size))
  clear b5 X5
  have X6 := fault_any { data := #[97, 195] } (by unfold maxLen; decide) w5 (HT.out.below B5.out).1
  rw [acf] at X6
  go_wp2_with fail
  refine X6.mono ?_
  rintro e w6 ⟨rfl, b6⟩
  have B6 : Hid (Below w.heap.size w w6) := (show Below w.heap.size w w6 from B5.out.trans (b6.mono B5.out.size))
  clear b6 X6
  have X7 := fault_any { data := #[237, 160, 128] } (by unfold maxLen; decide) w6 (HT.out.below B6.out).1
  rw [edf] at X7
  go_wp2_with fail
  refine X7.mono ?_
  rintro e w7 ⟨rfl, b7⟩
  have B7 : Hid (Below w.heap.size w w7) := (show Below w.heap.size w w7 from B6.out.trans (b7.mono B6.out.size))
  clear b7 X7
  have X8 := letter_any 65 w7 (HT.out.below B7.out).2
  rw [let1] at X8
  go_wp2_with fail
  refine X8.mono ?_
  rintro e w8 ⟨rfl, b8⟩
  have B8 : Hid (Below w.heap.size w w8) := (show Below w.heap.size w w8 from B7.out.trans (b8.mono B7.out.size))
  clear b8 X8
  have X9 := letter_any 19968 w8 (HT.out.below B8.out).2
  rw [let2] at X9
  go_wp2_with fail
  refine X9.mono ?_
  rintro e w9 ⟨rfl, b9⟩
  have B9 : Hid (Below w.heap.size w w9) := (show Below w.heap.size w w9 from B8.out.trans (b9.mono B8.out.size))
  clear b9 X9
  have X10 := letter_any 32 w9 (HT.out.below B9.out).2
  rw [let3] at X10
  go_wp2_with fail
  refine X10.mono ?_
  rintro e w10 ⟨rfl, b10⟩
  have B10 : Hid (Below w.heap.size w w10) := (show Below w.heap.size w w10 from B9.out.trans (b10.mono B9.out.size))
  clear b10 X10
  have X11 := letter_any (-1) w10 (HT.out.below B10.out).2
  rw [let4] at X11
  go_wp2_with fail
  refine X11.mono ?_
  rintro e w11 ⟨rfl, b11⟩
  have B11 : Hid (Below w.heap.size w w11) := (show Below w.heap.size w w11 from B10.out.trans (b11.mono B10.out.size))
  clear b11 X11
  have X12 := small_any { data := #[65, 66, 122, 32, 195, 137] } (by unfold maxLen; decide) w11
  rw [smal] at X12
  go_wp2_with fail
  refine X12.mono ?_
  rintro e w12 ⟨rfl, b12⟩
  have B12 : Hid (Below w.heap.size w w12) := (show Below w.heap.size w w12 from B11.out.trans (b12.mono B11.out.size))
  clear b12 X12
  go_wp2
  go_ret
  exact ⟨rfl, B12.out⟩
end Go.Proofs.YtadbjcpooeibkaaDoor

/- point; append of a rune. -/
namespace Go.Proofs.YtadbjcpooeibkaaDoor
set_option linter.unusedSimpArgs false
set_option linter.unusedVariables false
open Go.RowKit Go.Deep

/-- the number, if it is a code point, else that of a question mark. -/
def ptR (c : Int) : Int := if ptP c then c else 63
theorem ptR_pt (c : Int) : ptP (ptR c) := by
  unfold ptR
  split
  · assumption
  · unfold ptP; omega
set_option maxHeartbeats 2000000 in
theorem point_any (c : Int) (w : World) :
    Calls Tryd.prog 20 #[.int .i64 c] w fun e w' => e = .returned (.int .i32 (ptR c)) ∧ w' = w := by
  by_cases h1 : c < 0
  · have e : ptR c = 63 := by unfold ptR; rw [if_neg (by unfold ptP; omega)]
    rw [e]
    clear e
    go_enter Tryd.func20, Tryd.ntmps20
    go_wp2
    go_ret
    exact ⟨rfl, rfl⟩
  by_cases h2 : c > 1114111
  · have e : ptR c = 63 := by unfold ptR; rw [if_neg (by unfold ptP; omega)]
    rw [e]
    clear e
    go_enter Tryd.func20, Tryd.ntmps20
    go_wp2
    go_ret
    exact ⟨rfl, rfl⟩
  by_cases h3 : c ≥ 55296
  · by_cases h4 : c ≤ 57343
    · have e : ptR c = 63 := by unfold ptR; rw [if_neg (by unfold ptP; omega)]
      rw [e]
      clear e
      go_enter Tryd.func20, Tryd.ntmps20
      go_wp2
      go_ret
      exact ⟨rfl, rfl⟩
    · have e : ptR c = c := by unfold ptR; rw [if_pos (by unfold ptP; omega)]
      rw [e]
      clear e
      have hc1 : c < 1114112 := by omega
      have hc0 : (0 : Int) ≤ c := by omega
      go_enter Tryd.func20, Tryd.ntmps20
      go_wp2
      go_ret
      exact ⟨rfl, rfl⟩
  · have e : ptR c = c := by unfold ptR; rw [if_pos (by unfold ptP; omega)]
    rw [e]
    clear e
    have hc1 : c < 55296 := by omega
    have hc0 : (0 : Int) ≤ c := by omega
    go_enter Tryd.func20, Tryd.ntmps20
    go_wp2
    go_ret
    exact ⟨rfl, rfl⟩
theorem hi32 : (Tryd.prog.info? 21).map (fun i => (i.zero, i.size, i.bytes)) = some (some (.int .i32 0), 1, 4) := by kernel_rfl
theorem one_cell8 (w : World) (u : Value) (t : TypeId) : (w.alloc (.cells #[u] t)).cell? ⟨w.heap.size, 0, none⟩ = some u := by
  rw [cell_of_row _ _ _ _ _ _ (blk_alloc_new w _)]; rfl
/-- append(l, x). -/
theorem rune_append_run (w : World) (B : Nat) (v : Value) (xs : List Int) (x : Int) (hv : owns w B 21 v (xs.map (Value.int .i32))) (hs : xs.length < 1000000) (hB : B ≤ w.heap.size) :
    ∃ v' w', (Builtin.append_ #[31, 31] 31 #[v, .slice (some ⟨w.heap.size, 0, none⟩) 1 1]).run Tryd.prog (w.alloc (.cells #[.int .i32 x] 21)) = .ok v' w' ∧ owns w' B 21 v' ((xs ++ [x]).map (Value.int .i32)) ∧ Below B w w' := by
  have hb1 : Below w.heap.size w (w.alloc (.cells #[Value.int .i32 x] 21)) := (Below.refl _ _).alloc (Nat.le_refl _) _
  have hv1 := hv.below hb1 (Nat.le_refl _)
  obtain ⟨g, cp, w2, hr, ho, hg, hat, hlt⟩ := run_append (P := Tryd.prog) (w.alloc (.cells #[Value.int .i32 x] 21)) 31 31 B 21 (.int .i32 0) 4 Tryd.underlying31 hi32 rfl v _ hv1 w.heap.size 0 1 1 [.int .i32 x] rfl
    (fun j u hu => by
      have hj : j = 0 := by
        by_cases hj : j = 0
        · exact hj
        · rw [List.getElem?_eq_none (by simp; omega)] at hu; cases hu
      subst hj
      have e : Value.int .i32 x = u := by simpa using hu
      rw [← e]; exact one_cell8 w _ _)
    (fun u hu => by rw [List.mem_singleton.1 hu]; rfl) (by omega) (by simp; unfold maxLen; omega) (by simp; omega) (by simp; omega)
  refine ⟨_, w2, hr, ?_, (hb1.mono hB).trans (below_grown hg (fun k hk => (hv1.block k hk).1) (by simp; omega))⟩
  rw [List.map_append]; exact ho
/-- string(l). -/
theorem runes_string_run (w : World) (B : Nat) (v : Value) (xs : List Int) (hv : owns w B 21 v (xs.map (Value.int .i32))) (hp : ∀ c ∈ xs, ptP c) :
    (convert 31 9 v).run Tryd.prog w = .ok (.string (strOf (encL xs))) w := by
  rw [← runes_enc xs hp]
  by_cases hn : 0 < xs.length
  · obtain ⟨g, cap, rfl, hB, hlt, hc, hm, hcell, _⟩ := hv.shape (by simpa using hn)
    have := run_convert_runes (P := Tryd.prog) w 31 9 21 ⟨g, 0, none⟩ (xs.map (Value.int .i32)).length cap xs (by simp) Tryd.underlying31 Tryd.underlying21 Tryd.underlying9 (fun j hj => by
      rw [Addr.add_mid, Nat.zero_add]
      refine hcell j _ ?_
      rw [List.getElem?_map, List.getElem?_eq_getElem hj, List.getD_eq_getElem?_getD, List.getElem?_eq_getElem hj]; rfl)
    rw [List.length_map, List.take_length] at this
    rw [List.length_map]
    exact this
  · have e0 : xs = [] := List.length_eq_zero_iff.1 (by omega)
    subst e0
    obtain ⟨_, h | ⟨g, cap, cur, rfl, hB, hg, hc, hm, hs, ht⟩⟩ := hv
    · rw [h.1]
      exact run_convert_runes_nil w _ _ _ _ _ Tryd.underlying31 Tryd.underlying21 Tryd.underlying9
    · exact run_convert_runes (P := Tryd.prog) w 31 9 21 ⟨g, 0, none⟩ 0 cap [] (by simp) Tryd.underlying31 Tryd.underlying21 Tryd.underlying9 (fun j hj => by simp at hj)
end Go.Proofs.YtadbjcpooeibkaaDoor

/- The frame of a law's row: what was read reads behind the call as it did, where nothing old has turned. -/
namespace Go.Proofs.YtadbjcpooeibkaaDoor
open Go.RowKit Go.Deep Go.ChangeShapes Go.WideShapes Go.ChangeAt

theorem below_trodAll {H : Type} {enc : TypeId × Value → H} {P : Program} (hl : laidOutB P = true) {W W' : World} (hb : Below W.heap.size W W') :
    ∀ {ts : List TypeId} {vs : List Value} {ds : List (DataW H)} {ps : List MemPlace}, (∀ t ∈ ts, P.readableRec t = true ∧ t < P.types.size) → DataW.TrodAll enc P W 0 (fun _ => true) true ts vs ds ps → (∀ x ∈ ps, x.block < W.heap.size) →
      DataW.TrodAll enc P W' 0 (fun b => decide (b < W.heap.size)) true ts vs ds ps
  | [], [], [], _, _, h, _ => h
  | t :: ts, v :: vs, d :: ds, ps, hts, h, hlt => by
    obtain ⟨p, q, h1, h2, e⟩ := h
    subst e
    exact ⟨p, q, Below.trod hl (hts t List.mem_cons_self).1 (hts t List.mem_cons_self).2 h1 hb (fun x hx => hlt x (List.mem_append_left _ hx)), below_trodAll hl hb (fun u hu => hts u (List.mem_cons_of_mem _ hu)) h2 (fun x hx => hlt x (List.mem_append_right _ hx)), rfl⟩

/-- WHAT A LAW's ROW ASKS BEHIND THE CALL, where the answer is true and nothing old has turned. -/
theorem law_post {H : Type} {enc : TypeId × Value → H} {P : Program} {spec : ChangeSpec} {f : Func} {W W' : World} {args : Array Value} {ds gs : List (DataW H)} {before : List MemPlace} {tb : TypeId}
    (hl : laidOutB P = true) (hts : ∀ t ∈ f.params.toList, P.readableRec t = true ∧ t < P.types.size) (hvars : spec.vars = []) (hres : f.resultTypes = #[tb]) (hbool : P.underlying tb = some .bool)
    (hspec : spec.fn H (ds ++ gs) = { results := [.lit (.bool true)], args := ds })
    (hW : DataW.Whole enc P f.params.toList spec.vars false W args.toList ds gs before) (hb : Below W.heap.size W W') : spec.post enc P f false true false false W args (.bool true) W' := by
  have hW' := hW
  have hlt := hW.lt
  obtain ⟨p, q, hA, hV, rfl, hfz, hnd⟩ := hW
  rw [hvars] at hV
  obtain ⟨rfl, rfl⟩ := trodVars_none hV
  refine ⟨ds, [], p ++ [], [], p, [], hW', ?_, ?_, ?_, ?_, fun h => by cases h⟩
  · rw [hspec, hres]
    exact trodAll_cons_mk (shut_bool hbool _) trodAll_mk0
  · rw [hspec]
    exact below_trodAll hl hb hts hA (fun x hx => hlt x (List.mem_append_left _ hx))
  · rw [hspec, hvars]; exact hV
  · exact hb.frame _

/-- AN ARRAY OF BYTES, opened. -/
theorem open_bytes {H : Type} {enc : TypeId × Value → H} {P : Program} {w : World} {base b0 : Nat} {sp : Nat → Bool} {held : Bool} {r : Reach} {t e : TypeId} {n : Nat} {v : Value} {d : DataW H} {ps : List MemPlace}
    (hu : P.underlying t = some (.array n e)) (he : P.underlying e = some (.int .u8)) (hc : P.cellsOf e = 1) (hct : P.cellsOf t = n) (hval : Value.okWide P w r b0 t v) (hd : DataW.Trod enc P w base sp held t v d ps) :
    ∃ f : Nat → Int, v = .agg (rowV n fun i => .int .u8 (f i)) ∧ ∀ i, 0 ≤ f i ∧ f i ≤ 255 := by
  unfold Value.okWide at hval
  rw [hu] at hval
  obtain ⟨cs, rfl, hsz, _⟩ := hval
  obtain ⟨fuel, hf⟩ := hd
  obtain ⟨xs, m, rfl, _, hlen, _, hx⟩ := DataW.trod_array hu hf
  simp only [Value.cells] at hx hlen
  have hget : ∀ i, i < n → ∃ z : Int, cs[i]? = some (.int .u8 z) ∧ 0 ≤ z ∧ z ≤ 255 := fun i hi => by
    have h1 := hx i hi
    rw [hc, Nat.mul_one] at h1
    have hxi : i < xs.length := by omega
    rw [List.getElem?_eq_getElem hxi] at h1
    obtain ⟨z, hz, _, hw⟩ := DataW.trod_int he h1
    refine ⟨z, ?_, bounds_u8 hw⟩
    have hcs : cs.toList[i]? = some (.int .u8 z) := by
      have := congrArg (fun l => l[0]?) hz
      simpa [List.getElem?_take, List.getElem?_drop] using this
    rw [← Array.getElem?_toList]; exact hcs
  refine ⟨fun i => if h : i < n then Classical.choose (hget i h) else 0, ?_, fun i => ?_⟩
  · congr 1
    refine rowV_eq (by omega) fun i hi => ?_
    dsimp only
    rw [dif_pos hi]; exact (Classical.choose_spec (hget i hi)).1
  · dsimp only
    by_cases h : i < n
    · rw [dif_pos h]; exact (Classical.choose_spec (hget i h)).2
    · rw [dif_neg h]; omega
end Go.Proofs.YtadbjcpooeibkaaDoor

/- The frame of a law's row, where no package variable is laid. -/
namespace Go.Proofs.YtadbjcpooeibkaaDoor
open Go.RowKit Go.Deep Go.ChangeShapes Go.WideShapes Go.ChangeAt
theorem own : ownKnob Tryd.prog.godebug = none := by kernel_rfl
theorem laidOut : laidOutB Tryd.prog = true := by kernel_rfl
theorem bounds_u64 {a : Int} (h : (Lit.int .u64 a).wf = true) : 0 ≤ a ∧ a < 18446744073709551616 := by
  have h' : 0 ≤ a ∧ a ≤ 18446744073709551615 := by simpa [Lit.wf, IntKind.min, IntKind.max, IntKind.signed, IntKind.bits] using h
  omega
end Go.Proofs.YtadbjcpooeibkaaDoor

/- Slices that came in, opened. -/
namespace Go.Proofs.YtadbjcpooeibkaaDoor
open Go.RowKit Go.Deep Go.ChangeShapes Go.WideShapes

theorem bounds_i64 {a : Int} (h : (Lit.int .i64 a).wf = true) : -9223372036854775808 ≤ a ∧ a ≤ 9223372036854775807 := by
  simpa [Lit.wf, IntKind.min, IntKind.max, IntKind.signed, IntKind.bits] using h
/-- A SLICE, opened at every index. -/
theorem open_any {H : Type} {enc : TypeId × Value → H} {P : Program} {w : World} {base b0 : Nat} {sp : Nat → Bool} {held : Bool} {r : Reach} {t e : TypeId} {v : Value} {d : DataW H} {ps : List MemPlace} (c : Nat)
    (hu : P.underlying t = some (.slice e)) (hc : P.cellsOf e = c) (hval : Value.okWide P w r b0 t v) (hd : DataW.Trod enc P w base sp held t v d ps) :
    (v = .slice none 0 0) ∨ ∃ pb po len cap : Nat, v = .slice (some ⟨pb, po, none⟩) len cap ∧ len ≤ cap ∧ cap ≤ maxLen ∧ pb < w.heap.size ∧
      ∀ i, i < len → ∃ (cs' : List Value) (n : Nat) (D : DataW H × List MemPlace), cs'.length = c ∧ (∀ j, j < c → w.cell? ⟨pb, po + i * c + j, none⟩ = cs'[j]?) ∧ DataW.trod enc P w base sp held n e cs' = some D := by
  obtain ⟨a, len, cap, rfl⟩ := okWide_slice hu hval
  obtain ⟨fuel, hf⟩ := hd
  rcases open_slice hu hf with ⟨h0, _⟩ | ⟨a', len', cap', m, n, D, Pl, h0, _, h1, h2, h3, _, h4⟩
  · left; simpa [Value.cells] using h0
  · right
    have h0' : a = some a' ∧ len = len' ∧ cap = cap' := by simpa [Value.cells] using h0
    obtain ⟨rfl, rfl, rfl⟩ := h0'
    have hlm : len ≤ m := by rw [h3]; split <;> omega
    simp only [Value.okWide, hu, Cell.okWide, Cell.ok] at hval
    obtain ⟨_, _, _, hsp, row, cells, hsh, _⟩ := hval
    obtain ⟨pb, po, spot⟩ := a'
    obtain rfl : spot = none := hsp
    refine ⟨pb, po, len, cap, rfl, h1, h2, ?_, fun i hi => ?_⟩
    · unfold World.shape? at hsh
      cases hq : w.heap[pb]? with
      | none => rw [hq] at hsh; cases hsh
      | some o => exact (Array.getElem?_eq_some_iff.1 hq).1
    · obtain ⟨cs', g1, g2⟩ := h4 i (by omega)
      rw [hc] at g1
      obtain ⟨_, hlen, hcell⟩ := World.cells?_some g1
      refine ⟨cs', n, _, hlen, fun j hj => ?_, g2⟩
      have e0 := hcell j (by omega)
      rw [add_add, Addr.add_mid] at e0
      rw [Nat.add_assoc]; exact e0
theorem open_bytes_slice {H : Type} {enc : TypeId × Value → H} {P : Program} {w : World} {base b0 : Nat} {sp : Nat → Bool} {held : Bool} {r : Reach} {t e : TypeId} {v : Value} {d : DataW H} {ps : List MemPlace}
    (hu : P.underlying t = some (.slice e)) (he : P.underlying e = some (.int .u8)) (hc : P.cellsOf e = 1) (hval : Value.okWide P w r b0 t v) (hd : DataW.Trod enc P w base sp held t v d ps) : ∃ l, isBytes w v l := by
  rcases open_any 1 hu hc hval hd with rfl | ⟨pb, po, len, cap, rfl, h1, h2, h3, h4⟩
  · exact ⟨[], Or.inl ⟨rfl, rfl⟩⟩
  · have each : ∀ i, i < len → ∃ z : Int, w.cell? ⟨pb, po + i, none⟩ = some (.int .u8 z) ∧ 0 ≤ z ∧ z ≤ 255 := fun i hi => by
      obtain ⟨cs', n, D, g1, g2, g3⟩ := h4 i hi
      obtain ⟨z, rfl, _, hw⟩ := DataW.trod_int he g3
      have := g2 0 (by omega)
      rw [Nat.mul_one, Nat.add_zero] at this
      exact ⟨z, this, bounds_u8 hw⟩
    obtain ⟨f, hf⟩ := choose_lt each
    have hg : ∀ i, i < len → ((List.range len).map f).getD i 0 = f i := fun i hi => by
      rw [List.getD_eq_getElem?_getD, List.getElem?_map, List.getElem?_range hi]; rfl
    refine ⟨(List.range len).map f, Or.inr ⟨pb, po, cap, by simp, by simpa using h1, h2, h3, fun i hi => ?_, fun i => ?_⟩⟩
    · have hi' : i < len := by simpa using hi
      rw [hg i hi']; exact (hf i hi').1
    · by_cases hi : i < len
      · rw [hg i hi]; exact (hf i hi).2
      · rw [List.getD_eq_getElem?_getD, List.getElem?_eq_none (by simp; omega)]; exact ⟨by simp, by simp⟩
end Go.Proofs.YtadbjcpooeibkaaDoor

/- A row of ints that came in, opened. -/
namespace Go.Proofs.YtadbjcpooeibkaaDoor
open Go.RowKit Go.Deep Go.ChangeShapes Go.WideShapes

def intsAt (w : World) (v : Value) (n : Nat) (f : Nat → Int) : Prop := (v = .slice none 0 0 ∧ n = 0) ∨ ∃ pb po cap : Nat, v = .slice (some ⟨pb, po, none⟩) n cap ∧ n ≤ cap ∧ cap ≤ maxLen ∧ pb < w.heap.size ∧ ∀ i, i < n → w.cell? ⟨pb, po + i, none⟩ = some (.int .i64 (f i)) ∧ -9223372036854775808 ≤ f i ∧ f i ≤ 9223372036854775807
theorem cellsI64 : Tryd.prog.cellsOf 3 = 1 := by kernel_rfl
theorem open_ints {H : Type} {enc : TypeId × Value → H} {w : World} {base b0 : Nat} {sp : Nat → Bool} {held : Bool} {r : Reach} {v : Value} {d : DataW H} {ps : List MemPlace}
    (hval : Value.okWide Tryd.prog w r b0 30 v) (hd : DataW.Trod enc Tryd.prog w base sp held 30 v d ps) : ∃ n f, intsAt w v n f := by
  rcases open_any 1 Tryd.underlying30 cellsI64 hval hd with rfl | ⟨pb, po, len, cap, rfl, h1, h2, h3, h4⟩
  · exact ⟨0, fun _ => 0, Or.inl ⟨rfl, rfl⟩⟩
  · have each : ∀ i, i < len → ∃ z : Int, w.cell? ⟨pb, po + i, none⟩ = some (.int .i64 z) ∧ -9223372036854775808 ≤ z ∧ z ≤ 9223372036854775807 := fun i hi => by
      obtain ⟨cs', n, D, g1, g2, g3⟩ := h4 i hi
      obtain ⟨z, rfl, _, hw⟩ := DataW.trod_int Tryd.underlying3 g3
      have := g2 0 (by omega)
      rw [Nat.mul_one, Nat.add_zero] at this
      exact ⟨z, this, bounds_i64 hw⟩
    obtain ⟨f, hf⟩ := choose_lt each
    exact ⟨len, f, Or.inr ⟨pb, po, cap, rfl, h1, h2, h3, hf⟩⟩
end Go.Proofs.YtadbjcpooeibkaaDoor

/- UtfSteps: its walk. -/
namespace Go.Proofs.YtadbjcpooeibkaaDoor
set_option linter.unusedSimpArgs false
set_option linter.unusedVariables false
open Go.RowKit Go.Deep

theorem and_low24 (c : Int) : 0 ≤ bits .and .i64 c 16777215 ∧ bits .and .i64 c 16777215 ≤ 16777215 := by
  have h127 : (BitVec.ofInt 64 16777215).toNat = 2 ^ 24 - 1 := by decide
  have key : (BitVec.ofInt 64 c &&& BitVec.ofInt 64 16777215).toNat = (c % ((2 ^ 64 : Nat) : Int)).toNat % 2 ^ 24 := by
    rw [BitVec.toNat_and, BitVec.toNat_ofInt, h127, Nat.and_two_pow_sub_one_eq_mod]
  have e : bits .and .i64 c 16777215 = c % 16777216 := by
    show IntKind.i64.wrap ((BitVec.ofInt 64 c &&& BitVec.ofInt 64 16777215).toNat : Nat) = c % 16777216
    rw [key, IntKind.wrap_i64]
    omega
  rw [e]; omega
set_option maxHeartbeats 8000000 in
set_option maxRecDepth 100000 in
theorem utfSteps_any (n : Nat) (v : Value) (f : Nat → Int) (cut : Int) (hcut : -9223372036854775808 ≤ cut ∧ cut ≤ 9223372036854775807) (w : World) (hT : utT w) (hv : intsAt w v n f) :
    Calls Tryd.prog 6 #[v, .int .i64 cut] w fun e w' => e = .returned (.bool true) ∧ Below w.heap.size w w' := by
  have HT : Hid (utT w) := hT
  have HV : Hid (intsAt w v n f) := (show intsAt w v n f from hv)
  have hsl : ∃ a cap, v = .slice a n cap := by
    rcases hv with ⟨rfl, rfl⟩ | ⟨pb, po, cap, rfl, _⟩
    · exact ⟨none, 0, rfl⟩
    · exact ⟨_, cap, rfl⟩
  obtain ⟨va, vc, rfl⟩ := hsl
  clear hv
  by_cases hbig : (n : Int) > 500
  · have X := awake_any w hT
    clear hT
    go_enter Tryd.func6, Tryd.ntmps6
    go_wp2_with fail
    refine X.mono ?_
    rintro e w1 ⟨rfl, b1⟩
    clear X
    go_wp2
    go_ret
    exact ⟨rfl, b1⟩
  have hn : (n : Int) ≤ 500 := by omega
  have hn0 : (0 : Int) ≤ (n : Int) := by omega
  obtain ⟨m, hm⟩ : ∃ m, bits .and .i64 cut 16777215 = m := ⟨_, rfl⟩
  have hm0 : 0 ≤ m ∧ m ≤ 16777215 := by rw [← hm]; exact and_low24 cut
  obtain ⟨m0, m1⟩ := hm0
  clear hT
  go_enter Tryd.func6, Tryd.ntmps6
  go_wp2_with fail
  go_loopw [5, 6] (fun z i wr => ∃ j : Nat, j ≤ n ∧ i = .int .i64 (j : Int) ∧ owns wr w.heap.size 21 z (((List.range j).map fun i => ptR (f i)).map (Value.int .i32)) ∧ Below w.heap.size w wr) (fun _ i _ => n - (intOf i).toNat)
  case atStart => exact ⟨0, by omega, rfl, owns_nil _ _ _, Below.refl _ _⟩
  case round =>
    obtain ⟨j, hj, rfl, ho, hb⟩ := hrel
    have HB : Hid (Below w.heap.size w wr) := (show Below w.heap.size w wr from hb)
    have j0 : (0 : Int) ≤ (j : Int) := by omega
    by_cases hlt : j < n
    · have j1 : (j : Int) < (n : Int) := by omega
      rcases HV.out with ⟨_, h0⟩ | ⟨pb, po, cap, e, _, _, hpb, hc⟩
      · omega
      injection e with ea _ ec
      subst ea
      subst ec
      obtain ⟨c1, _⟩ := hc j hlt
      rw [← hb.cell (p := ⟨pb, po + j, none⟩) hpb] at c1
      have X := point_any (f j) wr
      have hsz := hb.size
      obtain ⟨v', w', hr, ho', hb'⟩ := rune_append_run wr w.heap.size _ ((List.range j).map fun i => ptR (f i)) (ptR (f j)) ho (by simp; omega) hsz
      have HO : Hid (owns w' w.heap.size 21 v' (((List.range (j + 1)).map fun i => ptR (f i)).map (Value.int .i32))) := (show owns w' w.heap.size 21 v' (((List.range (j + 1)).map fun i => ptR (f i)).map (Value.int .i32)) from by rw [List.range_succ, List.map_append]; exact ho')
      have HB' : Hid (Below w.heap.size w w') := (show Below w.heap.size w w' from hb.trans hb')
      clear ho hb hc hsz ho' hb' hpb
      go_wp2_with fail
      refine X.mono ?_
      rintro e w3 ⟨rfl, hw3⟩
      obtain rfl := hw3.symm
      clear X hw3
      go_wp2_with (first | (at_builtin; refine wpList_append_run rfl _ _ _ rfl rfl rfl hr ?_; clear hr))
      go_light
      exact ⟨⟨j + 1, by omega, by go_num, HO.out, HB'.out⟩, by simp [intOf]; omega⟩
    · obtain rfl : j = n := by omega
      obtain ⟨ns, hns⟩ : ∃ ns, ns = (List.range j).map fun i => ptR (f i) := ⟨_, rfl⟩
      rw [← hns] at ho
      have hpt : ∀ c ∈ ns, ptP c := fun c hc => by
        rw [hns] at hc
        obtain ⟨i, _, rfl⟩ := List.mem_map.1 hc
        exact ptR_pt _
      have hnl : ns.length = j := by rw [hns]; simp
      have hr := runes_string_run wr w.heap.size _ ns ho hpt
      obtain ⟨s, hs⟩ : ∃ s, s = strOf (encL ns) := ⟨_, rfl⟩
      rw [← hs] at hr
      have hss : s.size = (encL ns).length := by rw [hs, strOf_size]
      have hlen : (encL ns).length ≤ 4 * j := by
        rw [← hnl]
        have : ∀ l : List Int, (∀ c ∈ l, ptP c) → (encL l).length ≤ 4 * l.length := by
          intro l
          induction l with
          | nil => intro _; simp [encL]
          | cons c l ih =>
            intro h
            have h1 := ih (fun x hx => h x (by simp [hx]))
            have h2 := encI_len (h c (by simp))
            have e : encL (c :: l) = encI c ++ encL l := by unfold encL; rw [List.flatMap_cons]
            rw [e, List.length_append, List.length_cons]
            omega
        exact this ns hpt
      have hsz : (s.size : Int) ≤ 2000 := by omega
      have hlen2 : ∃ va2 vc2, u5 = Value.slice va2 j vc2 ∧ ∀ i c, ns[i]? = some c → ∃ g, va2 = some ⟨g, 0, none⟩ ∧ g < wr.heap.size ∧ wr.cell? ⟨g, i, none⟩ = some (.int .i32 c) := by
        by_cases h0 : 0 < ns.length
        · obtain ⟨g, cap, h, _, hg, _, _, hc, _⟩ := ho.shape (by simpa using h0)
          refine ⟨_, _, by rw [h, List.length_map, hnl], fun i c hi => ⟨g, rfl, hg, hc i _ (by rw [List.getElem?_map, hi]; rfl)⟩⟩
        · have e0 : ns = [] := List.length_eq_zero_iff.1 (by omega)
          obtain ⟨h1, h | ⟨g, cap, cur, h, _⟩⟩ := ho
          · refine ⟨none, 0, by rw [h.1, ← hnl, e0]; rfl, fun i c hi => by rw [e0] at hi; simp at hi⟩
          · refine ⟨_, _, by rw [h, List.length_map, hnl], fun i c hi => by rw [e0] at hi; simp at hi⟩
      obtain ⟨va2, vc2, hu5, hcl⟩ := hlen2
      have HCL : Hid (∀ wz, Below wr.heap.size wr wz → ∀ i c, ns[i]? = some c → ∃ g, va2 = some ⟨g, 0, none⟩ ∧ wz.cell? ⟨g, i, none⟩ = some (.int .i32 c)) := (show _ from fun wz hz i c hi => by
        obtain ⟨g, h1, h2, h3⟩ := hcl i c hi
        exact ⟨g, h1, (hz.cell (p := ⟨g, i, none⟩) h2).trans h3⟩)
      rw [hu5] at hr
      obtain ⟨kn, hkn⟩ : ∃ kn : Nat, (kn : Int) = m % ((s.size : Int) + 1) := ⟨(m % ((s.size : Int) + 1)).toNat, by have := Int.emod_nonneg m (show (s.size : Int) + 1 ≠ 0 by omega); omega⟩
      have hkl : kn ≤ s.size := by have := Int.emod_lt_of_pos m (show (0 : Int) < (s.size : Int) + 1 by omega); omega
      have hmod : Int.tmod m ((s.size : Int) + 1) = (kn : Int) := by rw [hkn]; exact Int.tmod_eq_emod_of_nonneg m0
      have HPT : Hid (∀ c ∈ ns, ptP c) := (show _ from hpt)
      have HS : Hid (s = strOf (encL ns) ∧ s.size = (encL ns).length ∧ ns.length = j) := (show _ from ⟨hs, hss, hnl⟩)
      have hne : ¬ (s.size : Int) + 1 = 0 := by omega
      have hs0 : (0 : Int) ≤ (s.size : Int) := by omega
      have hk1 : (kn : Int) ≤ (s.size : Int) := by omega
      have hk0 : (0 : Int) ≤ (kn : Int) := by omega
      subst hu5
      clear hns hpt hnl hs hss hlen hcl ho hb hkn HV
      go_upto_region 12 with fail
      clear hr hmod hm m0 m1
      rename World => W0
      go_loopw [9, 10, 11] (fun x y i wz => ∃ t r : Nat, t ≤ j ∧ i = .int .i64 (t : Int) ∧ x = .int .i64 (offE ns t : Int) ∧ y = .int .i64 (r : Int) ∧ stI s kn (offE ns t) r ∧ r ≤ s.size ∧ Below W0.heap.size W0 wz) (fun _ _ i _ => j - (intOf i).toNat)
      case atStart => exact ⟨0, 0, by omega, rfl, rfl, rfl, stI_begin s kn, by omega, Below.refl _ _⟩
      case round =>
        obtain ⟨t, r, ht, rfl, rfl, rfl, hst, hrs, hbz⟩ := hrel
        have hT2 := HT.out.below (HB.out.trans (hbz.mono HB.out.size))
        have BZ : Hid (Below W0.heap.size W0 wr) := (show Below W0.heap.size W0 wr from hbz)
        have hol := offE_le ns t
        rw [← HS.out.2.1] at hol
        have t0 : (0 : Int) ≤ (t : Int) := by omega
        by_cases hlt : t < j
        · have t1 : (t : Int) < (j : Int) := by omega
          have htl : t < ns.length := by have := HS.out.2.2; omega
          obtain ⟨c, hc⟩ : ∃ c, ns[t]? = some c := ⟨_, List.getElem?_eq_getElem htl⟩
          have hpc := HPT.out c (List.mem_of_getElem? hc)
          have hlen := encI_len hpc
          have hx : ((nx s (offE ns t)).1 : Int) = c ∧ (nx s (offE ns t)).2 = (encI c).length := by rw [HS.out.1]; exact text_nx ns HPT.out t c hc
          have hof := offE_next ns t c hc
          have hol2 := offE_le ns (t + 1)
          rw [← HS.out.2.1] at hol2
          have X := next_any s ((offE ns t : Nat) : Int) (by omega) wr hT2.1
          rw [nxI_nat] at X
          rw [← hx.2] at hof hlen
          have hin := stI_in (s := s) (k := kn) hst hkl (by omega)
          have hout := stI_out (s := s) (k := kn) hst hkl (by omega)
          generalize nx s (offE ns t) = p at X hx hof hlen hin hout
          obtain ⟨r0, z⟩ := p
          simp only at X hx hof hlen hin hout
          obtain ⟨hx1, hx2⟩ := hx
          clear hx2
          rw [hx1] at X
          clear hx1
          have HOF : Hid (offE ns (t + 1) = offE ns t + z) := (show offE ns (t + 1) = offE ns t + z from hof)
          have HIN : Hid (offE ns t + z ≤ kn → stI s kn (offE ns t + z) (offE ns t + z)) := (show _ from hin)
          have HOUT : Hid (¬ offE ns t + z ≤ kn → stI s kn (offE ns t + z) r) := (show _ from hout)
          have hc1 : c < 1114112 := by unfold ptP at hpc; omega
          have hc0 : (0 : Int) ≤ c := by unfold ptP at hpc; omega
          have hwc : IntKind.wrap .i64 c = c := IntWalk.i64_in _ ⟨by omega, by omega⟩
          have hcell := fun wz hz => HCL.out wz hz t _ hc
          obtain ⟨g, hg, _⟩ := hcell wr hbz
          subst hg
          have HCE : Hid (∀ wz, Below W0.heap.size W0 wz → wz.cell? ⟨g, t, none⟩ = some (.int .i32 c)) := (show _ from fun wz hz => by
            obtain ⟨g', e, h⟩ := hcell wz hz
            obtain rfl : g = g' := by simpa using e
            exact h)
          generalize hat : offE ns t = at_ at X hof hin hout HOF HIN HOUT hst hol ⊢
          obtain ⟨hz1, hz4⟩ := hlen
          have z1 : ¬ (z : Int) < 1 := by omega
          have z4 : ¬ (z : Int) > 4 := by omega
          have zs : (at_ : Int) + (z : Int) ≤ (s.size : Int) := by omega
          have hzk : (at_ + z ≤ kn) = ((at_ : Int) + (z : Int) ≤ (kn : Int)) := by apply propext; omega
          have HSZ : Hid (at_ + z ≤ s.size) := (show at_ + z ≤ s.size from by omega)
          clear hcell hin hout hof hst hol hol2 hpc hc hT2 hbz
          go_wp2_with fail
          refine X.mono ?_
          rintro e w3 ⟨rfl, b3⟩
          have BZ3 : Hid (Below W0.heap.size W0 w3) := (show Below W0.heap.size W0 w3 from BZ.out.trans (b3.mono BZ.out.size))
          have ce := HCE.out w3 BZ3.out
          clear X b3
          by_cases hle : at_ + z ≤ kn
          · have hle2 : (at_ : Int) + (z : Int) ≤ (kn : Int) := by omega
            have HST : Hid (stI s kn (at_ + z) (at_ + z)) := (show stI s kn (at_ + z) (at_ + z) from HIN.out hle)
            clear hzk hle
            go_wp2
            go_light
            exact ⟨⟨t + 1, at_ + z, by omega, by go_num, by rw [HOF.out, Int.natCast_add], by rw [Int.natCast_add], by rw [HOF.out]; exact HST.out, HSZ.out, BZ3.out⟩, by simp [intOf]; omega⟩
          · have hle2 : ¬ (at_ : Int) + (z : Int) ≤ (kn : Int) := by omega
            have HST : Hid (stI s kn (at_ + z) r) := (show stI s kn (at_ + z) r from HOUT.out hle)
            clear hzk hle
            go_wp2
            go_light
            exact ⟨⟨t + 1, r, by omega, by go_num, by rw [HOF.out, Int.natCast_add], rfl, by rw [HOF.out]; exact HST.out, hrs, BZ3.out⟩, by simp [intOf]; omega⟩
        · obtain rfl : t = j := by omega
          have e1 : offE ns t = s.size := by rw [← HS.out.2.2, offE_all, HS.out.2.1]
          rw [e1] at hst ⊢
          have HF1 : Hid (fl s = s.size) := (show fl s = s.size from by rw [HS.out.1]; exact text_fl ns HPT.out)
          have HF2 : Hid (fl (s.extract 0 kn) = r) := (show fl (s.extract 0 kn) = r from stI_end hst hkl)
          have BW : Hid (Below w.heap.size w wr) := (show Below w.heap.size w wr from HB.out.trans (hbz.mono HB.out.size))
          have X1 := fault_any s (by unfold maxLen; omega) wr hT2.1
          rw [HF1.out] at X1
          have hhs := head_size s kn hkl
          have hml : (s.extract 0 kn).size ≤ maxLen := by rw [hhs]; unfold maxLen; omega
          clear hst hol hT2 hbz e1
          go_wp2_with fail
          refine X1.mono ?_
          rintro e w1 ⟨rfl, b1⟩
          have B1 : Hid (Below w.heap.size w w1) := (show Below w.heap.size w w1 from BW.out.trans (b1.mono BW.out.size))
          clear b1 X1
          have X2 := fault_any (s.extract 0 kn) hml w1 (HT.out.below B1.out).1
          rw [HF2.out] at X2
          go_wp2_with fail
          refine X2.mono ?_
          rintro e w2 ⟨rfl, b2⟩
          have B2 : Hid (Below w.heap.size w w2) := (show Below w.heap.size w w2 from B1.out.trans (b2.mono B1.out.size))
          clear b2 X2
          have X3 := awake_any w2 (HT.out.below B2.out)
          go_wp2_with fail
          refine X3.mono ?_
          rintro e w3 ⟨rfl, b3⟩
          have B3 : Hid (Below w.heap.size w w3) := (show Below w.heap.size w w3 from B2.out.trans (b3.mono B2.out.size))
          clear b3 X3
          go_wp2
          go_ret
          exact ⟨rfl, B3.out⟩
end Go.Proofs.YtadbjcpooeibkaaDoor

/- The three tables, as the row lists them; a world that holds them, for the witness. -/
namespace Go.Proofs.YtadbjcpooeibkaaDoor
set_option maxRecDepth 100000
open Go.RowKit Go.Deep Go.ChangeShapes Go.WideShapes Go.ChangeAt Go.Lib Go.Shelf

theorem u8Extra : U8Extra Tryd.prog uRen where
  n3 := by kernel_rfl
  n4 := by kernel_rfl
  y3 := by kernel_rfl
  y4 := by kernel_rfl
  c5 := by kernel_rfl
  c119 := by kernel_rfl
  c138 := by kernel_rfl
/-- the letters' table, as data. -/
def ltData : DataW Unit := .agg ((List.range 43).map fun i => .agg ([ltA i, ltB i].map fun z => .lit (.int .i64 z)))
theorem gLet : Tryd.prog.globalNamed "incipit/utf.letters" = some 0 := by kernel_rfl
theorem gLetType : (Tryd.prog.globals[0]?).map (·.type) = some 42 := by kernel_rfl
theorem cellsInt : Tryd.prog.cellsOf 3 = 1 := by kernel_rfl
theorem cellsSpan : Tryd.prog.cellsOf 41 = 2 := by kernel_rfl
theorem letters_of_reads {w : World} (h : VarReads Tryd.prog w "incipit/utf.letters" ltData) : ltT w := by
  intro i hi
  obtain ⟨g, t, cs, fuel, p, hg, hty, hvar, hd⟩ := h
  obtain rfl := Option.some.inj (gLet.symm.trans hg)
  obtain rfl := Option.some.inj (gLetType.symm.trans hty)
  obtain ⟨fuel', d, q, hdi, he⟩ := array_elem Tryd.underlying42 hd i hi
  simp only [List.getElem?_map, List.getElem?_range hi, Option.map_some, Option.some.injEq] at hdi
  subst hdi
  rw [cellsSpan] at he
  have hcs := ints_of_struct Tryd.underlying41 (fun j f hj => by
    match j, hj with
    | 0, hj => simp at hj; subst hj; exact ⟨Tryd.underlying3, rfl, cellsInt⟩
    | 1, hj => simp at hj; subst hj; exact ⟨Tryd.underlying3, rfl, cellsInt⟩
    | j + 2, hj => simp at hj) (by rw [cellsSpan]; rfl) he
  have e0 := congrArg (·[0]?) hcs
  have e1 := congrArg (·[1]?) hcs
  simp only [List.getElem?_take, List.getElem?_drop] at e0 e1
  constructor
  · rw [World.var?_cell hg hvar (i * 2), ← Array.getElem?_toList]
    simpa using e0
  · rw [World.var?_cell hg hvar (i * 2 + 1), ← Array.getElem?_toList]
    simpa using e1
theorem dFirst : Rows.laid_unicode_utf8_first = firstData := by kernel_rfl
theorem dAccept : (Rows.laid_unicode_utf8_acceptRanges : DataW Unit) = acceptData := by kernel_rfl
theorem dLetters : (Rows.laid_incipit_utf_letters : DataW Unit) = ltData := by kernel_rfl
/-- what the row's list gives. -/
theorem laid_ut {W : World} (h : laidMetH Tryd.prog Rows.utfNextRow.laid W) : utT W := by
  have h' : laidMet Tryd.prog [("unicode/utf8.acceptRanges", Rows.laid_unicode_utf8_acceptRanges), ("incipit/utf.letters", Rows.laid_incipit_utf_letters), ("unicode/utf8.first", Rows.laid_unicode_utf8_first)] W := h
  have h1 := laidMet.reads h' (n := "unicode/utf8.first") (d := Rows.laid_unicode_utf8_first) (by simp)
  have h2 := laidMet.reads h' (n := "unicode/utf8.acceptRanges") (d := Rows.laid_unicode_utf8_acceptRanges) (by simp)
  have h3 := laidMet.reads h' (n := "incipit/utf.letters") (d := Rows.laid_incipit_utf_letters) (by simp)
  rw [dFirst] at h1
  rw [dAccept] at h2
  rw [dLetters] at h3
  exact ⟨utf8Tabs_of_reads { uLays with } u8Extra h1 h2, letters_of_reads h3⟩
/-- the tables' blocks, laid. -/
def lObj : Obj → Obj
  | .cells _ t frozen => .cells lrow t frozen
  | o => o
def fObj : Obj → Obj
  | .cells _ t frozen => .cells ((List.range 256).map fun c => Value.int .u8 (firstT c)).toArray t frozen
  | o => o
def aObj : Obj → Obj
  | .cells _ t frozen => .cells ((List.range 16).flatMap fun i => [Value.int .u8 (accLo i), Value.int .u8 (accHi i)]).toArray t frozen
  | o => o
end Go.Proofs.YtadbjcpooeibkaaDoor
