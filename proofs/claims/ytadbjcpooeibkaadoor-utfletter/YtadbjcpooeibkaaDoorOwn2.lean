import Derived.ProofKit
import Derived.OpenShut
import Derived.Test.YtadbjcpooeibkaaDoorRows
import Derived.ChangeSlices
import Derived.Deep.Slices
import Derived.Deep.Strs
import Derived.Test.YtadbjcpooeibkaaDoorCards
import Derived.Deep.DeepHandedRow
import Derived.Lib.LaidTab
import Derived.Lib.LaidU8
import Derived.Test.YtadbjcpooeibkaaDoorOwn1
set_option linter.unusedVariables false
set_option linter.unusedSimpArgs false
/- The document's Fault, May, Letter, Small. -/
namespace Go.Proofs.YtadbjcpooeibkaaDoor
set_option linter.unusedSimpArgs false
set_option linter.unusedVariables false
open Go.RowKit Go.Deep

set_option maxHeartbeats 2000000 in
set_option maxRecDepth 100000 in
theorem rfault_any (s : ByteArray) (hs : s.size ≤ maxLen) (w : World) :
    Calls Tryd.prog 13 #[.string s] w fun e w' => e = .returned (.int .i64 (fl s)) ∧ Below w.heap.size w w' := by
  have hm : (s.size : Int) ≤ 9223372036854775807 := by unfold maxLen at hs; omega
  have HS : Hid (s.size ≤ maxLen) := (show s.size ≤ maxLen from hs)
  clear hs
  go_enter Tryd.func13, Tryd.ntmps13
  go_wp2_with fail
  go_loopw [3] (fun i wr => ∃ m : Nat, i = .int .i64 (m : Int) ∧ flAt s m = fl s ∧ m ≤ s.size ∧ Below w.heap.size w wr) (fun i _ => s.size - (intOf i).toNat)
  case atStart => exact ⟨0, rfl, rfl, by omega, Below.refl _ _⟩
  case round =>
    obtain ⟨m, rfl, hf, hmm, hb⟩ := hrel
    have HB : Hid (Below w.heap.size w wr) := hb
    have X := rnext_any s HS.out ((m : Nat) : Int) (by omega) wr
    rw [nxI_nat] at X
    have h1 := nx_size s m
    have h2 := flAt_stop (s := s) (k := m)
    have h3 := flAt_step (s := s) (k := m)
    generalize nx s m = c at X h1 h2 h3
    obtain ⟨r, z⟩ := c
    simp only at X h1 h2 h3
    have HZ : Hid ((z = 0 → fl s = m) ∧ (z ≠ 0 → flAt s (m + z) = fl s)) := (show _ from ⟨fun h => by rw [← hf, h2 h], fun h => by rw [← hf, h3 h]⟩)
    have z0 : (m : Int) + (z : Int) ≤ (s.size : Int) := by omega
    clear h1 h2 h3 hb hf
    go_wp2_with fail
    refine X.mono ?_
    rintro e w1 ⟨rfl, b1⟩
    have B1 : Hid (Below w.heap.size w w1) := (show Below w.heap.size w w1 from HB.out.trans (b1.mono HB.out.size))
    clear X b1
    by_cases hz : z = 0
    · subst hz
      go_wp2
      go_ret
      exact ⟨by rw [HZ.out.1 trivial]; rfl, B1.out⟩
    · have hz' : ¬ (z : Int) = 0 := by omega
      go_wp2
      go_light
      exact ⟨⟨m + z, by rw [Int.natCast_add], HZ.out.2 hz, by omega, B1.out⟩, by simp [intOf]; omega⟩
theorem rmay_any (s : ByteArray) (hs : s.size ≤ maxLen) (w : World) :
    Calls Tryd.prog 15 #[.string s] w fun e w' => e = .returned (.bool (decide (fl s = s.size))) ∧ Below w.heap.size w w' := by
  have X := rfault_any s hs w
  have e : (decide (fl s = s.size)) = (decide ((fl s : Int) = (s.size : Int))) := decide_eq_decide.2 (by omega)
  rw [e]
  clear e
  go_enter Tryd.func15, Tryd.ntmps15
  go_wp2_with fail
  refine X.mono ?_
  rintro e w1 ⟨rfl, b1⟩
  clear X
  go_wp2
  go_ret
  exact ⟨rfl, b1⟩
theorem wpList_runU {P : Program} {ops : Array Oper} {rest : List Oper} {o : Oper} {a : Act} {w w' : World} {Q : Exit → Act → World → Prop} {v : Value} (hgd : o.guard = none) (hr : (execOp a.eval o).run P w = .ok (.value v) w') (h : wpList P ops Q rest (a.put o.dst v) w') : wpList P ops Q (o :: rest) a w :=
  wpList_plain hgd fun _ hK => wp_of_run hr (hK _ _ h)
/-- the document's row of letters. -/
def lrow : Array Value := (ltL.flatMap fun p => [Value.int .i64 p.1, Value.int .i64 p.2]).toArray
theorem flat2 : ∀ (l : List (Int × Int)) (i : Nat) (x : Int × Int), l[i]? = some x → (l.flatMap fun p => [Value.int .i64 p.1, Value.int .i64 p.2])[i * 2]? = some (.int .i64 x.1) ∧ (l.flatMap fun p => [Value.int .i64 p.1, Value.int .i64 p.2])[i * 2 + 1]? = some (.int .i64 x.2)
  | [], i, x, h => by simp at h
  | y :: t, 0, x, h => by
    simp at h
    subst h
    exact ⟨rfl, rfl⟩
  | y :: t, i + 1, x, h => by
    simp at h
    have := flat2 t i x h
    rw [List.flatMap_cons]
    rw [show (i + 1) * 2 = (i * 2) + 2 by omega, show (i * 2) + 2 + 1 = (i * 2 + 1) + 2 by omega]
    exact this
theorem lrow_cell (w : World) (i : Nat) (hi : i < 43) : (w.alloc (.cells lrow 3)).cell? ⟨w.heap.size, i * 2, none⟩ = some (.int .i64 (ltA i)) ∧ (w.alloc (.cells lrow 3)).cell? ⟨w.heap.size, i * 2 + 1, none⟩ = some (.int .i64 (ltB i)) := by
  have hl : ltL[i]? = some (ltL.getD i (0, 0)) := by
    rw [List.getD_eq_getElem?_getD, List.getElem?_eq_getElem (show i < ltL.length from hi)]; rfl
  have := flat2 ltL i _ hl
  rw [cell_of_row _ _ _ _ _ _ (blk_alloc_new w _), cell_of_row _ _ _ _ _ _ (blk_alloc_new w _)]
  exact ⟨by rw [lrow, List.getElem?_toArray]; exact this.1, by rw [lrow, List.getElem?_toArray]; exact this.2⟩
set_option maxHeartbeats 4000000 in
set_option maxRecDepth 100000 in
theorem rletter_any (c : Int) (w : World) :
    Calls Tryd.prog 19 #[.int .i64 c] w fun e w' => e = .returned (.bool (letB c)) ∧ Below w.heap.size w w' := by
  obtain ⟨w1, hw1⟩ : ∃ w1, w1 = w.alloc (.cells lrow 3) := ⟨_, rfl⟩
  have b1 : Below w.heap.size w w1 := by rw [hw1]; exact (Below.refl _ _).alloc (Nat.le_refl _) _
  obtain ⟨fb, hfb⟩ : ∃ fb, fb = w.heap.size := ⟨_, rfl⟩
  have FC : Hid (∀ i, i < 43 → w1.cell? ⟨fb, i * 2, none⟩ = some (.int .i64 (ltA i)) ∧ w1.cell? ⟨fb, i * 2 + 1, none⟩ = some (.int .i64 (ltB i))) := (show _ from fun i hi => by rw [hw1, hfb]; exact lrow_cell w i hi)
  have B1 : Hid (Below w.heap.size w w1) := (show Below w.heap.size w w1 from b1)
  clear b1
  go_enter Tryd.func19, Tryd.ntmps19
  go_upto_region 1 with fail
  go_wp2_with (first | (refine wpList_runU (v := .slice (some ⟨w.heap.size, 0, none⟩) 86 86) (w' := w1) rfl (by rw [hw1]; kernel_rfl) ?_; rw [← hfb]; clear hw1 hfb))
  go_loopw [4] (fun i wr => ∃ j : Nat, j ≤ 43 ∧ i = .int .i64 ((j : Int) * 2) ∧ (∀ t, t < j → ¬ (ltA t ≤ c ∧ c ≤ ltB t)) ∧ wr = w1) (fun i _ => 86 - (intOf i).toNat)
  case atStart => exact ⟨0, by omega, rfl, fun t ht => by omega, rfl⟩
  case round =>
    obtain ⟨j, hj, rfl, hno, hw⟩ := hrel
    obtain rfl := hw.symm
    have HN : Hid (∀ t, t < j → ¬ (ltA t ≤ c ∧ c ≤ ltB t)) := (show _ from hno)
    have j0 : (0 : Int) ≤ (j : Int) * 2 := by omega
    have j1 : ((j : Int) * 2).toNat = j * 2 := by omega
    have j2 : ((j : Int) * 2 + 1).toNat = j * 2 + 1 := by omega
    clear hno hw
    by_cases hlt : j < 43
    · have j3 : (j : Int) * 2 < 86 := by omega
      have j4 : (j : Int) * 2 + 1 < 86 := by omega
      obtain ⟨c1, c2⟩ := FC.out j hlt
      obtain ⟨a, ha⟩ : ∃ a, a = ltA j := ⟨_, rfl⟩
      obtain ⟨b, hb⟩ : ∃ b, b = ltB j := ⟨_, rfl⟩
      rw [← ha] at c1
      rw [← hb] at c2
      have HA : Hid (a = ltA j ∧ b = ltB j) := (show _ ∧ _ from ⟨ha, hb⟩)
      clear ha hb
      by_cases h1 : a ≤ c
      · by_cases h2 : c ≤ b
        · have HL : Hid (letB c = true) := (show letB c = true from (letB_is c).2 ⟨j, hlt, by rw [← HA.out.1]; exact h1, by rw [← HA.out.2]; exact h2⟩)
          go_wp2
          go_ret
          exact ⟨by rw [HL.out]; rfl, B1.out⟩
        · go_wp2
          go_light
          refine ⟨⟨j + 1, by omega, by go_num, fun t ht => ?_, trivial⟩, by simp [intOf]; omega⟩
          by_cases e : t = j
          · subst e; intro h; rw [← HA.out.2] at h; exact h2 h.2
          · exact HN.out t (by omega)
      · go_wp2
        go_light
        refine ⟨⟨j + 1, by omega, by go_num, fun t ht => ?_, trivial⟩, by simp [intOf]; omega⟩
        by_cases e : t = j
        · subst e; intro h; rw [← HA.out.1] at h; exact h1 h.1
        · exact HN.out t (by omega)
    · obtain rfl : j = 43 := by omega
      have HL : Hid (letB c = false) := (show letB c = false from by
        cases e : letB c with
        | false => rfl
        | true => obtain ⟨i, hi, h⟩ := (letB_is c).1 e; exact absurd h (HN.out i hi))
      go_wp2
      go_ret
      exact ⟨by rw [HL.out]; rfl, B1.out⟩
end Go.Proofs.YtadbjcpooeibkaaDoor

/- The document's Small. -/
namespace Go.Proofs.YtadbjcpooeibkaaDoor
set_option linter.unusedSimpArgs false
set_option linter.unusedVariables false
open Go.RowKit Go.Deep

theorem strOf_append (l m : List Int) : strOf l ++ strOf m = strOf (l ++ m) := by
  unfold strOf
  apply ByteArray.ext
  simp [ByteArray.data_append]
theorem conv_one (w : World) (x : Int) : (convert 38 9 (.slice (some ⟨w.heap.size, 0, none⟩) 1 1)).run Tryd.prog (w.alloc (.cells #[.int .u8 x] 5)) = .ok (.string (strOf [x])) (w.alloc (.cells #[.int .u8 x] 5)) :=
  conv_lit (w.alloc (.cells #[.int .u8 x] 5)) w.heap.size 1 1 (fun _ => x) (fun i hi => by
    obtain rfl : i = 0 := by omega
    rw [cell_of_row _ _ _ _ _ _ (blk_alloc_new w _)]; rfl)
theorem sBytes_bt (s : ByteArray) (k : Nat) : (sBytes s).getD k 0 = (bt s k : Int) := by
  unfold bt
  by_cases h : k < s.size
  · rw [get_ok s k h, sBytes, List.getD_eq_getElem?_getD, List.getElem?_map, Array.getElem?_toList]
    have h' : k < s.data.size := h
    rw [Array.getElem?_eq_getElem h']
    rfl
  · rw [get_out s k h, List.getD_eq_getElem?_getD, List.getElem?_eq_none (by rw [sBytes_length]; omega)]; rfl
set_option maxHeartbeats 4000000 in
set_option maxRecDepth 100000 in
theorem rsmall_any (s : ByteArray) (hs : s.size ≤ maxLen) (w : World) :
    Calls Tryd.prog 17 #[.string s] w fun e w' => e = .returned (.string (smS s)) ∧ Below w.heap.size w w' := by
  have hm : (s.size : Int) ≤ 9223372036854775807 := by unfold maxLen at hs; omega
  have hone := conv_one
  have HO : Hid _ := hone
  clear hs hone
  go_enter Tryd.func17, Tryd.ntmps17
  go_wp2_with fail
  go_loopw [3, 4] (fun z i wr => ∃ j : Nat, j ≤ s.size ∧ i = .int .i64 (j : Int) ∧ z = .string (strOf ((List.range j).map fun i => smI ((sBytes s).getD i 0))) ∧ Below w.heap.size w wr) (fun _ i _ => s.size - (intOf i).toNat)
  case atStart => exact ⟨0, by omega, rfl, rfl, Below.refl _ _⟩
  case round =>
    obtain ⟨j, hj, rfl, rfl, hb⟩ := hrel
    have HB : Hid (Below w.heap.size w wr) := (show Below w.heap.size w wr from hb)
    have j0 : (0 : Int) ≤ (j : Int) := by omega
    have hl : (strOf ((List.range j).map fun i => smI ((sBytes s).getD i 0))).size = j := by rw [strOf_size]; simp
    have hnx : ∀ y, y = smI ((sBytes s).getD j 0) → strOf ((List.range j).map fun i => smI ((sBytes s).getD i 0)) ++ strOf [y] = strOf ((List.range (j + 1)).map fun i => smI ((sBytes s).getD i 0)) := fun y hy => by
      rw [strOf_append, List.range_succ, List.map_append, hy]; rfl
    rw [sBytes_bt s j] at hnx
    clear hb
    by_cases hlt : j < s.size
    · have j1 : (j : Int) < (s.size : Int) := by omega
      have hb0 := bt_get s j hlt
      have hbl := bt_lt s j
      have hbl' : (bt s j : Int) ≤ 255 := by omega
      have hbl0 : (0 : Int) ≤ (bt s j : Int) := by omega
      have HN : Hid (∀ y, y = smI (bt s j : Int) → strOf ((List.range j).map fun i => smI ((sBytes s).getD i 0)) ++ strOf [y] = strOf ((List.range (j + 1)).map fun i => smI ((sBytes s).getD i 0))) := (show _ from hnx)
      generalize strOf ((List.range j).map fun i => smI ((sBytes s).getD i 0)) = Z at hl HN ⊢
      have hZ : (Z.size : Int) + 1 ≤ 9223372036854775807 := by omega
      obtain ⟨x, hx⟩ : ∃ x : Int, (bt s j : Int) = x := ⟨_, rfl⟩
      rw [hx] at hbl' hbl0 HN
      clear hnx hbl hl
      by_cases h1 : x ≥ 65
      · by_cases h2 : x ≤ 90
        · have c1 := HO.out wr (x + 32)
          have hsz : (strOf [x + 32]).size = 1 := rfl
          have HY : Hid (Z ++ strOf [x + 32] = strOf ((List.range (j + 1)).map fun i => smI ((sBytes s).getD i 0))) := (show Z ++ strOf [x + 32] = strOf ((List.range (j + 1)).map fun i => smI ((sBytes s).getD i 0)) from HN.out (x + 32) (by unfold smI; rw [if_pos ⟨h1, h2⟩]))
          generalize strOf [x + 32] = Y at c1 hsz HY
          have hcat : ¬ (9223372036854775807 < Z.size + Y.size) := by omega
          go_wp2
          go_light
          exact ⟨⟨j + 1, by omega, by go_num, by rw [HY.out], HB.out.alloc HB.out.size _⟩, by simp [intOf]; omega⟩
        · have c1 := HO.out wr x
          have hsz : (strOf [x]).size = 1 := rfl
          have HY : Hid (Z ++ strOf [x] = strOf ((List.range (j + 1)).map fun i => smI ((sBytes s).getD i 0))) := (show Z ++ strOf [x] = strOf ((List.range (j + 1)).map fun i => smI ((sBytes s).getD i 0)) from HN.out x (by unfold smI; rw [if_neg (by omega)]))
          generalize strOf [x] = Y at c1 hsz HY
          have hcat : ¬ (9223372036854775807 < Z.size + Y.size) := by omega
          go_wp2
          go_light
          exact ⟨⟨j + 1, by omega, by go_num, by rw [HY.out], HB.out.alloc HB.out.size _⟩, by simp [intOf]; omega⟩
      · have c1 := HO.out wr x
        have hsz : (strOf [x]).size = 1 := rfl
        have HY : Hid (Z ++ strOf [x] = strOf ((List.range (j + 1)).map fun i => smI ((sBytes s).getD i 0))) := (show Z ++ strOf [x] = strOf ((List.range (j + 1)).map fun i => smI ((sBytes s).getD i 0)) from HN.out x (by unfold smI; rw [if_neg (by omega)]))
        generalize strOf [x] = Y at c1 hsz HY
        have hcat : ¬ (9223372036854775807 < Z.size + Y.size) := by omega
        go_wp2
        go_light
        exact ⟨⟨j + 1, by omega, by go_num, by rw [HY.out], HB.out.alloc HB.out.size _⟩, by simp [intOf]; omega⟩
    · obtain rfl : j = s.size := by omega
      rw [smS_range]
      clear hnx hl
      go_wp2
      go_ret
      exact ⟨rfl, HB.out⟩
end Go.Proofs.YtadbjcpooeibkaaDoor

/- awake: the chapter's examples. -/
namespace Go.Proofs.YtadbjcpooeibkaaDoor
set_option linter.unusedSimpArgs false
set_option linter.unusedVariables false
open Go.RowKit Go.Deep

def sAe : ByteArray := { data := #[97, 195, 169] }
theorem ae0 : nxI sAe 0 = (97, 1) := by kernel_rfl
theorem ae1 : nxI sAe 1 = (233, 2) := by kernel_rfl
theorem ae2 : nxI sAe 2 = (0, 0) := by kernel_rfl
theorem ae3 : nxI sAe 3 = (0, 0) := by kernel_rfl
theorem aef : fl sAe = 3 := by kernel_rfl
theorem acf : fl { data := #[97, 195] } = 1 := by kernel_rfl
theorem edf : fl { data := #[237, 160, 128] } = 0 := by kernel_rfl
theorem let1 : letB 65 = true := by kernel_rfl
theorem let2 : letB 19968 = true := by kernel_rfl
theorem let3 : letB 32 = false := by kernel_rfl
theorem let4 : letB (-1) = false := by kernel_rfl
theorem smal : smS { data := #[65, 66, 122, 32, 195, 137] } = { data := #[97, 98, 122, 32, 195, 137] } := by kernel_rfl
/-- the program's three tables. -/
def utT (w : World) : Prop := u8T w ∧ ltT w
theorem utT.below {w w' : World} (h : utT w) (hb : Below w.heap.size w w') : utT w' := ⟨h.1.below hb, h.2.below hb⟩
set_option maxHeartbeats 4000000 in
set_option maxRecDepth 100000 in
theorem awake_any (w : World) (hT : utT w) :
    Calls Tryd.prog 9 #[] w fun e w' => e = .returned (.bool true) ∧ Below w.heap.size w w' := by
  have HT : Hid (utT w) := hT
  have X1 := next_any sAe 0 (by omega) w hT.1
  rw [ae0] at X1
  clear hT
  go_enter Tryd.func9, Tryd.ntmps9
  go_wp2_with fail
  refine X1.mono ?_
  rintro e w1 ⟨rfl, b1⟩
  have B1 : Hid (Below w.heap.size w w1) := (show Below w.heap.size w w1 from b1)
  clear b1 X1
  have X2 := next_any sAe 1 (by omega) w1 (HT.out.below B1.out).1
  rw [ae1] at X2
  go_wp2_with fail
  refine X2.mono ?_
  rintro e w2 ⟨rfl, b2⟩
  have B2 : Hid (Below w.heap.size w w2) := (show Below w.heap.size w w2 from B1.out.trans (b2.mono B1.out.size))
  clear b2 X2
  have X3 := next_any sAe 2 (by omega) w2 (HT.out.below B2.out).1
  rw [ae2] at X3
  go_wp2_with fail
  refine X3.mono ?_
  rintro e w3 ⟨rfl, b3⟩
  have B3 : Hid (Below w.heap.size w w3) := (show Below w.heap.size w w3 from B2.out.trans (b3.mono B2.out.size))
  clear b3 X3
  have X4 := next_any sAe 3 (by omega) w3 (HT.out.below B3.out).1
  rw [ae3] at X4
  go_wp2_with fail
  refine X4.mono ?_
  rintro e w4 ⟨rfl, b4⟩
  have B4 : Hid (Below w.heap.size w w4) := (show Below w.heap.size w w4 from B3.out.trans (b4.mono B3.out.size))
  clear b4 X4
  have X5 := fault_any sAe (by unfold maxLen; decide) w4 (HT.out.below B4.out).1
  rw [aef] at X5
  go_wp2_with fail
  refine X5.mono ?_
  rintro e w5 ⟨rfl, b5⟩
  have B5 : Hid (Below w.heap.size w w5) := (show Below w.heap.size w w5 from B4.out.trans (b5.mono B4.out.size))
  clear b5 X5
  have X6 := fault_any { data := #[97, 195] } (by unfold maxLen; decide) w5 (HT.out.below B5.out).1
  rw [acf] at X6
  go_wp2_with fail
  refine X6.mono ?_
  rintro e w6 ⟨rfl, b6⟩
  have B6 : Hid (Below w.heap.size w w6) := (show Below w.heap.size w w6 from B5.out.trans (b6.mono B5.out.size))
  clear b6 X6
  have X7 := fault_any { data := #[237, 160, 128] } (by unfold maxLen; decide) w6 (HT.out.below B6.out).1
  rw [edf] at X7
  go_wp2_with fail
  refine X7.mono ?_
  rintro e w7 ⟨rfl, b7⟩
  have B7 : Hid (Below w.heap.size w w7) := (show Below w.heap.size w w7 from B6.out.trans (b7.mono B6.out.size))
  clear b7 X7
  have X8 := letter_any 65 w7 (HT.out.below B7.out).2
  rw [let1] at X8
  go_wp2_with fail
  refine X8.mono ?_
  rintro e w8 ⟨rfl, b8⟩
  have B8 : Hid (Below w.heap.size w w8) := (show Below w.heap.size w w8 from B7.out.trans (b8.mono B7.out.size))
  clear b8 X8
  have X9 := letter_any 19968 w8 (HT.out.below B8.out).2
  rw [let2] at X9
  go_wp2_with fail
  refine X9.mono ?_
  rintro e w9 ⟨rfl, b9⟩
  have B9 : Hid (Below w.heap.size w w9) := (show Below w.heap.size w w9 from B8.out.trans (b9.mono B8.out.size))
  clear b9 X9
  have X10 := letter_any 32 w9 (HT.out.below B9.out).2
  rw [let3] at X10
  go_wp2_with fail
  refine X10.mono ?_
  rintro e w10 ⟨rfl, b10⟩
  have B10 : Hid (Below w.heap.size w w10) := (show Below w.heap.size w w10 from B9.out.trans (b10.mono B9.out.size))
  clear b10 X10
  have X11 := letter_any (-1) w10 (HT.out.below B10.out).2
  rw [let4] at X11
  go_wp2_with fail
  refine X11.mono ?_
  rintro e w11 ⟨rfl, b11⟩
  have B11 : Hid (Below w.heap.size w w11) := (show Below w.heap.size w w11 from B10.out.trans (b11.mono B10.out.size))
  clear b11 X11
  have X12 := small_any { data := #[65, 66, 122, 32, 195, 137] } (by unfold maxLen; decide) w11
  rw [smal] at X12
  go_wp2_with fail
  refine X12.mono ?_
  rintro e w12 ⟨rfl, b12⟩
  have B12 : Hid (Below w.heap.size w w12) := (show Below w.heap.size w w12 from B11.out.trans (b12.mono B11.out.size))
  clear b12 X12
  go_wp2
  go_ret
  exact ⟨rfl, B12.out⟩
end Go.Proofs.YtadbjcpooeibkaaDoor

/- UtfFault, UtfLetter: their walks. -/
namespace Go.Proofs.YtadbjcpooeibkaaDoor
set_option linter.unusedSimpArgs false
set_option linter.unusedVariables false
open Go.RowKit Go.Deep

set_option maxHeartbeats 4000000 in
set_option maxRecDepth 100000 in
theorem utfFault_any (s : ByteArray) (w : World) (hT : utT w) :
    Calls Tryd.prog 4 #[.string s] w fun e w' => e = .returned (.bool true) ∧ Below w.heap.size w w' := by
  have HT : Hid (utT w) := hT
  by_cases hbig : (s.size : Int) > 2000
  · have X := awake_any w hT
    clear hT
    go_enter Tryd.func4, Tryd.ntmps4
    go_wp2_with fail
    refine X.mono ?_
    rintro e w1 ⟨rfl, b1⟩
    clear X
    go_wp2
    go_ret
    exact ⟨rfl, b1⟩
  have hsz : (s.size : Int) ≤ 2000 := by omega
  have hs : s.size ≤ maxLen := by unfold maxLen; omega
  have HS : Hid (s.size ≤ maxLen) := (show s.size ≤ maxLen from hs)
  have B0 : Hid (Below w.heap.size w w) := (show Below w.heap.size w w from Below.refl _ _)
  have X1 := fault_any s hs w hT.1
  clear hT hs
  go_enter Tryd.func4, Tryd.ntmps4
  go_wp2_with fail
  refine X1.mono ?_
  rintro e w1 ⟨rfl, b1⟩
  have B1 : Hid (Below w.heap.size w w1) := (show Below w.heap.size w w1 from B0.out.trans (b1.mono B0.out.size))
  clear b1 X1
  have X2 := rfault_any s HS.out w1
  go_wp2_with fail
  refine X2.mono ?_
  rintro e w2 ⟨rfl, b2⟩
  have B2 : Hid (Below w.heap.size w w2) := (show Below w.heap.size w w2 from B1.out.trans (b2.mono B1.out.size))
  clear b2 X2
  have X3 := may_any s HS.out w2 (HT.out.below B2.out).1
  go_wp2_with fail
  refine X3.mono ?_
  rintro e w3 ⟨rfl, b3⟩
  have B3 : Hid (Below w.heap.size w w3) := (show Below w.heap.size w w3 from B2.out.trans (b3.mono B2.out.size))
  clear b3 X3
  have X4 := rmay_any s HS.out w3
  go_wp2_with fail
  refine X4.mono ?_
  rintro e w4 ⟨rfl, b4⟩
  have B4 : Hid (Below w.heap.size w w4) := (show Below w.heap.size w w4 from B3.out.trans (b4.mono B3.out.size))
  clear b4 X4
  have X5 := small_any s HS.out w4
  go_wp2_with fail
  refine X5.mono ?_
  rintro e w5 ⟨rfl, b5⟩
  have B5 : Hid (Below w.heap.size w w5) := (show Below w.heap.size w w5 from B4.out.trans (b5.mono B4.out.size))
  clear b5 X5
  have X6 := rsmall_any s HS.out w5
  go_wp2_with fail
  refine X6.mono ?_
  rintro e w6 ⟨rfl, b6⟩
  have B6 : Hid (Below w.heap.size w w6) := (show Below w.heap.size w w6 from B5.out.trans (b6.mono B5.out.size))
  clear b6 X6
  have X7 := awake_any w6 (HT.out.below B6.out)
  go_wp2_with fail
  refine X7.mono ?_
  rintro e w7 ⟨rfl, b7⟩
  have B7 : Hid (Below w.heap.size w w7) := (show Below w.heap.size w w7 from B6.out.trans (b7.mono B6.out.size))
  clear b7 X7
  go_wp2
  go_ret
  exact ⟨rfl, B7.out⟩
theorem and_low (c : Int) : 0 ≤ bits .and .i64 c 2097151 ∧ bits .and .i64 c 2097151 ≤ 2097151 := by
  have h127 : (BitVec.ofInt 64 2097151).toNat = 2 ^ 21 - 1 := by decide
  have key : (BitVec.ofInt 64 c &&& BitVec.ofInt 64 2097151).toNat = (c % ((2 ^ 64 : Nat) : Int)).toNat % 2 ^ 21 := by
    rw [BitVec.toNat_and, BitVec.toNat_ofInt, h127, Nat.and_two_pow_sub_one_eq_mod]
  have e : bits .and .i64 c 2097151 = c % 2097152 := by
    show IntKind.i64.wrap ((BitVec.ofInt 64 c &&& BitVec.ofInt 64 2097151).toNat : Nat) = c % 2097152
    rw [key, IntKind.wrap_i64]
    omega
  rw [e]; omega
set_option maxHeartbeats 4000000 in
set_option maxRecDepth 100000 in
theorem utfLetter_any (c : Int) (hc : -9223372036854775808 ≤ c ∧ c ≤ 9223372036854775807) (w : World) (hT : utT w) :
    Calls Tryd.prog 5 #[.int .i64 c] w fun e w' => e = .returned (.bool true) ∧ Below w.heap.size w w' := by
  have HT : Hid (utT w) := hT
  obtain ⟨m, hm⟩ : ∃ m, bits .and .i64 c 2097151 = m := ⟨_, rfl⟩
  have hm0 : 0 ≤ m ∧ m ≤ 2097151 := by
    rw [← hm]
    exact and_low c
  obtain ⟨m0, m1⟩ := hm0
  clear hT
  go_enter Tryd.func5, Tryd.ntmps5
  go_wp2_with fail
  go_loopw [3] (fun i wr => ∃ j : Nat, j ≤ 5 ∧ i = .int .i64 ((j : Int) - 2) ∧ Below w.heap.size w wr) (fun i _ => (5 - (intOf i + 2)).toNat)
  case atStart => exact ⟨0, by omega, rfl, Below.refl _ _⟩
  case round =>
    obtain ⟨j, hj, rfl, hb⟩ := hrel
    have HB : Hid (Below w.heap.size w wr) := (show Below w.heap.size w wr from hb)
    have hT := HT.out.below hb
    have j0 : (0 : Int) ≤ (j : Int) := by omega
    clear hb
    by_cases hin : (j : Int) - 2 ≤ 2
    · have X := letter_any (m + ((j : Int) - 2)) wr hT.2
      have XR := fun wz => rletter_any (m + ((j : Int) - 2)) wz
      generalize letB (m + ((j : Int) - 2)) = b at X XR
      clear hT
      go_wp2_with fail
      refine X.mono ?_
      rintro e w1 ⟨rfl, b1⟩
      have XR1 := XR w1
      have B1 : Hid (Below w.heap.size w w1) := (show Below w.heap.size w w1 from HB.out.trans (b1.mono HB.out.size))
      clear X XR b1
      go_wp2_with fail
      refine XR1.mono ?_
      rintro e w2 ⟨rfl, b2⟩
      have B2 : Hid (Below w.heap.size w w2) := (show Below w.heap.size w w2 from B1.out.trans (b2.mono B1.out.size))
      clear XR1 b2
      go_wp2
      go_light
      exact ⟨⟨j + 1, by omega, by go_num, B2.out⟩, by simp [intOf]; omega⟩
    · have X := letter_any c wr hT.2
      have XR := fun wz => rletter_any c wz
      generalize letB c = b at X XR
      clear hT
      go_wp2_with fail
      refine X.mono ?_
      rintro e w1 ⟨rfl, b1⟩
      have XR1 := XR w1
      have B1 : Hid (Below w.heap.size w w1) := (show Below w.heap.size w w1 from HB.out.trans (b1.mono HB.out.size))
      clear X XR b1
      go_wp2_with fail
      refine XR1.mono ?_
      rintro e w2 ⟨rfl, b2⟩
      have B2 : Hid (Below w.heap.size w w2) := (show Below w.heap.size w w2 from B1.out.trans (b2.mono B1.out.size))
      have X3 := awake_any w2 (HT.out.below B2.out)
      clear XR1 b2
      go_wp2_with fail
      refine X3.mono ?_
      rintro e w3 ⟨rfl, b3⟩
      have B3 : Hid (Below w.heap.size w w3) := (show Below w.heap.size w w3 from B2.out.trans (b3.mono B2.out.size))
      clear X3 b3
      go_wp2
      go_ret
      exact ⟨rfl, B3.out⟩
end Go.Proofs.YtadbjcpooeibkaaDoor

/- The frame of a law's row: what was read reads behind the call as it did, where nothing old has turned. -/
namespace Go.Proofs.YtadbjcpooeibkaaDoor
open Go.RowKit Go.Deep Go.ChangeShapes Go.WideShapes Go.ChangeAt

theorem below_trodAll {H : Type} {enc : TypeId × Value → H} {P : Program} (hl : laidOutB P = true) {W W' : World} (hb : Below W.heap.size W W') :
    ∀ {ts : List TypeId} {vs : List Value} {ds : List (DataW H)} {ps : List MemPlace}, (∀ t ∈ ts, P.readableRec t = true ∧ t < P.types.size) → DataW.TrodAll enc P W 0 (fun _ => true) true ts vs ds ps → (∀ x ∈ ps, x.block < W.heap.size) →
      DataW.TrodAll enc P W' 0 (fun b => decide (b < W.heap.size)) true ts vs ds ps
  | [], [], [], _, _, h, _ => h
  | t :: ts, v :: vs, d :: ds, ps, hts, h, hlt => by
    obtain ⟨p, q, h1, h2, e⟩ := h
    subst e
    exact ⟨p, q, Below.trod hl (hts t List.mem_cons_self).1 (hts t List.mem_cons_self).2 h1 hb (fun x hx => hlt x (List.mem_append_left _ hx)), below_trodAll hl hb (fun u hu => hts u (List.mem_cons_of_mem _ hu)) h2 (fun x hx => hlt x (List.mem_append_right _ hx)), rfl⟩

/-- WHAT A LAW's ROW ASKS BEHIND THE CALL, where the answer is true and nothing old has turned. -/
theorem law_post {H : Type} {enc : TypeId × Value → H} {P : Program} {spec : ChangeSpec} {f : Func} {W W' : World} {args : Array Value} {ds gs : List (DataW H)} {before : List MemPlace} {tb : TypeId}
    (hl : laidOutB P = true) (hts : ∀ t ∈ f.params.toList, P.readableRec t = true ∧ t < P.types.size) (hvars : spec.vars = []) (hres : f.resultTypes = #[tb]) (hbool : P.underlying tb = some .bool)
    (hspec : spec.fn H (ds ++ gs) = { results := [.lit (.bool true)], args := ds })
    (hW : DataW.Whole enc P f.params.toList spec.vars false W args.toList ds gs before) (hb : Below W.heap.size W W') : spec.post enc P f false true false false W args (.bool true) W' := by
  have hW' := hW
  have hlt := hW.lt
  obtain ⟨p, q, hA, hV, rfl, hfz, hnd⟩ := hW
  rw [hvars] at hV
  obtain ⟨rfl, rfl⟩ := trodVars_none hV
  refine ⟨ds, [], p ++ [], [], p, [], hW', ?_, ?_, ?_, ?_, fun h => by cases h⟩
  · rw [hspec, hres]
    exact trodAll_cons_mk (shut_bool hbool _) trodAll_mk0
  · rw [hspec]
    exact below_trodAll hl hb hts hA (fun x hx => hlt x (List.mem_append_left _ hx))
  · rw [hspec, hvars]; exact hV
  · exact hb.frame _

/-- AN ARRAY OF BYTES, opened. -/
theorem open_bytes {H : Type} {enc : TypeId × Value → H} {P : Program} {w : World} {base b0 : Nat} {sp : Nat → Bool} {held : Bool} {r : Reach} {t e : TypeId} {n : Nat} {v : Value} {d : DataW H} {ps : List MemPlace}
    (hu : P.underlying t = some (.array n e)) (he : P.underlying e = some (.int .u8)) (hc : P.cellsOf e = 1) (hct : P.cellsOf t = n) (hval : Value.okWide P w r b0 t v) (hd : DataW.Trod enc P w base sp held t v d ps) :
    ∃ f : Nat → Int, v = .agg (rowV n fun i => .int .u8 (f i)) ∧ ∀ i, 0 ≤ f i ∧ f i ≤ 255 := by
  unfold Value.okWide at hval
  rw [hu] at hval
  obtain ⟨cs, rfl, hsz, _⟩ := hval
  obtain ⟨fuel, hf⟩ := hd
  obtain ⟨xs, m, rfl, _, hlen, _, hx⟩ := DataW.trod_array hu hf
  simp only [Value.cells] at hx hlen
  have hget : ∀ i, i < n → ∃ z : Int, cs[i]? = some (.int .u8 z) ∧ 0 ≤ z ∧ z ≤ 255 := fun i hi => by
    have h1 := hx i hi
    rw [hc, Nat.mul_one] at h1
    have hxi : i < xs.length := by omega
    rw [List.getElem?_eq_getElem hxi] at h1
    obtain ⟨z, hz, _, hw⟩ := DataW.trod_int he h1
    refine ⟨z, ?_, bounds_u8 hw⟩
    have hcs : cs.toList[i]? = some (.int .u8 z) := by
      have := congrArg (fun l => l[0]?) hz
      simpa [List.getElem?_take, List.getElem?_drop] using this
    rw [← Array.getElem?_toList]; exact hcs
  refine ⟨fun i => if h : i < n then Classical.choose (hget i h) else 0, ?_, fun i => ?_⟩
  · congr 1
    refine rowV_eq (by omega) fun i hi => ?_
    dsimp only
    rw [dif_pos hi]; exact (Classical.choose_spec (hget i hi)).1
  · dsimp only
    by_cases h : i < n
    · rw [dif_pos h]; exact (Classical.choose_spec (hget i h)).2
    · rw [dif_neg h]; omega
end Go.Proofs.YtadbjcpooeibkaaDoor

/- The frame of a law's row, where no package variable is laid. -/
namespace Go.Proofs.YtadbjcpooeibkaaDoor
open Go.RowKit Go.Deep Go.ChangeShapes Go.WideShapes Go.ChangeAt
theorem own : ownKnob Tryd.prog.godebug = none := by kernel_rfl
theorem laidOut : laidOutB Tryd.prog = true := by kernel_rfl
theorem bounds_u64 {a : Int} (h : (Lit.int .u64 a).wf = true) : 0 ≤ a ∧ a < 18446744073709551616 := by
  have h' : 0 ≤ a ∧ a ≤ 18446744073709551615 := by simpa [Lit.wf, IntKind.min, IntKind.max, IntKind.signed, IntKind.bits] using h
  omega
end Go.Proofs.YtadbjcpooeibkaaDoor

/- Slices that came in, opened. -/
namespace Go.Proofs.YtadbjcpooeibkaaDoor
open Go.RowKit Go.Deep Go.ChangeShapes Go.WideShapes

theorem bounds_i64 {a : Int} (h : (Lit.int .i64 a).wf = true) : -9223372036854775808 ≤ a ∧ a ≤ 9223372036854775807 := by
  simpa [Lit.wf, IntKind.min, IntKind.max, IntKind.signed, IntKind.bits] using h
/-- A SLICE, opened at every index. -/
theorem open_any {H : Type} {enc : TypeId × Value → H} {P : Program} {w : World} {base b0 : Nat} {sp : Nat → Bool} {held : Bool} {r : Reach} {t e : TypeId} {v : Value} {d : DataW H} {ps : List MemPlace} (c : Nat)
    (hu : P.underlying t = some (.slice e)) (hc : P.cellsOf e = c) (hval : Value.okWide P w r b0 t v) (hd : DataW.Trod enc P w base sp held t v d ps) :
    (v = .slice none 0 0) ∨ ∃ pb po len cap : Nat, v = .slice (some ⟨pb, po, none⟩) len cap ∧ len ≤ cap ∧ cap ≤ maxLen ∧ pb < w.heap.size ∧
      ∀ i, i < len → ∃ (cs' : List Value) (n : Nat) (D : DataW H × List MemPlace), cs'.length = c ∧ (∀ j, j < c → w.cell? ⟨pb, po + i * c + j, none⟩ = cs'[j]?) ∧ DataW.trod enc P w base sp held n e cs' = some D := by
  obtain ⟨a, len, cap, rfl⟩ := okWide_slice hu hval
  obtain ⟨fuel, hf⟩ := hd
  rcases open_slice hu hf with ⟨h0, _⟩ | ⟨a', len', cap', m, n, D, Pl, h0, _, h1, h2, h3, _, h4⟩
  · left; simpa [Value.cells] using h0
  · right
    have h0' : a = some a' ∧ len = len' ∧ cap = cap' := by simpa [Value.cells] using h0
    obtain ⟨rfl, rfl, rfl⟩ := h0'
    have hlm : len ≤ m := by rw [h3]; split <;> omega
    simp only [Value.okWide, hu, Cell.okWide, Cell.ok] at hval
    obtain ⟨_, _, _, hsp, row, cells, hsh, _⟩ := hval
    obtain ⟨pb, po, spot⟩ := a'
    obtain rfl : spot = none := hsp
    refine ⟨pb, po, len, cap, rfl, h1, h2, ?_, fun i hi => ?_⟩
    · unfold World.shape? at hsh
      cases hq : w.heap[pb]? with
      | none => rw [hq] at hsh; cases hsh
      | some o => exact (Array.getElem?_eq_some_iff.1 hq).1
    · obtain ⟨cs', g1, g2⟩ := h4 i (by omega)
      rw [hc] at g1
      obtain ⟨_, hlen, hcell⟩ := World.cells?_some g1
      refine ⟨cs', n, _, hlen, fun j hj => ?_, g2⟩
      have e0 := hcell j (by omega)
      rw [add_add, Addr.add_mid] at e0
      rw [Nat.add_assoc]; exact e0
theorem open_bytes_slice {H : Type} {enc : TypeId × Value → H} {P : Program} {w : World} {base b0 : Nat} {sp : Nat → Bool} {held : Bool} {r : Reach} {t e : TypeId} {v : Value} {d : DataW H} {ps : List MemPlace}
    (hu : P.underlying t = some (.slice e)) (he : P.underlying e = some (.int .u8)) (hc : P.cellsOf e = 1) (hval : Value.okWide P w r b0 t v) (hd : DataW.Trod enc P w base sp held t v d ps) : ∃ l, isBytes w v l := by
  rcases open_any 1 hu hc hval hd with rfl | ⟨pb, po, len, cap, rfl, h1, h2, h3, h4⟩
  · exact ⟨[], Or.inl ⟨rfl, rfl⟩⟩
  · have each : ∀ i, i < len → ∃ z : Int, w.cell? ⟨pb, po + i, none⟩ = some (.int .u8 z) ∧ 0 ≤ z ∧ z ≤ 255 := fun i hi => by
      obtain ⟨cs', n, D, g1, g2, g3⟩ := h4 i hi
      obtain ⟨z, rfl, _, hw⟩ := DataW.trod_int he g3
      have := g2 0 (by omega)
      rw [Nat.mul_one, Nat.add_zero] at this
      exact ⟨z, this, bounds_u8 hw⟩
    obtain ⟨f, hf⟩ := choose_lt each
    have hg : ∀ i, i < len → ((List.range len).map f).getD i 0 = f i := fun i hi => by
      rw [List.getD_eq_getElem?_getD, List.getElem?_map, List.getElem?_range hi]; rfl
    refine ⟨(List.range len).map f, Or.inr ⟨pb, po, cap, by simp, by simpa using h1, h2, h3, fun i hi => ?_, fun i => ?_⟩⟩
    · have hi' : i < len := by simpa using hi
      rw [hg i hi']; exact (hf i hi').1
    · by_cases hi : i < len
      · rw [hg i hi]; exact (hf i hi).2
      · rw [List.getD_eq_getElem?_getD, List.getElem?_eq_none (by simp; omega)]; exact ⟨by simp, by simp⟩
end Go.Proofs.YtadbjcpooeibkaaDoor

/- The three tables, as the row lists them; a world that holds them, for the witness. -/
namespace Go.Proofs.YtadbjcpooeibkaaDoor
set_option maxRecDepth 100000
open Go.RowKit Go.Deep Go.ChangeShapes Go.WideShapes Go.ChangeAt Go.Lib Go.Shelf

theorem u8Extra : U8Extra Tryd.prog uRen where
  n3 := by kernel_rfl
  n4 := by kernel_rfl
  y3 := by kernel_rfl
  y4 := by kernel_rfl
  c5 := by kernel_rfl
  c119 := by kernel_rfl
  c138 := by kernel_rfl
/-- the letters' table, as data. -/
def ltData : DataW Unit := .agg ((List.range 43).map fun i => .agg ([ltA i, ltB i].map fun z => .lit (.int .i64 z)))
theorem gLet : Tryd.prog.globalNamed "incipit/utf.letters" = some 0 := by kernel_rfl
theorem gLetType : (Tryd.prog.globals[0]?).map (·.type) = some 42 := by kernel_rfl
theorem cellsInt : Tryd.prog.cellsOf 3 = 1 := by kernel_rfl
theorem cellsSpan : Tryd.prog.cellsOf 41 = 2 := by kernel_rfl
theorem letters_of_reads {w : World} (h : VarReads Tryd.prog w "incipit/utf.letters" ltData) : ltT w := by
  intro i hi
  obtain ⟨g, t, cs, fuel, p, hg, hty, hvar, hd⟩ := h
  obtain rfl := Option.some.inj (gLet.symm.trans hg)
  obtain rfl := Option.some.inj (gLetType.symm.trans hty)
  obtain ⟨fuel', d, q, hdi, he⟩ := array_elem Tryd.underlying42 hd i hi
  simp only [List.getElem?_map, List.getElem?_range hi, Option.map_some, Option.some.injEq] at hdi
  subst hdi
  rw [cellsSpan] at he
  have hcs := ints_of_struct Tryd.underlying41 (fun j f hj => by
    match j, hj with
    | 0, hj => simp at hj; subst hj; exact ⟨Tryd.underlying3, rfl, cellsInt⟩
    | 1, hj => simp at hj; subst hj; exact ⟨Tryd.underlying3, rfl, cellsInt⟩
    | j + 2, hj => simp at hj) (by rw [cellsSpan]; rfl) he
  have e0 := congrArg (·[0]?) hcs
  have e1 := congrArg (·[1]?) hcs
  simp only [List.getElem?_take, List.getElem?_drop] at e0 e1
  constructor
  · rw [World.var?_cell hg hvar (i * 2), ← Array.getElem?_toList]
    simpa using e0
  · rw [World.var?_cell hg hvar (i * 2 + 1), ← Array.getElem?_toList]
    simpa using e1
theorem dFirst : Rows.laid_unicode_utf8_first = firstData := by kernel_rfl
theorem dAccept : (Rows.laid_unicode_utf8_acceptRanges : DataW Unit) = acceptData := by kernel_rfl
theorem dLetters : (Rows.laid_incipit_utf_letters : DataW Unit) = ltData := by kernel_rfl
/-- what the row's list gives. -/
theorem laid_ut {W : World} (h : laidMetH Tryd.prog Rows.utfNextRow.laid W) : utT W := by
  have h' : laidMet Tryd.prog [("unicode/utf8.acceptRanges", Rows.laid_unicode_utf8_acceptRanges), ("incipit/utf.letters", Rows.laid_incipit_utf_letters), ("unicode/utf8.first", Rows.laid_unicode_utf8_first)] W := h
  have h1 := laidMet.reads h' (n := "unicode/utf8.first") (d := Rows.laid_unicode_utf8_first) (by simp)
  have h2 := laidMet.reads h' (n := "unicode/utf8.acceptRanges") (d := Rows.laid_unicode_utf8_acceptRanges) (by simp)
  have h3 := laidMet.reads h' (n := "incipit/utf.letters") (d := Rows.laid_incipit_utf_letters) (by simp)
  rw [dFirst] at h1
  rw [dAccept] at h2
  rw [dLetters] at h3
  exact ⟨utf8Tabs_of_reads { uLays with } u8Extra h1 h2, letters_of_reads h3⟩
/-- the tables' blocks, laid. -/
def lObj : Obj → Obj
  | .cells _ t frozen => .cells lrow t frozen
  | o => o
def fObj : Obj → Obj
  | .cells _ t frozen => .cells ((List.range 256).map fun c => Value.int .u8 (firstT c)).toArray t frozen
  | o => o
def aObj : Obj → Obj
  | .cells _ t frozen => .cells ((List.range 16).flatMap fun i => [Value.int .u8 (accLo i), Value.int .u8 (accHi i)]).toArray t frozen
  | o => o
end Go.Proofs.YtadbjcpooeibkaaDoor
