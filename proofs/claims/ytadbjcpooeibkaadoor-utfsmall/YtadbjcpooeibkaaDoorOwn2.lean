import Derived.ProofKit
import Derived.OpenShut
import Derived.Test.YtadbjcpooeibkaaDoorRows
import Derived.ChangeSlices
import Derived.Deep.Slices
import Derived.Deep.Strs
import Derived.Test.YtadbjcpooeibkaaDoorCards
import Derived.Deep.DeepHandedRow
import Derived.Lib.LaidTab
import Derived.Lib.LaidU8
import Derived.Test.YtadbjcpooeibkaaDoorOwn1
set_option linter.unusedVariables false
set_option linter.unusedSimpArgs false
/- The document's Fault, May, Letter, Small. -/
namespace Go.Proofs.YtadbjcpooeibkaaDoor
set_option linter.unusedSimpArgs false
set_option linter.unusedVariables false
open Go.RowKit Go.Deep

set_option maxHeartbeats 2000000 in
set_option maxRecDepth 100000 in
theorem rfault_any (s : ByteArray) (hs : s.size ≤ maxLen) (w : World) :
    Calls Tryd.prog 13 #[.string s] w fun e w' => e = .returned (.int .i64 (fl s)) ∧ Below w.heap.size w w' := by
  have hm : (s.size : Int) ≤ 9223372036854775807 := by unfold maxLen at hs; omega
  have HS : Hid (s.size ≤ maxLen) := (show s.size ≤ maxLen from hs)
  clear hs
  go_enter Tryd.func13, Tryd.ntmps13
  go_wp2_with fail
  go_loopw [3] (fun i wr => ∃ m : Nat, i = .int .i64 (m : Int) ∧ flAt s m = fl s ∧ m ≤ s.size ∧ Below w.heap.size w wr) (fun i _ => s.size - (intOf i).toNat)
  case atStart => exact ⟨0, rfl, rfl, by omega, Below.refl _ _⟩
  case round =>
    obtain ⟨m, rfl, hf, hmm, hb⟩ := hrel
    have HB : Hid (Below w.heap.size w wr) := hb
    have X := rnext_any s HS.out ((m : Nat) : Int) (by omega) wr
    rw [nxI_nat] at X
    have h1 := nx_size s m
    have h2 := flAt_stop (s := s) (k := m)
    have h3 := flAt_step (s := s) (k := m)
    generalize nx s m = c at X h1 h2 h3
    obtain ⟨r, z⟩ := c
    simp only at X h1 h2 h3
    have HZ : Hid ((z = 0 → fl s = m) ∧ (z ≠ 0 → flAt s (m + z) = fl s)) := (show _ from ⟨fun h => by rw [← hf, h2 h], fun h => by rw [← hf, h3 h]⟩)
    have z0 : (m : Int) + (z : Int) ≤ (s.size : Int) := by omega
    clear h1 h2 h3 hb hf
    go_wp2_with fail
    refine X.mono ?_
    rintro e w1 ⟨rfl, b1⟩
    have B1 : Hid (Below w.heap.size w w1) := (show Below w.heap.size w w1 from HB.out.trans (b1.mono HB.out.size))
    clear X b1
    by_cases hz : z = 0
    · subst hz
      go_wp2
      go_ret
      exact ⟨by rw [HZ.out.1 trivial]; rfl, B1.out⟩
    · have hz' : ¬ (z : Int) = 0 := by omega
      go_wp2
      go_light
      exact ⟨⟨m + z, by rw [Int.natCast_add], HZ.out.2 hz, by omega, B1.out⟩, by simp [intOf]; omega⟩
theorem rmay_any (s : ByteArray) (hs : s.size ≤ maxLen) (w : World) :
    Calls Tryd.prog 15 #[.string s] w fun e w' => e = .returned (.bool (decide (fl s = s.size))) ∧ Below w.heap.size w w' := by
  have X := rfault_any s hs w
  have e : (decide (fl s = s.size)) = (decide ((fl s : Int) = (s.size : Int))) := decide_eq_decide.2 (by omega)
  rw [e]
  clear e
  go_enter Tryd.func15, Tryd.ntmps15
  go_wp2_with fail
  refine X.mono ?_
  rintro e w1 ⟨rfl, b1⟩
  clear X
  go_wp2
  go_ret
  exact ⟨rfl, b1⟩
theorem wpList_runU {P : Program} {ops : Array Oper} {rest : List Oper} {o : Oper} {a : Act} {w w' : World} {Q : Exit → Act → World → Prop} {v : Value} (hgd : o.guard = none) (hr : (execOp a.eval o).run P w = .ok (.value v) w') (h : wpList P ops Q rest (a.put o.dst v) w') : wpList P ops Q (o :: rest) a w :=
  wpList_plain hgd fun _ hK => wp_of_run hr (hK _ _ h)
/-- the document's row of letters. -/
def lrow : Array Value := (ltL.flatMap fun p => [Value.int .i64 p.1, Value.int .i64 p.2]).toArray
theorem flat2 : ∀ (l : List (Int × Int)) (i : Nat) (x : Int × Int), l[i]? = some x → (l.flatMap fun p => [Value.int .i64 p.1, Value.int .i64 p.2])[i * 2]? = some (.int .i64 x.1) ∧ (l.flatMap fun p => [Value.int .i64 p.1, Value.int .i64 p.2])[i * 2 + 1]? = some (.int .i64 x.2)
  | [], i, x, h => by simp at h
  | y :: t, 0, x, h => by
    simp at h
    subst h
    exact ⟨rfl, rfl⟩
  | y :: t, i + 1, x, h => by
    simp at h
    have := flat2 t i x h
    rw [List.flatMap_cons]
    rw [show (i + 1) * 2 = (i * 2) + 2 by omega, show (i * 2) + 2 + 1 = (i * 2 + 1) + 2 by omega]
    exact this
theorem lrow_cell (w : World) (i : Nat) (hi : i < 43) : (w.alloc (.cells lrow 3)).cell? ⟨w.heap.size, i * 2, none⟩ = some (.int .i64 (ltA i)) ∧ (w.alloc (.cells lrow 3)).cell? ⟨w.heap.size, i * 2 + 1, none⟩ = some (.int .i64 (ltB i)) := by
  have hl : ltL[i]? = some (ltL.getD i (0, 0)) := by
    rw [List.getD_eq_getElem?_getD, List.getElem?_eq_getElem (show i < ltL.length from hi)]; rfl
  have := flat2 ltL i _ hl
  rw [cell_of_row _ _ _ _ _ _ (blk_alloc_new w _), cell_of_row _ _ _ _ _ _ (blk_alloc_new w _)]
  exact ⟨by rw [lrow, List.getElem?_toArray]; exact this.1, by rw [lrow, List.getElem?_toArray]; exact this.2⟩
set_option maxHeartbeats 4000000 in
set_option maxRecDepth 100000 in
theorem rletter_any (c : Int) (w : World) :
    Calls Tryd.prog 19 #[.int .i64 c] w fun e w' => e = .returned (.bool (letB c)) ∧ Below w.heap.size w w' := by
  obtain ⟨w1, hw1⟩ : ∃ w1, w1 = w.alloc (.cells lrow 3) := ⟨_, rfl⟩
  have b1 : Below w.heap.size w w1 := by rw [hw1]; exact (Below.refl _ _).alloc (Nat.le_refl _) _
  obtain ⟨fb, hfb⟩ : ∃ fb, fb = w.heap.size := ⟨_, rfl⟩
  have FC : Hid (∀ i, i < 43 → w1.cell? ⟨fb, i * 2, none⟩ = some (.int .i64 (ltA i)) ∧ w1.cell? ⟨fb, i * 2 + 1, none⟩ = some (.int .i64 (ltB i))) := (show _ from fun i hi => by rw [hw1, hfb]; exact lrow_cell w i hi)
  have B1 : Hid (Below w.heap.size w w1) := (show Below w.heap.size w w1 from b1)
  clear b1
  go_enter Tryd.func19, Tryd.ntmps19
  go_upto_region 1 with fail
  go_wp2_with (first | (refine wpList_runU (v := .slice (some ⟨w.heap.size, 0, none⟩) 86 86) (w' := w1) rfl (by rw [hw1]; kernel_rfl) ?_; rw [← hfb]; clear hw1 hfb))
  go_loopw [4] (fun i wr => ∃ j : Nat, j ≤ 43 ∧ i = .int .i64 ((j : Int) * 2) ∧ (∀ t, t < j → ¬ (ltA t ≤ c ∧ c ≤ ltB t)) ∧ wr = w1) (fun i _ => 86 - (intOf i).toNat)
  case atStart => exact ⟨0, by omega, rfl, fun t ht => by omega, rfl⟩
  case round =>
    obtain ⟨j, hj, rfl, hno, hw⟩ := hrel
    obtain rfl := hw.symm
    have HN : Hid (∀ t, t < j → ¬ (ltA t ≤ c ∧ c ≤ ltB t)) := (show _ from hno)
    have j0 : (0 : Int) ≤ (j : Int) * 2 := by omega
    have j1 : ((j : Int) * 2).toNat = j * 2 := by omega
    have j2 : ((j : Int) * 2 + 1).toNat = j * 2 + 1 := by omega
    clear hno hw
    by_cases hlt : j < 43
    · have j3 : (j : Int) * 2 < 86 := by omega
      have j4 : (j : Int) * 2 + 1 < 86 := by omega
      obtain ⟨c1, c2⟩ := FC.out j hlt
      obtain ⟨a, ha⟩ : ∃ a, a = ltA j := ⟨_, rfl⟩
      obtain ⟨b, hb⟩ : ∃ b, b = ltB j := ⟨_, rfl⟩
      rw [← ha] at c1
      rw [← hb] at c2
      have HA : Hid (a = ltA j ∧ b = ltB j) := (show _ ∧ _ from ⟨ha, hb⟩)
      clear ha hb
      by_cases h1 : a ≤ c
      · by_cases h2 : c ≤ b
        · have HL : Hid (letB c = true) := (show letB c = true from (letB_is c).2 ⟨j, hlt, by rw [← HA.out.1]; exact h1, by rw [← HA.out.2]; exact h2⟩)
          go_wp2
          go_ret
          exact ⟨by rw [HL.out]; rfl, B1.out⟩
        · go_wp2
          go_light
          refine ⟨⟨j + 1, by omega, by go_num, fun t ht => ?_, trivial⟩, by simp [intOf]; omega⟩
          by_cases e : t = j
          · subst e; intro h; rw [← HA.out.2] at h; exact h2 h.2
          · exact HN.out t (by omega)
      · go_wp2
        go_light
        refine ⟨⟨j + 1, by omega, by go_num, fun t ht => ?_, trivial⟩, by simp [intOf]; omega⟩
        by_cases e : t = j
        · subst e; intro h; rw [← HA.out.1] at h; exact h1 h.1
        · exact HN.out t (by omega)
    · obtain rfl : j = 43 := by omega
      have HL : Hid (letB c = false) := (show letB c = false from by
        cases e : letB c with
        | false => rfl
        | true => obtain ⟨i, hi, h⟩ := (letB_is c).1 e; exact absurd h (HN.out i hi))
      go_wp2
      go_ret
      exact ⟨by rw [HL.out]; rfl, B1.out⟩
end Go.Proofs.YtadbjcpooeibkaaDoor

/- The document's Small. -/
namespace Go.Proofs.YtadbjcpooeibkaaDoor
set_option linter.unusedSimpArgs false
set_option linter.unusedVariables false
open Go.RowKit Go.Deep

theorem strOf_append (l m : List Int) : strOf l ++ strOf m = strOf (l ++ m) := by
  unfold strOf
  apply ByteArray.ext
  simp [ByteArray.data_append]
theorem conv_one (w : World) (x : Int) : (convert 38 9 (.slice (some ⟨w.heap.size, 0, none⟩) 1 1)).run Tryd.prog (w.alloc (.cells #[.int .u8 x] 5)) = .ok (.string (strOf [x])) (w.alloc (.cells #[.int .u8 x] 5)) :=
  conv_lit (w.alloc (.cells #[.int .u8 x] 5)) w.heap.size 1 1 (fun _ => x) (fun i hi => by
    obtain rfl : i = 0 := by omega
    rw [cell_of_row _ _ _ _ _ _ (blk_alloc_new w _)]; rfl)
theorem sBytes_bt (s : ByteArray) (k : Nat) : (sBytes s).getD k 0 = (bt s k : Int) := by
  unfold bt
  by_cases h : k < s.size
  · rw [get_ok s k h, sBytes, List.getD_eq_getElem?_getD, List.getElem?_map, Array.getElem?_toList]
    have h' : k < s.data.size := h
    rw [Array.getElem?_eq_getElem h']
    rfl
  · rw [get_out s k h, List.getD_eq_getElem?_getD, List.getElem?_eq_none (by rw [sBytes_length]; omega)]; rfl
set_option maxHeartbeats 4000000 in
set_option maxRecDepth 100000 in
theorem rsmall_any (s : ByteArray) (hs : s.size ≤ maxLen) (w : World) :
    Calls Tryd.prog 17 #[.string s] w fun e w' => e = .returned (.string (smS s)) ∧ Below w.heap.size w w' := by
  have hm : (s.size : Int) ≤ 9223372036854775807 := by unfold maxLen at hs; omega
  have hone := conv_one
  have HO : Hid _ := hone
  clear hs hone
  go_enter Tryd.func17, Tryd.ntmps17
  go_wp2_with fail
  go_loopw [3, 4] (fun z i wr => ∃ j : Nat, j ≤ s.size ∧ i = .int .i64 (j : Int) ∧ z = .string (strOf ((List.range j).map fun i => smI ((sBytes s).getD i 0))) ∧ Below w.heap.size w wr) (fun _ i _ => s.size - (intOf i).toNat)
  case atStart => exact ⟨0, by omega, rfl, rfl, Below.refl _ _⟩
  case round =>
    obtain ⟨j, hj, rfl, rfl, hb⟩ := hrel
    have HB : Hid (Below w.heap.size w wr) := (show Below w.heap.size w wr from hb)
    have j0 : (0 : Int) ≤ (j : Int) := by omega
    have hl : (strOf ((List.range j).map fun i => smI ((sBytes s).getD i 0))).size = j := by rw [strOf_size]; simp
    have hnx : ∀ y, y = smI ((sBytes s).getD j 0) → strOf ((List.range j).map fun i => smI ((sBytes s).getD i 0)) ++ strOf [y] = strOf ((List.range (j + 1)).map fun i => smI ((sBytes s).getD i 0)) := fun y hy => by
      rw [strOf_append, List.range_succ, List.map_append, hy]; rfl
    rw [sBytes_bt s j] at hnx
    clear hb
    by_cases hlt : j < s.size
    · have j1 : (j : Int) < (s.size : Int) := by omega
      have hb0 := bt_get s j hlt
      have hbl := bt_lt s j
      have hbl' : (bt s j : Int) ≤ 255 := by omega
      have hbl0 : (0 : Int) ≤ (bt s j : Int) := by omega
      have HN : Hid (∀ y, y = smI (bt s j : Int) → strOf ((List.range j).map fun i => smI ((sBytes s).getD i 0)) ++ strOf [y] = strOf ((List.range (j + 1)).map fun i => smI ((sBytes s).getD i 0))) := (show _ from hnx)
      generalize strOf ((List.range j).map fun i => smI ((sBytes s).getD i 0)) = Z at hl HN ⊢
      have hZ : (Z.size : Int) + 1 ≤ 9223372036854775807 := by omega
      obtain ⟨x, hx⟩ : ∃ x : Int, (bt s j : Int) = x := ⟨_, rfl⟩
      rw [hx] at hbl' hbl0 HN
      clear hnx hbl hl
      by_cases h1 : x ≥ 65
      · by_cases h2 : x ≤ 90
        · have c1 := HO.out wr (x + 32)
          have hsz : (strOf [x + 32]).size = 1 := rfl
          have HY : Hid (Z ++ strOf [x + 32] = strOf ((List.range (j + 1)).map fun i => smI ((sBytes s).getD i 0))) := (show Z ++ strOf [x + 32] = strOf ((List.range (j + 1)).map fun i => smI ((sBytes s).getD i 0)) from HN.out (x + 32) (by unfold smI; rw [if_pos ⟨h1, h2⟩]))
          generalize strOf [x + 32] = Y at c1 hsz HY
          have hcat : ¬ (9223372036854775807 < Z.size + Y.size) := by omega
          go_wp2
          go_light
          exact ⟨⟨j + 1, by omega, by go_num, by rw [HY.out], HB.out.alloc HB.out.size _⟩, by simp [intOf]; omega⟩
        · have c1 := HO.out wr x
          have hsz : (strOf [x]).size = 1 := rfl
          have HY : Hid (Z ++ strOf [x] = strOf ((List.range (j + 1)).map fun i => smI ((sBytes s).getD i 0))) := (show Z ++ strOf [x] = strOf ((List.range (j + 1)).map fun i => smI ((sBytes s).getD i 0)) from HN.out x (by unfold smI; rw [if_neg (by omega)]))
          generalize strOf [x] = Y at c1 hsz HY
          have hcat : ¬ (9223372036854775807 < Z.size + Y.size) := by omega
          go_wp2
          go_light
          exact ⟨⟨j + 1, by omega, by go_num, by rw [HY.out], HB.out.alloc HB.out.size _⟩, by simp [intOf]; omega⟩
      · have c1 := HO.out wr x
        have hsz : (strOf [x]).size = 1 := rfl
        have HY : Hid (Z ++ strOf [x] = strOf ((List.range (j + 1)).map fun i => smI ((sBytes s).getD i 0))) := (show Z ++ strOf [x] = strOf ((List.range (j + 1)).map fun i => smI ((sBytes s).getD i 0)) from HN.out x (by unfold smI; rw [if_neg (by omega)]))
        generalize strOf [x] = Y at c1 hsz HY
        have hcat : ¬ (9223372036854775807 < Z.size + Y.size) := by omega
        go_wp2
        go_light
        exact ⟨⟨j + 1, by omega, by go_num, by rw [HY.out], HB.out.alloc HB.out.size _⟩, by simp [intOf]; omega⟩
    · obtain rfl : j = s.size := by omega
      rw [smS_range]
      clear hnx hl
      go_wp2
      go_ret
      exact ⟨rfl, HB.out⟩
end Go.Proofs.YtadbjcpooeibkaaDoor

/- awake: the chapter's examples. -/
namespace Go.Proofs.YtadbjcpooeibkaaDoor
set_option linter.unusedSimpArgs false
set_option linter.unusedVariables false
open Go.RowKit Go.Deep

def sAe : ByteArray := { data := #[97, 195, 169] }
theorem ae0 : nxI sAe 0 = (97, 1) := by kernel_rfl
theorem ae1 : nxI sAe 1 = (233, 2) := by kernel_rfl
theorem ae2 : nxI sAe 2 = (0, 0) := by kernel_rfl
theorem ae3 : nxI sAe 3 = (0, 0) := by kernel_rfl
theorem aef : fl sAe = 3 := by kernel_rfl
theorem acf : fl { data := #[97, 195] } = 1 := by kernel_rfl
theorem edf : fl { data := #[237, 160, 128] } = 0 := by kernel_rfl
theorem let1 : letB 65 = true := by kernel_rfl
theorem let2 : letB 19968 = true := by kernel_rfl
theorem let3 : letB 32 = false := by kernel_rfl
theorem let4 : letB (-1) = false := by kernel_rfl
theorem smal : smS { data := #[65, 66, 122, 32, 195, 137] } = { data := #[97, 98, 122, 32, 195, 137] } := by kernel_rfl
/-- the program's three tables. -/
def utT (w : World) : Prop := u8T w ∧ ltT w
theorem utT.below {w w' : World} (h : utT w) (hb : Below w.heap.size w w') : utT w' := ⟨h.1.below hb, h.2.below hb⟩
set_option maxHeartbeats 4000000 in
set_option maxRecDepth 100000 in
theorem awake_any (w : World) (hT : utT w) :
    Calls Tryd.prog 9 #[] w fun e w' => e = .returned (.bool true) ∧ Below w.heap.size w w' := by
  have HT : Hid (utT w) := hT
  have X1 := next_any sAe 0 (by omega) w hT.1
  rw [ae0] at X1
  clear hT
  go_enter Tryd.func9, Tryd.ntmps9
  go_wp2_with fail
  refine X1.mono ?_
  rintro e w1 ⟨rfl, b1⟩
  have B1 : Hid (Below w.heap.size w w1) := (show Below w.heap.size w w1 from b1)
  clear b1 X1
  have X2 := next_any sAe 1 (by omega) w1 (HT.out.below B1.out).1
  rw [ae1] at X2
  go_wp2_with fail
  refine X2.mono ?_
  rintro e w2 ⟨rfl, b2⟩
  have B2 : Hid (Below w.heap.size w w2) := (show Below w.heap.size w w2 from B1.out.trans (b2.mono B1.out.size))
  clear b2 X2
  have X3 := next_any sAe 2 (by omega) w2 (HT.out.below B2.out).1
  rw [ae2] at X3
  go_wp2_with fail
  refine X3.mono ?_
  rintro e w3 ⟨rfl, b3⟩
  have B3 : Hid (Below w.heap.size w w3) := (show Below w.heap.size w w3 from B2.out.trans (b3.mono B2.out.size))
  clear b3 X3
  have X4 := next_any sAe 3 (by omega) w3 (HT.out.below B3.out).1
  rw [ae3] at X4
  go_wp2_with fail
  refine X4.mono ?_
  rintro e w4 ⟨rfl, b4⟩
  have B4 : Hid (Below w.heap.size w w4) := (show Below w.heap.size w w4 from B3.out.trans (b4.mono B3.out.size))
  clear b4 X4
  have X5 := fault_any sAe (by unfold maxLen; decide) w4 (HT.out.below B4.out).1
  rw [aef] at X5
  go_wp2_with fail
  refine X5.mono ?_
  rintro e w5 ⟨rfl, b5⟩
  have B5 : Hid (Below w.heap.size w w5) := (show Below w.heap.size w w5 from B4.out.trans (b5.mono B4.out.size))
  clear b5 X5
  have X6 := fault_any { data := #[97, 195] } (by unfold maxLen; decide) w5 (HT.out.below B5.out).1
  rw [acf] at X6
  go_wp2_with fail
  refine X6.mono ?_
  rintro e w6 ⟨rfl, b6⟩
  have B6 : Hid (Below w.heap.size w w6) := (show Below w.heap.size w w6 from B5.out.trans (b6.mono B5.out.size))
  clear b6 X6
  have X7 := fault_any { data := #[237, 160, 128] } (by unfold maxLen; decide) w6 (HT.out.below B6.out).1
  rw [edf] at X7
  go_wp2_with fail
  refine X7.mono ?_
  rintro e w7 ⟨rfl, b7⟩
  have B7 : Hid (Below w.heap.size w w7) := (show Below w.heap.size w w7 from B6.out.trans (b7.mono B6.out.size))
  clear b7 X7
  have X8 := letter_any 65 w7 (HT.out.below B7.out).2
  rw [let1] at X8
  go_wp2_with fail
  refine X8.mono ?_
  rintro e w8 ⟨rfl, b8⟩
  have B8 : Hid (Below w.heap.size w w8) := (show Below w.heap.size w w8 from B7.out.trans (b8.mono B7.out.size))
  clear b8 X8
  have X9 := letter_any 19968 w8 (HT.out.below B8.out).2
  rw [let2] at X9
  go_wp2_with fail
  refine X9.mono ?_
  rintro e w9 ⟨rfl, b9⟩
  have B9 : Hid (Below w.heap.size w w9) := (show Below w.heap.size w w9 from B8.out.trans (b9.mono B8.out.size))
  clear b9 X9
  have X10 := letter_any 32 w9 (HT.out.below B9.out).2
  rw [let3] at X10
  go_wp2_with fail
  refine X10.mono ?_
  rintro e w10 ⟨rfl, b10⟩
  have B10 : Hid (Below w.heap.size w w10) := (show Below w.heap.size w w10 from B9.out.trans (b10.mono B9.out.size))
  clear b10 X10
  have X11 := letter_any (-1) w10 (HT.out.below B10.out).2
  rw [let4] at X11
  go_wp2_with fail
  refine X11.mono ?_
  rintro e w11 ⟨rfl, b11⟩
  have B11 : Hid (Below w.heap.size w w11) := (show Below w.heap.size w w11 from B10.out.trans (b11.mono B10.out.size))
  clear b11 X11
  have X12 := small_any { data := #[65, 66, 122, 32, 195, 137] } (by unfold maxLen; decide) w11
  rw [smal] at X12
  go_wp2_with fail
  refine X12.mono ?_
  rintro e w12 ⟨rfl, b12⟩
  have B12 : Hid (Below w.heap.size w w12) := (show Below w.heap.size w w12 from B11.out.trans (b12.mono B11.out.size))
  clear b12 X12
  go_wp2
  go_ret
  exact ⟨rfl, B12.out⟩
end Go.Proofs.YtadbjcpooeibkaaDoor

/- Layer 8, pure: what is small; one behind the other; a beginning. -/
namespace Go.Proofs.YtadbjcpooeibkaaDoor
set_option linter.unusedVariables false
open Go.RowKit Go.Deep

def smN (b : Nat) : Nat := if 65 ≤ b ∧ b ≤ 90 then b + 32 else b
theorem smI_nat (b : Nat) : smI (b : Int) = (smN b : Int) := by unfold smI smN; split <;> split <;> omega
theorem smS_size (s : ByteArray) : (smS s).size = s.size := by unfold smS; rw [strOf_size, List.length_map, sBytes_length]
theorem smS_sb (s : ByteArray) : sBytes (smS s) = (sBytes s).map smI := by
  unfold smS
  refine sBytes_strOf _ fun i => ?_
  rw [List.getD_eq_getElem?_getD, List.getElem?_map]
  cases h : (sBytes s)[i]? with
  | none => exact ⟨by simp, by simp⟩
  | some x =>
    have := sBytes_byte s i
    rw [List.getD_eq_getElem?_getD, h] at this
    exact smI_byte this
theorem bt_smS (s : ByteArray) (k : Nat) : bt (smS s) k = smN (bt s k) := by
  have h : ((bt (smS s) k : Nat) : Int) = (smN (bt s k) : Int) := by
    rw [← sBytes_bt, smS_sb, ← smI_nat, ← sBytes_bt, List.getD_eq_getElem?_getD, List.getD_eq_getElem?_getD, List.getElem?_map]
    cases (sBytes s)[k]? with
    | none => rfl
    | some x => rfl
  omega
theorem smS_again (s : ByteArray) : smS (smS s) = smS s := by
  show strOf ((sBytes (smS s)).map smI) = strOf ((sBytes s).map smI)
  rw [smS_sb, List.map_map]
  congr 1
  apply List.map_congr_left
  intro x _
  show smI (smI x) = smI x
  unfold smI
  repeat' split
  all_goals omega
set_option maxHeartbeats 4000000 in
theorem nxN_small (n b0 b1 b2 b3 : Nat) : (nxN n (smN b0) (smN b1) (smN b2) (smN b3)).2 = (nxN n b0 b1 b2 b3).2 := by
  have e : ∀ b, smN b = b ∨ (b < 128 ∧ smN b < 128) := fun b => by unfold smN; split <;> omega
  rw [nxN_is, nxN_is]
  by_cases h0 : b0 < 128
  · have : smN b0 < 128 := by have := e b0; omega
    by_cases hn : n = 0
    · rw [if_pos hn, if_pos hn]
    · rw [if_neg hn, if_pos this, if_neg hn, if_pos h0]
  · have e0 : smN b0 = b0 := by have := e b0; omega
    rw [e0]
    rcases e b1 with e1 | ⟨e1, f1⟩
    · rw [e1]
      rcases e b2 with e2 | ⟨e2, f2⟩
      · rw [e2]
        rcases e b3 with e3 | ⟨e3, f3⟩
        · rw [e3]
        · repeat' split
          all_goals first | rfl | (exfalso; omega)
      · repeat' split
        all_goals first | rfl | (exfalso; omega)
    · repeat' split
      all_goals first | rfl | (exfalso; omega)
theorem nx_small (s : ByteArray) (k : Nat) : (nx (smS s) k).2 = (nx s k).2 := by
  unfold nx
  rw [smS_size, bt_smS, bt_smS, bt_smS, bt_smS]
  exact nxN_small _ _ _ _ _
theorem fl_small (s : ByteArray) : fl (smS s) = fl s := by
  have h : ∀ f k, flF (smS s) f k = flF s f k := by
    intro f
    induction f with
    | zero => intro k; rfl
    | succ f ih => intro k; rw [flF, flF, nx_small, ih]
  unfold fl flAt
  rw [smS_size]; exact h _ _
/-- as far as the bytes are alike. -/
theorem nx_alike {s t : ByteArray} {k k' : Nat} (hz : 0 < (nx s k).2) (hn : k' + (nx s k).2 ≤ t.size) (hb : ∀ i, i < (nx s k).2 → bt t (k' + i) = bt s (k + i)) : nx t k' = nx s k := by
  have h : nx s k = ((nx s k).1, (nx s k).2) := rfl
  unfold nx at h ⊢
  rw [h]
  refine nxN_same h hz (by have : (nx s k).2 = (nxN (s.size - k) (bt s k) (bt s (k + 1)) (bt s (k + 2)) (bt s (k + 3))).2 := rfl; omega) ?_ ?_ ?_ ?_
  · exact hb 0 hz
  · exact fun h => hb 1 h
  · exact fun h => hb 2 h
  · exact fun h => hb 3 h
theorem nx_cut {s t : ByteArray} {k : Nat} (hk : k ≤ t.size) (hn : t.size < k + (nx s k).2) (hb : k < t.size → bt t k = bt s k) : nx t k = (0, 0) := by
  have h : nx s k = ((nx s k).1, (nx s k).2) := rfl
  have hz : (nx s k).2 = (nxN (s.size - k) (bt s k) (bt s (k + 1)) (bt s (k + 2)) (bt s (k + 3))).2 := rfl
  unfold nx at h ⊢
  exact nxN_short h (by omega) (fun h => hb (by omega))
/-- the way through what is alike. -/
theorem flAt_alike {s t : ByteArray} : ∀ d k, s.size ≤ k + d → flAt s k ≤ t.size → (∀ i, i < flAt s k → bt t i = bt s i) → flAt t k = flAt t (flAt s k) := by
  intro d
  induction d using Nat.strongRecOn with
  | ind d ih =>
    intro k hd hm hb
    by_cases e : (nx s k).2 = 0
    · rw [flAt_stop e]
    · have hstep := flAt_step e
      have hle : k + (nx s k).2 ≤ flAt s k := by
        rw [hstep]
        rcases nx_size s k with h | h
        · exact (flAt_le s (s.size - (k + (nx s k).2)) (k + (nx s k).2) (by omega)).1
        · exact absurd h e
      have hnx : nx t k = nx s k := nx_alike (by omega) (by omega) (fun i hi => hb (k + i) (by omega))
      rw [flAt_step (s := t) (by rw [hnx]; exact e), hnx]
      rw [hstep]
      rcases nx_size s k with h | h
      · by_cases hd0 : d = 0
        · omega
        · exact ih (d - 1) (by omega) (k + (nx s k).2) (by omega) (by rw [← hstep]; exact hm) (by rw [← hstep]; exact hb)
      · exact absurd h e
theorem bt_head (s : ByteArray) (m i : Nat) (hi : i < m) (hm : m ≤ s.size) : bt (s.extract 0 m) i = bt s i := by
  unfold bt
  have h1 : i < (s.extract 0 m).size := by rw [ByteArray.size_extract]; omega
  rw [get_ok _ _ h1, get_ok _ _ (by omega), ByteArray.getElem_extract]
  simp
theorem head_size (s : ByteArray) (m : Nat) (hm : m ≤ s.size) : (s.extract 0 m).size = m := by rw [ByteArray.size_extract]; omega
/-- what is right is right by itself. -/
theorem fl_head (s : ByteArray) : fl (s.extract 0 (fl s)) = fl s := by
  have hle := fl_le s
  unfold fl at hle ⊢
  have h := flAt_alike (s := s) (t := s.extract 0 (flAt s 0)) s.size 0 (by omega) (by rw [head_size s _ hle]; exact Nat.le_refl _) (fun i hi => bt_head s _ i hi hle)
  rw [h]
  exact flAt_stop (by rw [nx_end (by rw [head_size s _ hle]; exact Nat.le_refl _)])
theorem bt_app_l (a b : ByteArray) (i : Nat) (h : i < a.size) : bt (a ++ b) i = bt a i := by
  unfold bt
  rw [get_ok _ _ (by rw [ByteArray.size_append]; omega), get_ok _ _ h, ByteArray.getElem_append_left h]
theorem bt_app_r (a b : ByteArray) (i : Nat) : bt (a ++ b) (a.size + i) = bt b i := by
  unfold bt
  by_cases h : i < b.size
  · rw [get_ok _ _ (by rw [ByteArray.size_append]; omega), get_ok _ _ h, ByteArray.getElem_append_right (by omega)]
    simp
  · rw [get_out _ _ (by rw [ByteArray.size_append]; omega), get_out _ _ h]
theorem nx_app_r (a b : ByteArray) (k : Nat) : nx (a ++ b) (a.size + k) = nx b k := by
  unfold nx
  rw [Nat.add_assoc, Nat.add_assoc, Nat.add_assoc, bt_app_r, bt_app_r, bt_app_r, bt_app_r, ByteArray.size_append, show a.size + b.size - (a.size + k) = b.size - k by omega]
theorem flAt_app_r (a b : ByteArray) : ∀ d k, b.size ≤ k + d → flAt (a ++ b) (a.size + k) = a.size + flAt b k := by
  intro d
  induction d using Nat.strongRecOn with
  | ind d ih =>
    intro k hd
    by_cases e : (nx b k).2 = 0
    · rw [flAt_stop e, flAt_stop (by rw [nx_app_r]; exact e)]
    · rw [flAt_step e, flAt_step (s := a ++ b) (by rw [nx_app_r]; exact e), nx_app_r, Nat.add_assoc]
      by_cases hd0 : d = 0
      · rw [nx_end (by omega)] at e; exact absurd rfl e
      · exact ih (d - 1) (by omega) _ (by omega)
/-- one behind the other. -/
theorem fl_joins (s b : ByteArray) : fl (s.extract 0 (fl s) ++ b) = fl s + fl b := by
  have hle := fl_le s
  have hs := head_size s _ hle
  have h := flAt_alike (s := s) (t := s.extract 0 (fl s) ++ b) s.size 0 (by omega) (by rw [ByteArray.size_append, hs]; show fl s ≤ _; omega) (fun i hi => by
    have hi' : i < fl s := hi
    rw [bt_app_l _ _ _ (by rw [hs]; exact hi'), bt_head s _ i hi' hle])
  show flAt _ 0 = _
  rw [h]
  show flAt _ (fl s) = _
  have := flAt_app_r (s.extract 0 (fl s)) b b.size 0 (by omega)
  rw [hs, Nat.add_zero] at this
  rw [this]; rfl
end Go.Proofs.YtadbjcpooeibkaaDoor

/- UtfSmall: its walk. -/
namespace Go.Proofs.YtadbjcpooeibkaaDoor
set_option linter.unusedSimpArgs false
set_option linter.unusedVariables false
open Go.RowKit Go.Deep

set_option maxHeartbeats 4000000 in
set_option maxRecDepth 100000 in
theorem utfSmall_any (s : ByteArray) (w : World) (hT : utT w) :
    Calls Tryd.prog 8 #[.string s] w fun e w' => e = .returned (.bool true) ∧ Below w.heap.size w w' := by
  have HT : Hid (utT w) := hT
  by_cases ha : (s.size : Int) > 2000
  · have X := awake_any w hT
    clear hT
    go_enter Tryd.func8, Tryd.ntmps8
    go_wp2_with fail
    refine X.mono ?_
    rintro e w1 ⟨rfl, b1⟩
    clear X
    go_wp2
    go_ret
    exact ⟨rfl, b1⟩
  have ha2 : (s.size : Int) ≤ 2000 := by omega
  have B0 : Hid (Below w.heap.size w w) := (show Below w.heap.size w w from Below.refl _ _)
  have HS : Hid (s.size ≤ maxLen) := (show s.size ≤ maxLen from by unfold maxLen; omega)
  have X1 := small_any s HS.out w
  obtain ⟨t, ht⟩ : ∃ t, t = smS s := ⟨_, rfl⟩
  rw [← ht] at X1
  have hts : t.size = s.size := by rw [ht]; exact smS_size s
  have HTS : Hid (t.size ≤ maxLen) := (show t.size ≤ maxLen from by rw [hts]; exact HS.out)
  have H1 : Hid (smS t = t) := (show smS t = t from by rw [ht]; exact smS_again s)
  have H2 : Hid (fl t = fl s) := (show fl t = fl s from by rw [ht]; exact fl_small s)
  have H3 : Hid (∀ k, bt t k = smN (bt s k)) := (show _ from fun k => by rw [ht]; exact bt_smS s k)
  have hts2 : (t.size : Int) = (s.size : Int) := by omega
  have hte : (t.toList == t.toList) = true := by simp
  clear hT ht
  go_enter Tryd.func8, Tryd.ntmps8
  go_wp2_with fail
  refine X1.mono ?_
  rintro e w1 ⟨rfl, b1⟩
  have B1 : Hid (Below w.heap.size w w1) := (show Below w.heap.size w w1 from B0.out.trans (b1.mono B0.out.size))
  clear b1 X1
  have X2 := small_any t HTS.out w1
  rw [H1.out] at X2
  go_wp2_with fail
  refine X2.mono ?_
  rintro e w2 ⟨rfl, b2⟩
  have B2 : Hid (Below w.heap.size w w2) := (show Below w.heap.size w w2 from B1.out.trans (b2.mono B1.out.size))
  clear b2 X2
  have X3 := fault_any t HTS.out w2 (HT.out.below B2.out).1
  rw [H2.out] at X3
  obtain ⟨z, hz⟩ : ∃ z : Int, (fl s : Int) = z := ⟨_, rfl⟩
  rw [hz] at X3
  go_wp2_with fail
  refine X3.mono ?_
  rintro e w3 ⟨rfl, b3⟩
  have B3 : Hid (Below w.heap.size w w3) := (show Below w.heap.size w w3 from B2.out.trans (b3.mono B2.out.size))
  clear b3 X3
  have X4 := fault_any s HS.out w3 (HT.out.below B3.out).1
  rw [hz] at X4
  clear hz
  go_wp2_with fail
  refine X4.mono ?_
  rintro e w4 ⟨rfl, b4⟩
  have B4 : Hid (Below w.heap.size w w4) := (show Below w.heap.size w w4 from B3.out.trans (b4.mono B3.out.size))
  clear b4 X4
  go_wp2_with fail
  go_loopw [4] (fun i wr => ∃ j : Nat, j ≤ s.size ∧ i = .int .i64 (j : Int) ∧ Below w.heap.size w wr) (fun i _ => s.size - (intOf i).toNat)
  case atStart => exact ⟨0, by omega, rfl, B4.out⟩
  case round =>
    obtain ⟨j, hj, rfl, hb⟩ := hrel
    have HB : Hid (Below w.heap.size w wr) := (show Below w.heap.size w wr from hb)
    have hTT := HT.out.below hb
    have j0 : (0 : Int) ≤ (j : Int) := by omega
    clear hb
    by_cases hlt : j < s.size
    · have j1 : (j : Int) < (s.size : Int) := by omega
      have j2 : j < t.size := by omega
      have hb0 := bt_get s j hlt
      have hb1 := bt_get t j j2
      have hbl := bt_lt s j
      rw [H3.out j] at hb1
      generalize bt s j = x at hb0 hb1 hbl
      obtain ⟨y, hy⟩ : ∃ y, y = smN x := ⟨_, rfl⟩
      rw [← hy] at hb1
      clear hTT
      by_cases c1 : x < 65
      · have e : y = x := by rw [hy]; unfold smN; rw [if_neg (by omega)]
        clear hy
        subst e
        have d1 : decide ((y : Int) ≥ 65) = false := decide_eq_false (by omega)
        go_upto_region 9 with fail
        go_region
        go_wp2
        go_light
        exact ⟨⟨j + 1, by omega, by go_num, HB.out.drew⟩, by simp [intOf]; omega⟩
      by_cases c2 : x ≤ 90
      · have e : y = x + 32 := by rw [hy]; unfold smN; rw [if_pos (by omega)]
        have d1 : decide (65 ≤ (y : Int)) = true := decide_eq_true (by omega)
        have d2 : decide ((y : Int) ≤ 90) = false := decide_eq_false (by omega)
        have d3 : ¬ y = x := by omega
        have d4 : decide ((x : Int) < 65) = false := decide_eq_false (by omega)
        have d5 : decide (90 < (x : Int)) = false := decide_eq_false (by omega)
        have d6 : (65 : Int) ≤ (y : Int) := by omega
        have d7 : ¬ (y : Int) ≤ 90 := by omega
        have d8 : ¬ (x : Int) < 65 := by omega
        have d9 : ¬ (90 : Int) < (x : Int) := by omega
        have hyl : (y : Int) < 256 := by omega
        clear hy e
        go_upto_region 9 with fail
        refine wp_region_noPanic ?_
        refine wp_region_held_drew (S := fun w' => Below w.heap.size w w') (by kernel_rfl) HB.out.drew (fun hHeld => ?_)
        refine take_op (i := 0) (v := ?vs0) rfl (by kernel_rfl) (by kernel_rfl) (by kernel_rfl) (fun _ _ _ h => h) rfl hHeld ?ys0 ?rs0
        case ys0 => (intro wz hz; go_simp; first | done | with_reducible rfl)
        try simp only [Act.put, List.setIfInBounds_toArray, List.set_cons_zero, List.set_cons_succ]
        refine take_op (i := 1) (v := ?vs1) rfl (by kernel_rfl) (by kernel_rfl) (by kernel_rfl) (fun _ _ _ h => h) rfl hHeld ?ys1 ?rs1
        case ys1 => (intro wz hz; go_simp; first | done | with_reducible rfl)
        try simp only [Act.put, List.setIfInBounds_toArray, List.set_cons_zero, List.set_cons_succ]
        refine take_op (i := 2) (v := ?vs2) rfl (by kernel_rfl) (by kernel_rfl) (by kernel_rfl) (fun _ _ _ h => h) rfl hHeld ?ys2 ?rs2
        case ys2 => (intro wz hz; go_simp; first | done | with_reducible rfl)
        try simp only [Act.put, List.setIfInBounds_toArray, List.set_cons_zero, List.set_cons_succ]
        refine take_op (i := 3) (v := .bool true) rfl (by kernel_rfl) (by kernel_rfl) (by kernel_rfl) (fun _ _ _ h => h) rfl hHeld ?ys3 ?_
        case ys3 => (intro wz hz; go_simp; first | done | with_reducible rfl | omega | (intro h; exact d3 (by omega)) | (simp; omega))
        try simp only [Act.put, List.setIfInBounds_toArray, List.set_cons_zero, List.set_cons_succ]
        refine take_op (i := 4) (v := ?vs4) rfl (by kernel_rfl) (by kernel_rfl) (by kernel_rfl) (fun _ _ _ h => h) rfl hHeld ?ys4 ?rs4
        case ys4 => (intro wz hz; go_simp; first | done | with_reducible rfl)
        try simp only [Act.put, List.setIfInBounds_toArray, List.set_cons_zero, List.set_cons_succ]
        refine take_op (i := 5) (v := ?vs5) rfl (by kernel_rfl) (by kernel_rfl) (by kernel_rfl) (fun _ _ _ h => h) rfl hHeld ?ys5 ?rs5
        case ys5 => (intro wz hz; go_simp; first | done | with_reducible rfl)
        try simp only [Act.put, List.setIfInBounds_toArray, List.set_cons_zero, List.set_cons_succ]
        refine take_op (i := 6) (v := ?vs6) rfl (by kernel_rfl) (by kernel_rfl) (by kernel_rfl) (fun _ _ _ h => h) rfl hHeld ?ys6 ?rs6
        case ys6 => (intro wz hz; go_simp; first | done | with_reducible rfl)
        try simp only [Act.put, List.setIfInBounds_toArray, List.set_cons_zero, List.set_cons_succ]
        refine take_op (i := 7) (v := ?vs7) rfl (by kernel_rfl) (by kernel_rfl) (by kernel_rfl) (fun _ _ _ h => h) rfl hHeld ?ys7 ?rs7
        case ys7 => (intro wz hz; go_simp; first | done | with_reducible rfl)
        try simp only [Act.put, List.setIfInBounds_toArray, List.set_cons_zero, List.set_cons_succ]
        refine take_op (i := 8) (v := .bool false) rfl (by kernel_rfl) (by kernel_rfl) (by kernel_rfl) (fun _ _ _ h => h) rfl hHeld ?ys8 ?_
        case ys8 => (intro wz hz; go_simp; first | done | with_reducible rfl | omega | (intro h; exact d3 (by omega)) | (simp; omega))
        try simp only [Act.put, List.setIfInBounds_toArray, List.set_cons_zero, List.set_cons_succ]
        refine take_op (i := 9) (v := .bool false) rfl (by kernel_rfl) (by kernel_rfl) (by kernel_rfl) (fun _ _ _ h => h) rfl hHeld ?ys9 ?_
        case ys9 => (intro wz hz; go_simp; first | done | with_reducible rfl | omega | (intro h; exact d3 (by omega)) | (simp; omega))
        try simp only [Act.put, List.setIfInBounds_toArray, List.set_cons_zero, List.set_cons_succ]
        refine take_op (i := 10) (v := ?vs10) rfl (by kernel_rfl) (by kernel_rfl) (by kernel_rfl) (fun _ _ _ h => h) rfl hHeld ?ys10 ?rs10
        case ys10 => (intro wz hz; go_simp; first | done | with_reducible rfl)
        try simp only [Act.put, List.setIfInBounds_toArray, List.set_cons_zero, List.set_cons_succ]
        refine take_op (i := 11) (v := ?vs11) rfl (by kernel_rfl) (by kernel_rfl) (by kernel_rfl) (fun _ _ _ h => h) rfl hHeld ?ys11 ?rs11
        case ys11 => (intro wz hz; go_simp; first | done | with_reducible rfl)
        try simp only [Act.put, List.setIfInBounds_toArray, List.set_cons_zero, List.set_cons_succ]
        refine take_op (i := 12) (v := ?vs12) rfl (by kernel_rfl) (by kernel_rfl) (by kernel_rfl) (fun _ _ _ h => h) rfl hHeld ?ys12 ?rs12
        case ys12 => (intro wz hz; go_simp; first | done | with_reducible rfl)
        try simp only [Act.put, List.setIfInBounds_toArray, List.set_cons_zero, List.set_cons_succ]
        refine take_op (i := 13) (v := ?vs13) rfl (by kernel_rfl) (by kernel_rfl) (by kernel_rfl) (fun _ _ _ h => h) rfl hHeld ?ys13 ?rs13
        case ys13 => (intro wz hz; go_simp; first | done | with_reducible rfl)
        try simp only [Act.put, List.setIfInBounds_toArray, List.set_cons_zero, List.set_cons_succ]
        refine take_op (i := 14) (v := ?vs14) rfl (by kernel_rfl) (by kernel_rfl) (by kernel_rfl) (fun _ _ _ h => h) rfl hHeld ?ys14 ?rs14
        case ys14 => (intro wz hz; go_simp; first | done | with_reducible rfl)
        try simp only [Act.put, List.setIfInBounds_toArray, List.set_cons_zero, List.set_cons_succ]
        refine take_op (i := 15) (v := ?vs15) rfl (by kernel_rfl) (by kernel_rfl) (by kernel_rfl) (fun _ _ _ h => h) rfl hHeld ?ys15 ?rs15
        case ys15 => (intro wz hz; go_simp; first | done | with_reducible rfl)
        try simp only [Act.put, List.setIfInBounds_toArray, List.set_cons_zero, List.set_cons_succ]
        refine take_op (i := 16) (v := ?vs16) rfl (by kernel_rfl) (by kernel_rfl) (by kernel_rfl) (fun _ _ _ h => h) rfl hHeld ?ys16 ?rs16
        case ys16 => (intro wz hz; go_simp; first | done | with_reducible rfl)
        try simp only [Act.put, List.setIfInBounds_toArray, List.set_cons_zero, List.set_cons_succ]
        refine take_op (i := 17) (v := .bool true) rfl (by kernel_rfl) (by kernel_rfl) (by kernel_rfl) (fun _ _ _ h => h) rfl hHeld ?ys17 ?_
        case ys17 => (intro wz hz; go_simp; first | done | with_reducible rfl | omega | (intro h; exact d3 (by omega)) | (simp; omega))
        try simp only [Act.put, List.setIfInBounds_toArray, List.set_cons_zero, List.set_cons_succ]
        refine take_op (i := 18) (v := ?vs18) rfl (by kernel_rfl) (by kernel_rfl) (by kernel_rfl) (fun _ _ _ h => h) rfl hHeld ?ys18 ?rs18
        case ys18 => (intro wz hz; go_simp; first | done | with_reducible rfl)
        try simp only [Act.put, List.setIfInBounds_toArray, List.set_cons_zero, List.set_cons_succ]
        refine take_op (i := 19) (v := ?vs19) rfl (by kernel_rfl) (by kernel_rfl) (by kernel_rfl) (fun _ _ _ h => h) rfl hHeld ?ys19 ?rs19
        case ys19 => (intro wz hz; go_simp; first | done | with_reducible rfl)
        try simp only [Act.put, List.setIfInBounds_toArray, List.set_cons_zero, List.set_cons_succ]
        refine take_op (i := 20) (v := ?vs20) rfl (by kernel_rfl) (by kernel_rfl) (by kernel_rfl) (fun _ _ _ h => h) rfl hHeld ?ys20 ?rs20
        case ys20 => (intro wz hz; go_simp; first | done | with_reducible rfl)
        try simp only [Act.put, List.setIfInBounds_toArray, List.set_cons_zero, List.set_cons_succ]
        refine take_op (i := 21) (v := ?vs21) rfl (by kernel_rfl) (by kernel_rfl) (by kernel_rfl) (fun _ _ _ h => h) rfl hHeld ?ys21 ?rs21
        case ys21 => (intro wz hz; go_simp; first | done | with_reducible rfl)
        try simp only [Act.put, List.setIfInBounds_toArray, List.set_cons_zero, List.set_cons_succ]
        refine take_op (i := 22) (v := .bool false) rfl (by kernel_rfl) (by kernel_rfl) (by kernel_rfl) (fun _ _ _ h => h) rfl hHeld ?ys22 ?_
        case ys22 => (intro wz hz; go_simp; first | done | with_reducible rfl | omega | (intro h; exact d3 (by omega)) | (simp; omega))
        try simp only [Act.put, List.setIfInBounds_toArray, List.set_cons_zero, List.set_cons_succ]
        refine take_op (i := 23) (v := ?vs23) rfl (by kernel_rfl) (by kernel_rfl) (by kernel_rfl) (fun _ _ _ h => h) rfl hHeld ?ys23 ?rs23
        case ys23 => (intro wz hz; go_simp; first | done | with_reducible rfl)
        try simp only [Act.put, List.setIfInBounds_toArray, List.set_cons_zero, List.set_cons_succ]
        refine take_op (i := 24) (v := ?vs24) rfl (by kernel_rfl) (by kernel_rfl) (by kernel_rfl) (fun _ _ _ h => h) rfl hHeld ?ys24 ?rs24
        case ys24 => (intro wz hz; go_simp; first | done | with_reducible rfl)
        try simp only [Act.put, List.setIfInBounds_toArray, List.set_cons_zero, List.set_cons_succ]
        refine take_op (i := 25) (v := ?vs25) rfl (by kernel_rfl) (by kernel_rfl) (by kernel_rfl) (fun _ _ _ h => h) rfl hHeld ?ys25 ?rs25
        case ys25 => (intro wz hz; go_simp; first | done | with_reducible rfl)
        try simp only [Act.put, List.setIfInBounds_toArray, List.set_cons_zero, List.set_cons_succ]
        refine take_op (i := 26) (v := ?vs26) rfl (by kernel_rfl) (by kernel_rfl) (by kernel_rfl) (fun _ _ _ h => h) rfl hHeld ?ys26 ?rs26
        case ys26 => (intro wz hz; go_simp; first | done | with_reducible rfl)
        try simp only [Act.put, List.setIfInBounds_toArray, List.set_cons_zero, List.set_cons_succ]
        refine take_op (i := 27) (v := .bool false) rfl (by kernel_rfl) (by kernel_rfl) (by kernel_rfl) (fun _ _ _ h => h) rfl hHeld ?ys27 ?_
        case ys27 => (intro wz hz; go_simp; first | done | with_reducible rfl | omega | (intro h; exact d3 (by omega)) | (simp; omega))
        try simp only [Act.put, List.setIfInBounds_toArray, List.set_cons_zero, List.set_cons_succ]
        refine take_op (i := 28) (v := .bool false) rfl (by kernel_rfl) (by kernel_rfl) (by kernel_rfl) (fun _ _ _ h => h) rfl hHeld ?ys28 ?_
        case ys28 => (intro wz hz; go_simp; first | done | with_reducible rfl | omega | (intro h; exact d3 (by omega)) | (simp; omega))
        try simp only [Act.put, List.setIfInBounds_toArray, List.set_cons_zero, List.set_cons_succ]
        refine take_op (i := 29) (v := .bool false) rfl (by kernel_rfl) (by kernel_rfl) (by kernel_rfl) (fun _ _ _ h => h) rfl hHeld ?ys29 ?_
        case ys29 => (intro wz hz; go_simp; first | done | with_reducible rfl | omega | (intro h; exact d3 (by omega)) | (simp; omega))
        try simp only [Act.put, List.setIfInBounds_toArray, List.set_cons_zero, List.set_cons_succ]
        refine take_op (i := 30) (v := .bool false) rfl (by kernel_rfl) (by kernel_rfl) (by kernel_rfl) (fun _ _ _ h => h) rfl hHeld ?ys30 ?_
        case ys30 => (intro wz hz; go_simp; first | done | with_reducible rfl | omega | (intro h; exact d3 (by omega)) | (simp; omega))
        try simp only [Act.put, List.setIfInBounds_toArray, List.set_cons_zero, List.set_cons_succ]
        refine wpAnyH_done (by kernel_rfl) ?_ _
        refine NoPanic.normal ?_
        have HBE : Hid (Below w.heap.size w wr.drew) := (show Below w.heap.size w wr.drew from HB.out.drew)
        clear hHeld
        go_wp2
        go_light
        exact ⟨⟨j + 1, by omega, by go_num, HBE.out⟩, by simp [intOf]; omega⟩
      · have e : y = x := by rw [hy]; unfold smN; rw [if_neg (by omega)]
        clear hy
        subst e
        have d1 : decide ((y : Int) ≥ 65) = true := decide_eq_true (by omega)
        have d2 : decide ((y : Int) ≤ 90) = false := decide_eq_false (by omega)
        go_upto_region 9 with fail
        go_region
        go_wp2
        go_light
        exact ⟨⟨j + 1, by omega, by go_num, HB.out.drew⟩, by simp [intOf]; omega⟩
    · have X5 := awake_any wr hTT
      clear hTT
      go_wp2_with fail
      refine X5.mono ?_
      rintro e w5 ⟨rfl, b5⟩
      clear X5
      go_wp2
      go_ret
      exact ⟨rfl, HB.out.trans (b5.mono HB.out.size)⟩
end Go.Proofs.YtadbjcpooeibkaaDoor

/- The frame of a law's row: what was read reads behind the call as it did, where nothing old has turned. -/
namespace Go.Proofs.YtadbjcpooeibkaaDoor
open Go.RowKit Go.Deep Go.ChangeShapes Go.WideShapes Go.ChangeAt

theorem below_trodAll {H : Type} {enc : TypeId × Value → H} {P : Program} (hl : laidOutB P = true) {W W' : World} (hb : Below W.heap.size W W') :
    ∀ {ts : List TypeId} {vs : List Value} {ds : List (DataW H)} {ps : List MemPlace}, (∀ t ∈ ts, P.readableRec t = true ∧ t < P.types.size) → DataW.TrodAll enc P W 0 (fun _ => true) true ts vs ds ps → (∀ x ∈ ps, x.block < W.heap.size) →
      DataW.TrodAll enc P W' 0 (fun b => decide (b < W.heap.size)) true ts vs ds ps
  | [], [], [], _, _, h, _ => h
  | t :: ts, v :: vs, d :: ds, ps, hts, h, hlt => by
    obtain ⟨p, q, h1, h2, e⟩ := h
    subst e
    exact ⟨p, q, Below.trod hl (hts t List.mem_cons_self).1 (hts t List.mem_cons_self).2 h1 hb (fun x hx => hlt x (List.mem_append_left _ hx)), below_trodAll hl hb (fun u hu => hts u (List.mem_cons_of_mem _ hu)) h2 (fun x hx => hlt x (List.mem_append_right _ hx)), rfl⟩

/-- WHAT A LAW's ROW ASKS BEHIND THE CALL, where the answer is true and nothing old has turned. -/
theorem law_post {H : Type} {enc : TypeId × Value → H} {P : Program} {spec : ChangeSpec} {f : Func} {W W' : World} {args : Array Value} {ds gs : List (DataW H)} {before : List MemPlace} {tb : TypeId}
    (hl : laidOutB P = true) (hts : ∀ t ∈ f.params.toList, P.readableRec t = true ∧ t < P.types.size) (hvars : spec.vars = []) (hres : f.resultTypes = #[tb]) (hbool : P.underlying tb = some .bool)
    (hspec : spec.fn H (ds ++ gs) = { results := [.lit (.bool true)], args := ds })
    (hW : DataW.Whole enc P f.params.toList spec.vars false W args.toList ds gs before) (hb : Below W.heap.size W W') : spec.post enc P f false true false false W args (.bool true) W' := by
  have hW' := hW
  have hlt := hW.lt
  obtain ⟨p, q, hA, hV, rfl, hfz, hnd⟩ := hW
  rw [hvars] at hV
  obtain ⟨rfl, rfl⟩ := trodVars_none hV
  refine ⟨ds, [], p ++ [], [], p, [], hW', ?_, ?_, ?_, ?_, fun h => by cases h⟩
  · rw [hspec, hres]
    exact trodAll_cons_mk (shut_bool hbool _) trodAll_mk0
  · rw [hspec]
    exact below_trodAll hl hb hts hA (fun x hx => hlt x (List.mem_append_left _ hx))
  · rw [hspec, hvars]; exact hV
  · exact hb.frame _

/-- AN ARRAY OF BYTES, opened. -/
theorem open_bytes {H : Type} {enc : TypeId × Value → H} {P : Program} {w : World} {base b0 : Nat} {sp : Nat → Bool} {held : Bool} {r : Reach} {t e : TypeId} {n : Nat} {v : Value} {d : DataW H} {ps : List MemPlace}
    (hu : P.underlying t = some (.array n e)) (he : P.underlying e = some (.int .u8)) (hc : P.cellsOf e = 1) (hct : P.cellsOf t = n) (hval : Value.okWide P w r b0 t v) (hd : DataW.Trod enc P w base sp held t v d ps) :
    ∃ f : Nat → Int, v = .agg (rowV n fun i => .int .u8 (f i)) ∧ ∀ i, 0 ≤ f i ∧ f i ≤ 255 := by
  unfold Value.okWide at hval
  rw [hu] at hval
  obtain ⟨cs, rfl, hsz, _⟩ := hval
  obtain ⟨fuel, hf⟩ := hd
  obtain ⟨xs, m, rfl, _, hlen, _, hx⟩ := DataW.trod_array hu hf
  simp only [Value.cells] at hx hlen
  have hget : ∀ i, i < n → ∃ z : Int, cs[i]? = some (.int .u8 z) ∧ 0 ≤ z ∧ z ≤ 255 := fun i hi => by
    have h1 := hx i hi
    rw [hc, Nat.mul_one] at h1
    have hxi : i < xs.length := by omega
    rw [List.getElem?_eq_getElem hxi] at h1
    obtain ⟨z, hz, _, hw⟩ := DataW.trod_int he h1
    refine ⟨z, ?_, bounds_u8 hw⟩
    have hcs : cs.toList[i]? = some (.int .u8 z) := by
      have := congrArg (fun l => l[0]?) hz
      simpa [List.getElem?_take, List.getElem?_drop] using this
    rw [← Array.getElem?_toList]; exact hcs
  refine ⟨fun i => if h : i < n then Classical.choose (hget i h) else 0, ?_, fun i => ?_⟩
  · congr 1
    refine rowV_eq (by omega) fun i hi => ?_
    dsimp only
    rw [dif_pos hi]; exact (Classical.choose_spec (hget i hi)).1
  · dsimp only
    by_cases h : i < n
    · rw [dif_pos h]; exact (Classical.choose_spec (hget i h)).2
    · rw [dif_neg h]; omega
end Go.Proofs.YtadbjcpooeibkaaDoor

/- The frame of a law's row, where no package variable is laid. -/
namespace Go.Proofs.YtadbjcpooeibkaaDoor
open Go.RowKit Go.Deep Go.ChangeShapes Go.WideShapes Go.ChangeAt
theorem own : ownKnob Tryd.prog.godebug = none := by kernel_rfl
theorem laidOut : laidOutB Tryd.prog = true := by kernel_rfl
theorem bounds_u64 {a : Int} (h : (Lit.int .u64 a).wf = true) : 0 ≤ a ∧ a < 18446744073709551616 := by
  have h' : 0 ≤ a ∧ a ≤ 18446744073709551615 := by simpa [Lit.wf, IntKind.min, IntKind.max, IntKind.signed, IntKind.bits] using h
  omega
end Go.Proofs.YtadbjcpooeibkaaDoor

/- Slices that came in, opened. -/
namespace Go.Proofs.YtadbjcpooeibkaaDoor
open Go.RowKit Go.Deep Go.ChangeShapes Go.WideShapes

theorem bounds_i64 {a : Int} (h : (Lit.int .i64 a).wf = true) : -9223372036854775808 ≤ a ∧ a ≤ 9223372036854775807 := by
  simpa [Lit.wf, IntKind.min, IntKind.max, IntKind.signed, IntKind.bits] using h
/-- A SLICE, opened at every index. -/
theorem open_any {H : Type} {enc : TypeId × Value → H} {P : Program} {w : World} {base b0 : Nat} {sp : Nat → Bool} {held : Bool} {r : Reach} {t e : TypeId} {v : Value} {d : DataW H} {ps : List MemPlace} (c : Nat)
    (hu : P.underlying t = some (.slice e)) (hc : P.cellsOf e = c) (hval : Value.okWide P w r b0 t v) (hd : DataW.Trod enc P w base sp held t v d ps) :
    (v = .slice none 0 0) ∨ ∃ pb po len cap : Nat, v = .slice (some ⟨pb, po, none⟩) len cap ∧ len ≤ cap ∧ cap ≤ maxLen ∧ pb < w.heap.size ∧
      ∀ i, i < len → ∃ (cs' : List Value) (n : Nat) (D : DataW H × List MemPlace), cs'.length = c ∧ (∀ j, j < c → w.cell? ⟨pb, po + i * c + j, none⟩ = cs'[j]?) ∧ DataW.trod enc P w base sp held n e cs' = some D := by
  obtain ⟨a, len, cap, rfl⟩ := okWide_slice hu hval
  obtain ⟨fuel, hf⟩ := hd
  rcases open_slice hu hf with ⟨h0, _⟩ | ⟨a', len', cap', m, n, D, Pl, h0, _, h1, h2, h3, _, h4⟩
  · left; simpa [Value.cells] using h0
  · right
    have h0' : a = some a' ∧ len = len' ∧ cap = cap' := by simpa [Value.cells] using h0
    obtain ⟨rfl, rfl, rfl⟩ := h0'
    have hlm : len ≤ m := by rw [h3]; split <;> omega
    simp only [Value.okWide, hu, Cell.okWide, Cell.ok] at hval
    obtain ⟨_, _, _, hsp, row, cells, hsh, _⟩ := hval
    obtain ⟨pb, po, spot⟩ := a'
    obtain rfl : spot = none := hsp
    refine ⟨pb, po, len, cap, rfl, h1, h2, ?_, fun i hi => ?_⟩
    · unfold World.shape? at hsh
      cases hq : w.heap[pb]? with
      | none => rw [hq] at hsh; cases hsh
      | some o => exact (Array.getElem?_eq_some_iff.1 hq).1
    · obtain ⟨cs', g1, g2⟩ := h4 i (by omega)
      rw [hc] at g1
      obtain ⟨_, hlen, hcell⟩ := World.cells?_some g1
      refine ⟨cs', n, _, hlen, fun j hj => ?_, g2⟩
      have e0 := hcell j (by omega)
      rw [add_add, Addr.add_mid] at e0
      rw [Nat.add_assoc]; exact e0
theorem open_bytes_slice {H : Type} {enc : TypeId × Value → H} {P : Program} {w : World} {base b0 : Nat} {sp : Nat → Bool} {held : Bool} {r : Reach} {t e : TypeId} {v : Value} {d : DataW H} {ps : List MemPlace}
    (hu : P.underlying t = some (.slice e)) (he : P.underlying e = some (.int .u8)) (hc : P.cellsOf e = 1) (hval : Value.okWide P w r b0 t v) (hd : DataW.Trod enc P w base sp held t v d ps) : ∃ l, isBytes w v l := by
  rcases open_any 1 hu hc hval hd with rfl | ⟨pb, po, len, cap, rfl, h1, h2, h3, h4⟩
  · exact ⟨[], Or.inl ⟨rfl, rfl⟩⟩
  · have each : ∀ i, i < len → ∃ z : Int, w.cell? ⟨pb, po + i, none⟩ = some (.int .u8 z) ∧ 0 ≤ z ∧ z ≤ 255 := fun i hi => by
      obtain ⟨cs', n, D, g1, g2, g3⟩ := h4 i hi
      obtain ⟨z, rfl, _, hw⟩ := DataW.trod_int he g3
      have := g2 0 (by omega)
      rw [Nat.mul_one, Nat.add_zero] at this
      exact ⟨z, this, bounds_u8 hw⟩
    obtain ⟨f, hf⟩ := choose_lt each
    have hg : ∀ i, i < len → ((List.range len).map f).getD i 0 = f i := fun i hi => by
      rw [List.getD_eq_getElem?_getD, List.getElem?_map, List.getElem?_range hi]; rfl
    refine ⟨(List.range len).map f, Or.inr ⟨pb, po, cap, by simp, by simpa using h1, h2, h3, fun i hi => ?_, fun i => ?_⟩⟩
    · have hi' : i < len := by simpa using hi
      rw [hg i hi']; exact (hf i hi').1
    · by_cases hi : i < len
      · rw [hg i hi]; exact (hf i hi).2
      · rw [List.getD_eq_getElem?_getD, List.getElem?_eq_none (by simp; omega)]; exact ⟨by simp, by simp⟩
end Go.Proofs.YtadbjcpooeibkaaDoor

/- The three tables, as the row lists them; a world that holds them, for the witness. -/
namespace Go.Proofs.YtadbjcpooeibkaaDoor
set_option maxRecDepth 100000
open Go.RowKit Go.Deep Go.ChangeShapes Go.WideShapes Go.ChangeAt Go.Lib Go.Shelf

theorem u8Extra : U8Extra Tryd.prog uRen where
  n3 := by kernel_rfl
  n4 := by kernel_rfl
  y3 := by kernel_rfl
  y4 := by kernel_rfl
  c5 := by kernel_rfl
  c119 := by kernel_rfl
  c138 := by kernel_rfl
/-- the letters' table, as data. -/
def ltData : DataW Unit := .agg ((List.range 43).map fun i => .agg ([ltA i, ltB i].map fun z => .lit (.int .i64 z)))
theorem gLet : Tryd.prog.globalNamed "incipit/utf.letters" = some 0 := by kernel_rfl
theorem gLetType : (Tryd.prog.globals[0]?).map (·.type) = some 42 := by kernel_rfl
theorem cellsInt : Tryd.prog.cellsOf 3 = 1 := by kernel_rfl
theorem cellsSpan : Tryd.prog.cellsOf 41 = 2 := by kernel_rfl
theorem letters_of_reads {w : World} (h : VarReads Tryd.prog w "incipit/utf.letters" ltData) : ltT w := by
  intro i hi
  obtain ⟨g, t, cs, fuel, p, hg, hty, hvar, hd⟩ := h
  obtain rfl := Option.some.inj (gLet.symm.trans hg)
  obtain rfl := Option.some.inj (gLetType.symm.trans hty)
  obtain ⟨fuel', d, q, hdi, he⟩ := array_elem Tryd.underlying42 hd i hi
  simp only [List.getElem?_map, List.getElem?_range hi, Option.map_some, Option.some.injEq] at hdi
  subst hdi
  rw [cellsSpan] at he
  have hcs := ints_of_struct Tryd.underlying41 (fun j f hj => by
    match j, hj with
    | 0, hj => simp at hj; subst hj; exact ⟨Tryd.underlying3, rfl, cellsInt⟩
    | 1, hj => simp at hj; subst hj; exact ⟨Tryd.underlying3, rfl, cellsInt⟩
    | j + 2, hj => simp at hj) (by rw [cellsSpan]; rfl) he
  have e0 := congrArg (·[0]?) hcs
  have e1 := congrArg (·[1]?) hcs
  simp only [List.getElem?_take, List.getElem?_drop] at e0 e1
  constructor
  · rw [World.var?_cell hg hvar (i * 2), ← Array.getElem?_toList]
    simpa using e0
  · rw [World.var?_cell hg hvar (i * 2 + 1), ← Array.getElem?_toList]
    simpa using e1
theorem dFirst : Rows.laid_unicode_utf8_first = firstData := by kernel_rfl
theorem dAccept : (Rows.laid_unicode_utf8_acceptRanges : DataW Unit) = acceptData := by kernel_rfl
theorem dLetters : (Rows.laid_incipit_utf_letters : DataW Unit) = ltData := by kernel_rfl
/-- what the row's list gives. -/
theorem laid_ut {W : World} (h : laidMetH Tryd.prog Rows.utfNextRow.laid W) : utT W := by
  have h' : laidMet Tryd.prog [("unicode/utf8.acceptRanges", Rows.laid_unicode_utf8_acceptRanges), ("incipit/utf.letters", Rows.laid_incipit_utf_letters), ("unicode/utf8.first", Rows.laid_unicode_utf8_first)] W := h
  have h1 := laidMet.reads h' (n := "unicode/utf8.first") (d := Rows.laid_unicode_utf8_first) (by simp)
  have h2 := laidMet.reads h' (n := "unicode/utf8.acceptRanges") (d := Rows.laid_unicode_utf8_acceptRanges) (by simp)
  have h3 := laidMet.reads h' (n := "incipit/utf.letters") (d := Rows.laid_incipit_utf_letters) (by simp)
  rw [dFirst] at h1
  rw [dAccept] at h2
  rw [dLetters] at h3
  exact ⟨utf8Tabs_of_reads { uLays with } u8Extra h1 h2, letters_of_reads h3⟩
/-- the tables' blocks, laid. -/
def lObj : Obj → Obj
  | .cells _ t frozen => .cells lrow t frozen
  | o => o
def fObj : Obj → Obj
  | .cells _ t frozen => .cells ((List.range 256).map fun c => Value.int .u8 (firstT c)).toArray t frozen
  | o => o
def aObj : Obj → Obj
  | .cells _ t frozen => .cells ((List.range 16).flatMap fun i => [Value.int .u8 (accLo i), Value.int .u8 (accHi i)]).toArray t frozen
  | o => o
end Go.Proofs.YtadbjcpooeibkaaDoor
