import Derived.Test.YtcfbaijibghcaaaDoorSealHeavy
/- The laws' own helpers: alike. -/
namespace Go.Proofs.YtcfbaijibghcaaaDoor
set_option linter.unusedSimpArgs false
set_option linter.unusedVariables false
open Go.RowKit Go.Deep

theorem anyBytes.byte {w : World} {v : Value} {l : List Int} (h : anyBytes w v l) (i : Nat) : 0 ≤ l.getD i 0 ∧ l.getD i 0 ≤ 255 := by
  rcases h with h | ⟨_, rfl⟩
  · exact h.byte i
  · exact ⟨by simp, by simp⟩
def alikePost (w : World) (n m : Nat) (ps qs : Nat → List Int) (e : Ending) (w' : World) : Prop := ∃ r : Bool, e = .returned (.bool r) ∧ (r = true ↔ n = m ∧ ∀ i, i < n → ps i = qs i) ∧ Below w.heap.size w w'
theorem strOf_eq {w w' : World} {u v : Value} {l m : List Int} (hu : anyBytes w u l) (hv : anyBytes w' v m) : strOf l = strOf m ↔ l = m := ⟨fun h => strOf_inj hu.byte hv.byte h, fun h => by rw [h]⟩
theorem str_beq (s t : ByteArray) : (s.toList == t.toList) = decide (s = t) := by
  rw [Bool.eq_iff_iff, beq_iff_eq, decide_eq_true_iff, ByteArray.toList_eq, ByteArray.toList_eq]
  exact ⟨fun h => ByteArray.ext (Array.toList_inj.1 h), fun h => by rw [h]⟩
set_option maxHeartbeats 2000000 in
set_option maxRecDepth 100000 in
theorem alike_any (n m : Nat) (v u : Value) (ps qs : Nat → List Int) (w : World) (hv : anyParts w v n ps) (hu : anyParts w u m qs) :
    Calls Tryd.prog 23 #[v, u] w fun e w' => alikePost w n m ps qs e w' := by
  obtain ⟨a, ac, rfl, ham, ha⟩ := hv.open
  obtain ⟨b, bc, rfl, hbm, hb⟩ := hu.open
  unfold maxLen at ham hbm
  have q0 : (n : Int) ≤ 9223372036854775807 := by omega
  clear hv hu
  by_cases hnm : n = m
  · subst hnm
    have HA : Hid _ := ha
    have HB : Hid _ := hb
    clear ha hb
    go_enter Tryd.func23, Tryd.ntmps23
    go_wp2
    go_loopw [5] (fun i wr => ∃ k : Nat, k ≤ n ∧ i = .int .i64 k ∧ (∀ j, j < k → ps j = qs j) ∧ Below w.heap.size w wr) (fun i _ => n - (intOf i).toNat)
    case atStart => exact ⟨0, by omega, rfl, fun j hj => by omega, Below.refl _ _⟩
    case round =>
      obtain ⟨k, hk, rfl, hall, hbw⟩ := hrel
      have HL : Hid (∀ j, j < k → ps j = qs j) := (show ∀ j, j < k → ps j = qs j from hall)
      have HW : Hid (Below w.heap.size w wr) := (show Below w.heap.size w wr from hbw)
      clear hall hbw
      by_cases hlt : k < n
      · obtain ⟨ab, ao, x, rfl, hab, hx, hxb⟩ := HA.out k hlt
        obtain ⟨bb, bo, y, rfl, hbb, hy, hyb⟩ := HB.out k hlt
        have p0 : (0 : Int) ≤ (k : Int) := by omega
        have p1 : (k : Int) < (n : Int) := by omega
        have CX : Hid (∀ wz, Below w.heap.size w wz → wz.cell? ⟨ab, ao + k, none⟩ = some x) := (show ∀ wz, Below w.heap.size w wz → wz.cell? ⟨ab, ao + k, none⟩ = some x from fun wz hz => (hz.cell (p := ⟨ab, ao + k, none⟩) hab).trans hx)
        have CY : Hid (∀ wz, Below w.heap.size w wz → wz.cell? ⟨bb, bo + k, none⟩ = some y) := (show ∀ wz, Below w.heap.size w wz → wz.cell? ⟨bb, bo + k, none⟩ = some y from fun wz hz => (hz.cell (p := ⟨bb, bo + k, none⟩) hbb).trans hy)
        have VX : Hid (∀ wz, Below w.heap.size w wz → (convert 36 9 x).run Tryd.prog wz = .ok (.string (strOf (ps k))) wz) := (show ∀ wz, Below w.heap.size w wz → (convert 36 9 x).run Tryd.prog wz = .ok (.string (strOf (ps k))) wz from fun wz hz => convA wz x _ (hxb.below hz (Nat.le_refl _)))
        have VY : Hid (∀ wz, Below w.heap.size w wz → (convert 36 9 y).run Tryd.prog wz = .ok (.string (strOf (qs k))) wz) := (show ∀ wz, Below w.heap.size w wz → (convert 36 9 y).run Tryd.prog wz = .ok (.string (strOf (qs k))) wz from fun wz hz => convA wz y _ (hyb.below hz (Nat.le_refl _)))
        have heq : strOf (ps k) = strOf (qs k) ↔ ps k = qs k := strOf_eq hxb hyb
        obtain ⟨xa, xc, rfl, _⟩ := hxb.slice
        obtain ⟨ya, yc, rfl, _⟩ := hyb.slice
        have HE : Hid (strOf (ps k) = strOf (qs k) ↔ ps k = qs k) := (show strOf (ps k) = strOf (qs k) ↔ ps k = qs k from heq)
        clear hx hy hxb hyb heq HA HB
        go_upto_region 6 with fail
        go_cut [5, 27] from 11 to 27 (fun i c wx => i = .int .i64 (k : Int) ∧ c = .bool (!((strOf (ps k)).toList == (strOf (qs k)).toList)) ∧ Below w.heap.size w wx)
        case first =>
          refine wp_region_noPanic ?_
          refine wp_region_held_drew (S := fun w' => Below w.heap.size w w') (by kernel_rfl) (HW.out.drew) (fun hHeld => ?_)
          refine take_op (i := 0) (v := ?va0) rfl (by kernel_rfl) (by kernel_rfl) (by kernel_rfl) (fun _ _ _ h => h) rfl hHeld ?ya0 ?ra0
          case ya0 => (intro wz hz; go_simp; first | done | with_reducible rfl)
          try simp only [Act.put, List.setIfInBounds_toArray, List.set_cons_zero, List.set_cons_succ]
          refine take_op (i := 1) (v := ?va1) rfl (by kernel_rfl) (by kernel_rfl) (by kernel_rfl) (fun _ _ _ h => h) rfl hHeld ?ya1 ?ra1
          case ya1 => (intro wz hz; go_simp; first | done | with_reducible rfl)
          try simp only [Act.put, List.setIfInBounds_toArray, List.set_cons_zero, List.set_cons_succ]
          refine take_op (i := 2) (v := ?va2) rfl (by kernel_rfl) (by kernel_rfl) (by kernel_rfl) (fun _ _ _ h => h) rfl hHeld ?ya2 ?ra2
          case ya2 => (intro wz hz; go_simp; first | done | with_reducible rfl)
          try simp only [Act.put, List.setIfInBounds_toArray, List.set_cons_zero, List.set_cons_succ]
          refine take_op (i := 3) (v := ?va3) rfl (by kernel_rfl) (by kernel_rfl) (by kernel_rfl) (fun _ _ _ h => h) rfl hHeld ?ya3 ?ra3
          case ya3 => (intro wz hz; have hcz := CX.out wz hz; go_simp; first | done | with_reducible rfl)
          try simp only [Act.put, List.setIfInBounds_toArray, List.set_cons_zero, List.set_cons_succ]
          refine take_op (i := 4) (v := ?va4) rfl (by kernel_rfl) (by kernel_rfl) (by kernel_rfl) (fun _ _ _ h => h) rfl hHeld ?ya4 ?ra4
          case ya4 => (intro wz hz; have hcz := VX.out wz hz; go_simp; first | done | with_reducible rfl)
          try simp only [Act.put, List.setIfInBounds_toArray, List.set_cons_zero, List.set_cons_succ]
          refine take_op (i := 5) (v := ?va5) rfl (by kernel_rfl) (by kernel_rfl) (by kernel_rfl) (fun _ _ _ h => h) rfl hHeld ?ya5 ?ra5
          case ya5 => (intro wz hz; go_simp; first | done | with_reducible rfl)
          try simp only [Act.put, List.setIfInBounds_toArray, List.set_cons_zero, List.set_cons_succ]
          refine take_op (i := 6) (v := ?va6) rfl (by kernel_rfl) (by kernel_rfl) (by kernel_rfl) (fun _ _ _ h => h) rfl hHeld ?ya6 ?ra6
          case ya6 => (intro wz hz; go_simp; first | done | with_reducible rfl)
          try simp only [Act.put, List.setIfInBounds_toArray, List.set_cons_zero, List.set_cons_succ]
          refine take_op (i := 7) (v := ?va7) rfl (by kernel_rfl) (by kernel_rfl) (by kernel_rfl) (fun _ _ _ h => h) rfl hHeld ?ya7 ?ra7
          case ya7 => (intro wz hz; go_simp; first | done | with_reducible rfl)
          try simp only [Act.put, List.setIfInBounds_toArray, List.set_cons_zero, List.set_cons_succ]
          refine take_op (i := 8) (v := ?va8) rfl (by kernel_rfl) (by kernel_rfl) (by kernel_rfl) (fun _ _ _ h => h) rfl hHeld ?ya8 ?ra8
          case ya8 => (intro wz hz; have hcz := CY.out wz hz; go_simp; first | done | with_reducible rfl)
          try simp only [Act.put, List.setIfInBounds_toArray, List.set_cons_zero, List.set_cons_succ]
          refine take_op (i := 9) (v := ?va9) rfl (by kernel_rfl) (by kernel_rfl) (by kernel_rfl) (fun _ _ _ h => h) rfl hHeld ?ya9 ?ra9
          case ya9 => (intro wz hz; have hcz := VY.out wz hz; go_simp; first | done | with_reducible rfl)
          try simp only [Act.put, List.setIfInBounds_toArray, List.set_cons_zero, List.set_cons_succ]
          refine take_op (i := 10) (v := ?va10) rfl (by kernel_rfl) (by kernel_rfl) (by kernel_rfl) (fun _ _ _ h => h) rfl hHeld ?ya10 ?ra10
          case ya10 => (intro wz hz; go_simp; first | done | with_reducible rfl)
          try simp only [Act.put, List.setIfInBounds_toArray, List.set_cons_zero, List.set_cons_succ]
          refine wpAnyH_done (by kernel_rfl) ?_ _
          refine NoPanic.normal ?_
          have HB2 : Hid (Below w.heap.size w _) := hHeld
          clear hHeld
          go_wp2_with fail
          go_meet
          case rel => exact ⟨rfl, rfl, HB2.out⟩
        case rest =>
          obtain ⟨rfl, rfl, hb2⟩ := hcut
          have HB2 : Hid _ := hb2
          clear hb2 CX CY VX VY
          by_cases hxe : strOf (ps k) = strOf (qs k)
          · have hd : decide (strOf (ps k) = strOf (qs k)) = true := decide_eq_true hxe
            have HX : Hid _ := HE.out.1 hxe
            rw [str_beq, hd]
            clear hd hxe HE
            go_wp2
            go_light
            refine ⟨⟨k + 1, by omega, by go_num, fun j hj => ?_, HB2.out⟩, by simp [intOf]; omega⟩
            by_cases e : j < k
            · exact HL.out j e
            · obtain rfl : j = k := by omega
              exact HX.out
          · have hd : decide (strOf (ps k) = strOf (qs k)) = false := decide_eq_false hxe
            have HX : Hid (¬ ps k = qs k) := (show ¬ ps k = qs k from fun h => hxe (HE.out.2 h))
            rw [str_beq, hd]
            clear hd hxe HE
            go_wp2
            go_ret
            exact ⟨_, rfl, ⟨(fun h => by cases h), fun h => absurd (h.2 k hlt) HX.out⟩, HB2.out⟩
      · obtain rfl : k = n := by omega
        have p1 : ¬ (k : Int) < (k : Int) := by omega
        go_wp2
        go_ret
        exact ⟨_, rfl, ⟨fun _ => ⟨rfl, HL.out⟩, fun _ => rfl⟩, HW.out⟩
  · have q1 : ¬ (n : Int) = (m : Int) := by omega
    have HN : Hid (¬ n = m) := (show ¬ n = m from hnm)
    clear hnm ha hb
    go_enter Tryd.func23, Tryd.ntmps23
    go_wp2
    go_ret
    exact ⟨_, rfl, ⟨(fun h => by cases h), fun h => absurd h.1 HN.out⟩, Below.refl _ _⟩
end Go.Proofs.YtcfbaijibghcaaaDoor
