import Derived.Test.YtfgndamdhciaoaaDoorShaKnownAbc
import Derived.Lib.SlBytesConst
namespace Go.Proofs.YtfgndamdhciaoaaDoor
open Go.RowKit Go.Deep

def psAbc (i : Nat) : List Int := if i = 0 then [97] else [98, 99]
/-- the world in which the parts of abc were made. -/
def abcW (w : World) : World := ((w.alloc (.cells #[.int .u8 97] 5 (1, 2))).alloc (.cells #[.int .u8 98, .int .u8 99] 5 (2, 3))).alloc (.cells #[.slice (some ⟨w.heap.size, 0, none⟩) 1 1, .slice (some ⟨w.heap.size + 1, 0, none⟩) 2 2] 28)
theorem abcW_size (w : World) : (abcW w).heap.size = w.heap.size + 3 := by simp [abcW]
theorem abcW_below (w : World) : Below w.heap.size w (abcW w) := ((((Below.refl _ _).alloc (Nat.le_refl _) _).alloc (by simp) _).alloc (by simp; omega) _)
theorem abcW_parts (w : World) : isParts (abcW w) (.slice (some ⟨w.heap.size + 1 + 1, 0, none⟩) 2 2) 2 psAbc := by
  have b0 : (abcW w).heap[w.heap.size]? = some (.cells #[.int .u8 97] 5 (1, 2)) := by
    rw [abcW, blk_alloc_lt _ _ _ (by simp; omega), blk_alloc_lt _ _ _ (by simp), blk_alloc_new]
  have b1 : (abcW w).heap[w.heap.size + 1]? = some (.cells #[.int .u8 98, .int .u8 99] 5 (2, 3)) := by
    rw [abcW, blk_alloc_lt _ _ _ (by simp)]
    have := blk_alloc_new (w.alloc (.cells #[.int .u8 97] 5 (1, 2))) (.cells #[.int .u8 98, .int .u8 99] 5 (2, 3))
    rw [nblk_alloc] at this; exact this
  have b2 : (abcW w).heap[w.heap.size + 1 + 1]? = some (.cells #[.slice (some ⟨w.heap.size, 0, none⟩) 1 1, .slice (some ⟨w.heap.size + 1, 0, none⟩) 2 2] 28) := by
    have := blk_alloc_new ((w.alloc (.cells #[.int .u8 97] 5 (1, 2))).alloc (.cells #[.int .u8 98, .int .u8 99] 5 (2, 3))) (.cells #[.slice (some ⟨w.heap.size, 0, none⟩) 1 1, .slice (some ⟨w.heap.size + 1, 0, none⟩) 2 2] 28)
    rw [nblk_alloc, nblk_alloc] at this; exact this
  have hs := abcW_size w
  refine Or.inr ⟨w.heap.size + 1 + 1, 0, 2, fun i => if i = 0 then .slice (some ⟨w.heap.size, 0, none⟩) 1 1 else .slice (some ⟨w.heap.size + 1, 0, none⟩) 2 2, rfl, by omega, by decide, fun i hi => ?_⟩
  have hi' : i = 0 ∨ i = 1 := by omega
  rcases hi' with rfl | rfl
  · refine ⟨by rw [cell_of_row _ _ _ _ _ _ b2]; rfl, Or.inr ⟨w.heap.size, 0, 1, rfl, by decide, by decide, by omega, fun j hj => ?_, fun j => ?_⟩⟩
    · have : j = 0 := by simpa [psAbc] using hj
      subst this; rw [cell_of_row _ _ _ _ _ _ b0]; rfl
    · match j with
      | 0 => decide
      | j + 1 => simp [psAbc]
  · refine ⟨by rw [cell_of_row _ _ _ _ _ _ b2]; rfl, Or.inr ⟨w.heap.size + 1, 0, 2, rfl, by decide, by decide, by omega, fun j hj => ?_, fun j => ?_⟩⟩
    · have hj' : j = 0 ∨ j = 1 := by have : j < 2 := by simpa [psAbc] using hj
                                     omega
      rcases hj' with rfl | rfl <;> (rw [cell_of_row _ _ _ _ _ _ b1]; rfl)
    · match j with
      | 0 => decide
      | 1 => decide
      | j + 2 => simp [psAbc]

theorem shaSum_none (w : World) (ht : tabIs w) :
    Calls Tryd.prog 12 #[.slice none 0 0] w fun e w' => e = .returned (.agg (rowV 32 fun i => .int .u8 (sumI [] i))) ∧ Below w.heap.size w w' := by
  refine shaSum_any 0 _ (fun _ => []) w (Or.inl ⟨rfl, rfl⟩) (fun i hi => ?_) ht
  have h : i = 0 := by omega
  rw [h, flatTo, List.length_nil]; omega

set_option maxHeartbeats 1000000 in
set_option maxRecDepth 100000 in
theorem awake_any (w : World) (ht : tabIs w) :
    Calls Tryd.prog 10 #[] w fun e w' => e = .returned (.bool true) ∧ Below w.heap.size w w' := by
  have hi32 : (Tryd.prog.info? 26).map (·.size) = some 32 := by kernel_rfl
  have kc := fun (w : World) (C : Array Value) (n c : Nat) => Lib.run_convert_bytes_const (P := Tryd.prog) w 28 5 C n c Tryd.underlying28 Tryd.underlying5
  have ht0 := ht.1
  go_enter Tryd.func10, Tryd.ntmps10
  go_wp2_with fail
  refine (read_short { data := #[48] } w (by decide) (by decide)).mono ?_
  rintro e w1 ⟨rfl, hb1⟩
  have z1 := rowIs_zero w1 (Array.replicate 32 (.int .u8 0)) 26 32 (.int .u8 0) rfl
  go_wp2_with (first | (refine wpList_store_row rfl 26 _ _ rfl rfl w1.heap.size 0 32 _ rfl rfl hi32 (fun _ _ => rfl) _ _ _ z1 (by omega) ?_; intro w2 r2 hz2 hb2))
  have hB2 : Below w.heap.size w w2 := (hb1.trans ((Below.refl w.heap.size w1).alloc hb1.size _)).trans ((hb2.mono (by rw [nblk_alloc]; have := hb1.size; omega)).below hb1.size)
  clear z1 hb1 hb2 r2 hz2
  refine (shaSum_none w2 (ht.below hB2 ht0)).mono ?_
  rintro e w3 ⟨rfl, hb3⟩
  have hB3 := hB2.trans (hb3.mono hB2.size)
  go_wp2_with fail
  refine (print_any (sumI []) sumI_byte w3).mono ?_
  rintro e w4 ⟨rfl, hb4⟩
  have hB4 := hB3.trans (hb4.mono hB3.size)
  clear hB2 hB3 hb3 hb4
  rw [known_none]
  have kc2 : (convert 28 28 (.slice (some ⟨w4.heap.size + 1, 0, none⟩) 2 2)).run Tryd.prog ((w4.alloc (.cells #[.int .u8 97] 5 (1, 2))).alloc (.cells #[.int .u8 98, .int .u8 99] 5)) = .ok (.slice (some ⟨w4.heap.size + 1, 0, none⟩) 2 2) ((w4.alloc (.cells #[.int .u8 97] 5 (1, 2))).alloc (.cells #[.int .u8 98, .int .u8 99] 5 (2, 3))) := by
    have := kc (w4.alloc (.cells #[.int .u8 97] 5 (1, 2))) #[.int .u8 98, .int .u8 99] 2 2
    simp only [nblk_alloc] at this
    exact this
  go_wp2_with fail
  have hB5 := hB4.trans ((abcW_below w4).mono hB4.size)
  refine (shaSum_any 2 _ psAbc (abcW w4) (abcW_parts w4) (fun i hi => ?_) (ht.below hB5 ht0)).mono ?_
  · have hi' : i = 0 ∨ i = 1 ∨ i = 2 := by omega
    rcases hi' with rfl | rfl | rfl <;> decide
  rintro e w6 ⟨rfl, hb6⟩
  have hB6 := hB5.trans (hb6.mono hB5.size)
  rw [show flatTo psAbc 2 = [97, 98, 99] from rfl]
  clear kc2 hB5 hB4 hb6
  go_wp2_with fail
  refine (print_any (sumI [97, 98, 99]) sumI_byte w6).mono ?_
  rintro e w7 ⟨rfl, hb7⟩
  have hB7 := hB6.trans (hb7.mono hB6.size)
  clear hB6 hb7
  rw [known_abc]
  go_wp2
  go_ret
  exact ⟨rfl, hB7⟩
end Go.Proofs.YtfgndamdhciaoaaDoor
