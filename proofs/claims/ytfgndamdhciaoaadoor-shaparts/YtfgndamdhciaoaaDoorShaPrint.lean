import Derived.Test.YtfgndamdhciaoaaDoorShaAll
import Derived.Laws.BytesString
namespace Go.Proofs.YtfgndamdhciaoaaDoor
open Go.RowKit Go.Deep

/-- bytes as a string. -/
def strOf (l : List Int) : ByteArray := ⟨(l.map fun n => UInt8.ofNat n.toNat).toArray⟩
theorem strOf_fold (l : List Int) : ∀ s : ByteArray, l.foldl (fun r n => r.push (UInt8.ofNat n.toNat)) s = ⟨(s.data.toList ++ l.map fun n => UInt8.ofNat n.toNat).toArray⟩ := by
  induction l with
  | nil => intro s; simp
  | cons n l ih => intro s; rw [List.foldl_cons, ih]; simp [ByteArray.push]
theorem strOf_size (l : List Int) : (strOf l).size = l.length := by simp [strOf, ByteArray.size]
theorem rowV_map (n : Nat) (f : Nat → Int) : rowV n (fun i => .int .u8 (f i)) = (((List.range n).map f).map (Value.int .u8)).toArray := by
  symm
  apply rowV_eq
  · simp
  · intro i hi; simp [hi]
section
variable {P : Program}
/-- string(b), b a slice over a row of bytes. -/
theorem run_convert_row_string (w : World) (src dst e : TypeId) (b o n c : Nat) (f : Nat → Int) (hs : P.underlying src = some (.slice e)) (he : P.underlying e = some (.int .u8)) (hd : P.underlying dst = some .string)
    (hc : ∀ i, i < n → w.cell? ⟨b, o + i, none⟩ = some (.int .u8 (f i))) :
    (convert src dst (.slice (some ⟨b, o, none⟩) n c)).run P w = .ok (.string (strOf ((List.range n).map f))) w := by
  rw [run_convert_bytes_string w src dst e _ _ _ hs he hd]
  have hl := run_loadCells_list (P := P) w ⟨b, o, none⟩ (rowV n fun i => .int .u8 (f i)).toList (fun j v hv => by rw [Addr.add_mid]; exact range_of_cells hc j v hv)
  rw [Array.length_toList, rowV_size, Array.toArray_toList, rowV_map] at hl
  rw [run_bytesToString w ⟨b, o, none⟩ n c _ hl, strOf_fold]
  simp [strOf]
end

/-- a half byte's digit. -/
def hexI (x : Int) : Int := if x < 10 then 48 + x else 87 + x
/-- the digit j of 32 bytes. -/
def printI (f : Nat → Int) (j : Nat) : Int := if j % 2 = 0 then hexI (f (j / 2) / 16) else hexI (f (j / 2) % 16)
theorem digit_run (k : Int) (h0 : 0 ≤ k) (h1 : k < 16) (w : World) : (Instr.index 9 (.string { data := #[48, 49, 50, 51, 52, 53, 54, 55, 56, 57, 97, 98, 99, 100, 101, 102] }) (.int .u8 k)).run Tryd.prog w = .ok (.int .u8 (hexI k)) w := by
  obtain ⟨m, rfl⟩ := Int.eq_ofNat_of_zero_le h0
  have hm : m = 0 ∨ m = 1 ∨ m = 2 ∨ m = 3 ∨ m = 4 ∨ m = 5 ∨ m = 6 ∨ m = 7 ∨ m = 8 ∨ m = 9 ∨ m = 10 ∨ m = 11 ∨ m = 12 ∨ m = 13 ∨ m = 14 ∨ m = 15 := by omega
  rcases hm with rfl | rfl | rfl | rfl | rfl | rfl | rfl | rfl | rfl | rfl | rfl | rfl | rfl | rfl | rfl | rfl <;> (show (_ : Result Value) = _; kernel_rfl)

set_option maxHeartbeats 1000000 in
set_option maxRecDepth 100000 in
theorem print_any (f : Nat → Int) (hf : ∀ i, 0 ≤ f i ∧ f i ≤ 255) (w : World) :
    Calls Tryd.prog 23 #[.agg (rowV 32 fun i => .int .u8 (f i))] w fun e w' => e = .returned (.string (strOf ((List.range 64).map (printI f)))) ∧ Below w.heap.size w w' := by
  have hi32 : (Tryd.prog.info? 26).map (·.size) = some 32 := by kernel_rfl
  have hcv := fun (wx : World) (hc : ∀ i, i < 64 → wx.cell? ⟨w.heap.size + 1, 0 + i, none⟩ = some (.int .u8 (printI f i))) => run_convert_row_string (P := Tryd.prog) wx 28 9 5 (w.heap.size + 1) 0 64 64 (printI f) Tryd.underlying28 Tryd.underlying5 Tryd.underlying9 hc
  have HC : Hid _ := hcv
  clear hcv
  go_enter Tryd.func23, Tryd.ntmps23
  go_wp2_with (first | (refine wpList_load_seg rfl 26 _ rfl w.heap.size 0 32 _ rfl _ Tryd.underlying26 rfl hi32 (fun i hi => by rw [Nat.zero_add]; exact ((rowIs_box w 26 32 _).alloc _).cell hi) ?_))
  go_loopw [7] (fun i wr => ∃ k : Nat, k ≤ 32 ∧ i = .int .i64 k ∧ Below w.heap.size w wr ∧ wr.rowIs (w.heap.size + 1) 37 64 (fun j => .int .u8 (if j < 2 * k then printI f j else 0))) (fun i _ => 32 - (intOf i).toNat)
  case atStart =>
    refine ⟨0, by omega, rfl, ((Below.refl _ _).alloc (Nat.le_refl _) _).alloc (by simp) _, ?_⟩
    have := rowIs_zero (w.alloc (.cells (rowV 32 fun i => .int .u8 (f i)) 26)) (Array.replicate 64 (.int .u8 0)) 37 64 (.int .u8 0) rfl
    simp only [nblk_alloc] at this
    exact this
  case round =>
    obtain ⟨k, hk, rfl, hb, r⟩ := hrel
    by_cases hlt : k < 32
    · have b0 : (0 : Int) ≤ (k : Int) := by omega
      have b1 : (k : Int) < 32 := by omega
      have b2 : 2 * (k : Int) < 64 := by omega
      have b3 : 2 * (k : Int) + 1 < 64 := by omega
      have hix := fun wx => run_index_agg (P := Tryd.prog) wx 26 5 32 _ k _ Tryd.underlying26 (by kernel_rfl) (by kernel_rfl) hlt (rowV_get 32 (fun i => .int .u8 (f i)) k hlt)
      have hfk := hf k
      have h16 : f k / 16 < 16 := by omega
      have h160 : 0 ≤ f k / 16 := by omega
      have hand : bits .and .u8 (f k) 15 = f k % 16 := by
        rw [u8_and _ _ (by omega) (by omega) (by omega) (by omega)]; show (((f k).toNat &&& 15 : Nat) : Int) = _; rw [nat_mask4]; omega
      have d1 := digit_run (f k / 16) h160 h16
      have d2 := digit_run (f k % 16) (by omega) (by omega)
      have c1 := r.cell (i := 2 * k) (by omega)
      have c2 := r.cell (i := 2 * k + 1) (by omega)
      have z1 := r.frozen (2 * k)
      have z2 := r.frozen (2 * k + 1)
      go_wp2
      go_light
      refine ⟨⟨k + 1, by omega, by go_num, (hb.setCell (by simp) _).setCell (by simp) _, ((r.set (2 * k) _).set (2 * k + 1) _).congr fun i _ => ?_⟩, by simp [intOf]; omega⟩
      by_cases e : i = 2 * k + 1
      · subst e; rw [if_pos rfl, if_pos (by omega), printI, if_neg (by omega), show (2 * k + 1) / 2 = k by omega]
      · rw [if_neg e]
        by_cases e1 : i = 2 * k
        · subst e1; rw [if_pos rfl, if_pos (by omega), printI, if_pos (by omega), show 2 * k / 2 = k by omega]
        · rw [if_neg e1]
          by_cases e2 : i < 2 * k
          · rw [if_pos e2, if_pos (by omega)]
          · rw [if_neg e2, if_neg (by omega)]
    · obtain rfl : k = 32 := by omega
      have hcv := HC.out wr (fun i hi => by rw [Nat.zero_add, r.cell hi, if_pos (by omega)])
      go_wp2
      go_ret
      exact ⟨rfl, hb⟩
end Go.Proofs.YtfgndamdhciaoaaDoor
