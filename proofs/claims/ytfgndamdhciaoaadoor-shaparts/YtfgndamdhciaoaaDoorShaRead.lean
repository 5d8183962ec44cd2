import Derived.Test.YtfgndamdhciaoaaDoorShaPrint
import Derived.Laws.Externs
namespace Go.Proofs.YtfgndamdhciaoaaDoor
open Go.RowKit Go.Deep

/-- the digits. -/
def digitsS : ByteArray := { data := #[48, 49, 50, 51, 52, 53, 54, 55, 56, 57, 97, 98, 99, 100, 101, 102] }
/-- which half byte a digit is; -1: none. -/
def halfI (c : Int) : Int := if 48 ≤ c ∧ c ≤ 57 then c - 48 else if 97 ≤ c ∧ c ≤ 102 then c - 87 else -1
theorem firstIdx_digits (c : Int) (h0 : 0 ≤ c) (h1 : c ≤ 255) : firstIdx { data := #[48, 49, 50, 51, 52, 53, 54, 55, 56, 57, 97, 98, 99, 100, 101, 102] } c.toNat.toUInt8 = halfI c := by
  have h : ∀ m : Fin 256, firstIdx { data := #[48, 49, 50, 51, 52, 53, 54, 55, 56, 57, 97, 98, 99, 100, 101, 102] } m.val.toUInt8 = halfI m.val := by decide +kernel
  obtain ⟨m, rfl⟩ := Int.eq_ofNat_of_zero_le h0
  exact h ⟨m, by omega⟩
theorem idx_run (c : Int) (h0 : 0 ≤ c) (h1 : c ≤ 255) (w : World) : (callFunc 44 #[.string { data := #[48, 49, 50, 51, 52, 53, 54, 55, 56, 57, 97, 98, 99, 100, 101, 102] }, .int .u8 c]).run Tryd.prog w = .ok (.value (.int .i64 (halfI c))) w := by
  rw [run_callFunc_extern Tryd.func44 (by kernel_rfl) (by kernel_rfl) (by kernel_rfl) (e := Extern.BytealgIndexByte.indexByte) (by kernel_rfl), run_indexByte_string, firstIdx_digits c h0 h1]
  rfl
set_option maxHeartbeats 1000000 in
theorem index_any (c : Int) (h0 : 0 ≤ c) (h1 : c ≤ 255) (w : World) :
    Calls Tryd.prog 32 #[.string { data := #[48, 49, 50, 51, 52, 53, 54, 55, 56, 57, 97, 98, 99, 100, 101, 102] }, .int .u8 c] w fun e w' => e = .returned (.int .i64 (halfI c)) ∧ w' = w := by
  have hr := idx_run c h0 h1
  go_enter Tryd.func32, Tryd.ntmps32
  go_wp2
  go_ret
  exact ⟨rfl, rfl⟩

section
variable {P : Program}
/-- TWO RESULTS: one that lies in memory, one in a slot. -/
theorem results_cell_tmp {fn : Func} {p q : Tmp} {ty : TypeId} (h : fn.results = #[.cell p ty, .tmp q]) (tmps : Array Value) (w : World) (g : Nat) (t : TypeId) (n : Nat) (f : Nat → Value) (d : TypeDesc) (v : Value)
    (hp : tmps.getD p undef = .pointer (some ⟨g, 0, none⟩)) (hq : tmps.getD q undef = v) (hu : P.underlying ty = some d) (hd : (match d with | .struct _ | .array _ _ => true | _ => false) = true) (hi : (P.info? ty).map (·.size) = some n)
    (hg : w.rowIs g t n f) : (results fn tmps).run P w = .ok (.tuple #[.agg (rowV n f), v]) w := by
  have hl := run_loadVar_row (P := P) w g t ty (rowV n f) (0, 0) d (rowIs_block hg) hu hd (by rw [hi, rowV_size])
  have hp' : tmps[p]?.getD undef = .pointer (some ⟨g, 0, none⟩) := by simpa using hp
  have hq' : tmps[q]?.getD undef = v := by simpa using hq
  simp [results, h, hp', hq', asAddr, hl]
end
/-- a string's byte. -/
def sB (s : ByteArray) (i : Nat) : Int := (s.data.toList.getD i 0).toNat
theorem sB_byte (s : ByteArray) (i : Nat) : 0 ≤ sB s i ∧ sB s i ≤ 255 := by
  unfold sB; have := (s.data.toList.getD i 0).toNat_lt; omega
theorem sB_run (s : ByteArray) (i : Nat) (x : Int) (hx : x = i) (h : i < s.size) (w : World) : (Instr.index 9 (.string s) (.int .i64 x)).run Tryd.prog w = .ok (.int .u8 (sB s i)) w := by
  subst hx
  rw [run_index_string (P := Tryd.prog) (w := w) 9 s .i64 i Tryd.underlying9, dif_pos (by omega)]
  have h2 : i < s.data.size := h
  have e : s.data[i]? = some (s[i]'h) := by rw [Array.getElem?_eq_getElem h2]; rfl
  rw [sB, List.getD_eq_getElem?_getD, Array.getElem?_toList, e]
  rfl
/-- the bytes that 64 digits are; and whether all of them are digits. -/
def readI (s : ByteArray) (i : Nat) : Int := halfI (sB s (2 * i)) * 16 + halfI (sB s (2 * i + 1))
def readTo (s : ByteArray) : Nat → Bool
  | 0 => true
  | k + 1 => readTo s k && decide (0 ≤ halfI (sB s (2 * k))) && decide (0 ≤ halfI (sB s (2 * k + 1)))
def readOk (s : ByteArray) : Bool := decide (s.size = 64) && readTo s 32
/-- what is read. -/
def readV (s : ByteArray) (i : Nat) : Int := if readTo s 32 = true then readI s i else 0
theorem readTo_no (s : ByteArray) (k : Nat) : ∀ n, k ≤ n → readTo s k = false → readTo s n = false
  | 0, h, e => by obtain rfl : k = 0 := by omega
                  exact e
  | n + 1, h, e => by
    by_cases hk : k = n + 1
    · subst hk; exact e
    · rw [readTo, readTo_no s k n (by omega) e]; rfl
theorem join_half (x y : Int) (h0 : 0 ≤ x) (h1 : x ≤ 15) (h2 : 0 ≤ y) (h3 : y ≤ 15) : bits .or .i64 (x * 16) y % 256 = x * 16 + y := by
  have h : ∀ a b : Fin 16, bits .or .i64 ((a.val : Int) * 16) (b.val : Int) % 256 = (a.val : Int) * 16 + (b.val : Int) := by decide +kernel
  obtain ⟨m, rfl⟩ := Int.eq_ofNat_of_zero_le h0
  obtain ⟨n, rfl⟩ := Int.eq_ofNat_of_zero_le h2
  exact h ⟨m, by omega⟩ ⟨n, by omega⟩
theorem halfI_range (c : Int) : -1 ≤ halfI c ∧ halfI c ≤ 15 := by unfold halfI; split <;> (try split) <;> omega

set_option maxHeartbeats 1000000 in
set_option maxRecDepth 100000 in
theorem read_short (s : ByteArray) (w : World) (hs : s.size ≤ maxLen) (h : s.size ≠ 64) :
    Calls Tryd.prog 21 #[.string s] w fun e w' => e = .returned (.tuple #[.agg (rowV 32 fun _ => .int .u8 0), .bool false]) ∧ Below w.heap.size w w' := by
  have hs2 := hs
  unfold maxLen at hs2
  have hi32 : (Tryd.prog.info? 26).map (·.size) = some 32 := by kernel_rfl
  have hne : ((s.size : Int) != 64) = true := by rw [bne_iff_ne]; omega
  have hz : ∀ w : World, (zeroValue 26).run Tryd.prog w = .ok (.agg (rowV 32 (fun _ => .int .u8 0))) w := fun w => by kernel_rfl
  have r0 := rowIs_box w 26 32 (fun _ => .int .u8 0)
  have r1 := r0.alloc (.cells (rowV 32 fun _ => .int .u8 0) 26)
  go_enter Tryd.func21, Tryd.ntmps21
  go_wp2_with (first | (refine wpList_store_row rfl 26 _ _ rfl rfl w.heap.size 0 32 _ rfl rfl hi32 (fun _ _ => rfl) _ _ _ r1 (by omega) ?_; intro W4 r4 hz4 hb4))
  refine bodyPost_ret (results_cell_tmp rfl _ _ w.heap.size 26 32 (fun _ => .int .u8 0) _ _ rfl rfl Tryd.underlying26 rfl hi32 (r4.congr fun i hi => ?_)) rfl ⟨rfl, (((Below.refl _ _).alloc (Nat.le_refl _) _).alloc (by simp) _).trans ((hb4.mono (by simp; omega)).below (Nat.le_refl _))⟩
  rw [if_pos (by omega)]

set_option maxHeartbeats 1000000 in
set_option maxRecDepth 100000 in
theorem read_long (s : ByteArray) (w : World) (h : s.size = 64) :
    Calls Tryd.prog 21 #[.string s] w fun e w' => e = .returned (.tuple #[.agg (rowV 32 fun i => .int .u8 (readV s i)), .bool (readTo s 32)]) ∧ Below w.heap.size w w' := by
  have hi32 : (Tryd.prog.info? 26).map (·.size) = some 32 := by kernel_rfl
  have hne : ((s.size : Int) != 64) = false := by simp; omega
  have hz : ∀ w : World, (zeroValue 26).run Tryd.prog w = .ok (.agg (rowV 32 (fun _ => .int .u8 0))) w := fun w => by kernel_rfl
  have hs1 : s.size ≤ 64 := by omega
  have hs2 : 64 ≤ s.size := by omega
  clear h
  go_enter Tryd.func21, Tryd.ntmps21
  go_wp2
  go_loopw [12] (fun i wr => ∃ k : Nat, k ≤ 32 ∧ i = .int .i64 k ∧ Below w.heap.size w wr ∧ wr.heap.size = w.heap.size + 2 ∧ readTo s k = true ∧ wr.rowIs w.heap.size 26 32 (fun _ => .int .u8 0) ∧ wr.rowIs (w.heap.size + 1) 26 32 (fun j => .int .u8 (if j < k then readI s j else 0))) (fun i _ => 32 - (intOf i).toNat)
  case atStart =>
    refine ⟨0, by omega, rfl, ((Below.refl _ _).alloc (Nat.le_refl _) _).alloc (by simp) _, by simp, rfl, (rowIs_box w _ 32 _).alloc _, ?_⟩
    have := rowIs_box (w.alloc (.cells (rowV 32 fun _ => .int .u8 0) 26)) 26 32 (fun _ => .int .u8 0)
    simp only [nblk_alloc] at this
    exact this
  case round =>
    obtain ⟨k, hk, rfl, hb, hsz, hr, r0, r1⟩ := hrel
    have HR : Hid (readTo s k = true) := hr
    clear hr
    by_cases hlt : k < 32
    · have b0 : (0 : Int) ≤ (k : Int) := by omega
      have b1 : (k : Int) < 32 := by omega
      have hx1 := sB_run s (2 * k) (2 * (k : Int)) (by omega) (by omega)
      have hx2 := sB_run s (2 * k + 1) (2 * (k : Int) + 1) (by omega) (by omega)
      have y1 := sB_byte s (2 * k)
      have y2 := sB_byte s (2 * k + 1)
      have g1 := halfI_range (sB s (2 * k))
      have g2 := halfI_range (sB s (2 * k + 1))
      have HX : Hid (readTo s (k + 1) = (decide (0 ≤ halfI (sB s (2 * k))) && decide (0 ≤ halfI (sB s (2 * k + 1))))) := by show readTo s (k + 1) = _; rw [readTo, HR.out]; rfl
      have HI : Hid (readI s k = halfI (sB s (2 * k)) * 16 + halfI (sB s (2 * k + 1))) := rfl
      revert g1 g2 HX HI y1 y2
      generalize hsa : sB s (2 * k) = ca at *
      generalize hsb : sB s (2 * k + 1) = cb at *
      clear hsa hsb
      intro y1 y2 g1 g2 HX HI
      by_cases hA : halfI ca < 0
      · go_wp2_with (first | (go_at_call 32; refine (index_any _ ?_ ?_ _).mono ?_; (omega); (omega); rintro e w' ⟨rfl, hww⟩; obtain rfl := hww.symm; clear hww) | (refine wpList_store_row rfl 26 _ _ rfl rfl w.heap.size 0 32 _ rfl rfl hi32 (fun _ _ => rfl) _ _ _ r0 (by omega) ?_; intro W4 r4 hz4 hb4))
        have hno : readTo s 32 = false := readTo_no s (k + 1) 32 (by omega) (by rw [HX.out]; simp; omega)
        refine bodyPost_ret (results_cell_tmp rfl _ _ w.heap.size 26 32 (fun i => .int .u8 (readV s i)) _ _ rfl rfl Tryd.underlying26 rfl hi32 (r4.congr fun i hi => ?_)) rfl ⟨by rw [hno]; rfl, hb.trans ((hb4.mono (by omega)).below (Nat.le_refl _))⟩
        rw [if_pos (by omega), readV, hno, if_neg (by decide)]
      · by_cases hB : halfI cb < 0
        · go_wp2_with (first | (go_at_call 32; refine (index_any _ ?_ ?_ _).mono ?_; (omega); (omega); rintro e w' ⟨rfl, hww⟩; obtain rfl := hww.symm; clear hww) | (refine wpList_store_row rfl 26 _ _ rfl rfl w.heap.size 0 32 _ rfl rfl hi32 (fun _ _ => rfl) _ _ _ r0 (by omega) ?_; intro W4 r4 hz4 hb4))
          have hno : readTo s 32 = false := readTo_no s (k + 1) 32 (by omega) (by rw [HX.out]; simp; omega)
          refine bodyPost_ret (results_cell_tmp rfl _ _ w.heap.size 26 32 (fun i => .int .u8 (readV s i)) _ _ rfl rfl Tryd.underlying26 rfl hi32 (r4.congr fun i hi => ?_)) rfl ⟨by rw [hno]; rfl, hb.trans ((hb4.mono (by omega)).below (Nat.le_refl _))⟩
          rw [if_pos (by omega), readV, hno, if_neg (by decide)]
        · have c1 := r1.cell (i := k) (by omega)
          have z1 := r1.frozen k
          go_wp2_with (first | (go_at_call 32; refine (index_any _ ?_ ?_ _).mono ?_; (omega); (omega); rintro e w' ⟨rfl, hww⟩; obtain rfl := hww.symm; clear hww))
          go_light
          refine ⟨⟨k + 1, by omega, by go_num, hb.setCell (by simp) _, by simpa using hsz, by rw [HX.out]; simp; omega, r0.setOther (by simp) _, (r1.set k _).congr fun i _ => ?_⟩, by simp [intOf]; omega⟩
          by_cases e : i = k
          · subst e; rw [if_pos rfl, if_pos (by omega), HI.out, join_half _ _ (by omega) (by omega) (by omega) (by omega)]
          · rw [if_neg e]
            by_cases e2 : i < k
            · rw [if_pos e2, if_pos (by omega)]
            · rw [if_neg e2, if_neg (by omega)]
    · obtain rfl : k = 32 := by omega
      have hyes := HR.out
      clear hlt hk
      go_wp2_with (first | (refine wpList_load_seg rfl 26 _ rfl (w.heap.size + 1) 0 32 _ rfl _ Tryd.underlying26 rfl hi32 (fun i hi => by rw [Nat.zero_add]; exact r1.cell hi) ?_) | (refine wpList_store_row rfl 26 _ _ rfl rfl w.heap.size 0 32 _ rfl rfl hi32 (fun _ _ => rfl) _ _ _ r0 (by omega) ?_; intro W4 r4 hz4 hb4))
      refine bodyPost_ret (results_cell_tmp rfl _ _ w.heap.size 26 32 (fun i => .int .u8 (readV s i)) _ _ rfl rfl Tryd.underlying26 rfl hi32 (r4.congr fun i hi => ?_)) rfl ⟨by rw [HR.out]; rfl, hb.trans ((hb4.mono (by omega)).below (Nat.le_refl _))⟩
      rw [if_pos (by omega), readV, if_pos HR.out, Nat.sub_zero, if_pos (by omega)]
/-- sha.Read, OF ANY TEXT. -/
theorem read_any (s : ByteArray) (w : World) (hs : s.size ≤ maxLen) :
    Calls Tryd.prog 21 #[.string s] w fun e w' => e = .returned (.tuple #[.agg (rowV 32 fun i => .int .u8 (if readOk s = true then readI s i else 0)), .bool (readOk s)]) ∧ Below w.heap.size w w' := by
  by_cases h : s.size = 64
  · have e : readOk s = readTo s 32 := by rw [readOk, h]; rfl
    rw [e]
    exact read_long s w h
  · have e : readOk s = false := by rw [readOk]; simp [h]
    rw [e]
    exact read_short s w hs h
end Go.Proofs.YtfgndamdhciaoaaDoor
