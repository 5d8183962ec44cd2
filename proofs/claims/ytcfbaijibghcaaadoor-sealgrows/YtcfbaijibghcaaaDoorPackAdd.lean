import Derived.Test.YtcfbaijibghcaaaDoorPackSize
import Derived.Lib.JoinLaws
import Derived.Deep.Light
namespace Go.Proofs.YtcfbaijibghcaaaDoor
set_option maxRecDepth 100000
open Go.RowKit Go.Deep

section
variable {P : Program}
theorem wp_make_run {o : Oper} {a : Act} {w w' : World} {K : Act → World → Prop} {Q : Exit → Act → World → Prop} {l c r : Value} (t : TypeId) (x y : Operand)
    (ho : o.op = .makeSlice t x y) (hx : a.eval x = l) (hy : a.eval y = c) (hr : (Instr.makeSlice t l c).run P w = .ok r w') (h : K (a.put o.dst r) w') : o.wp P a w K Q := by
  unfold Oper.wp execOp
  simp only [ho, hx, hy, Sem.run_bind, hr, Result.andThen_ok, Sem.run_pure]
  exact h
theorem wpList_make_run {ops : Array Oper} {rest : List Oper} {o : Oper} {a : Act} {w w' : World} {Q : Exit → Act → World → Prop} {l c r : Value} (hgd : o.guard = none) (t : TypeId) (x y : Operand)
    (ho : o.op = .makeSlice t x y) (hx : a.eval x = l) (hy : a.eval y = c) (hr : (Instr.makeSlice t l c).run P w = .ok r w') (h : wpList P ops Q rest (a.put o.dst r) w') : wpList P ops Q (o :: rest) a w :=
  wpList_plain hgd fun _ hK => wp_make_run t x y ho hx hy hr (hK _ _ h)
end

set_option maxHeartbeats 1000000 in
theorem withRoom_any (l : List Int) (v : Value) (r : Nat) (w : World) (hv : isBytes w v l) (hs : l.length + r ≤ 1099511627776) :
    Calls Tryd.prog 44 #[v, .int .i64 r] w fun e w' => ∃ v', e = .returned v' ∧ newBytes w' w.heap.size v' l ∧ Below w.heap.size w w' := by
  have hmk := run_make_room (P := Tryd.prog) 36 5 (.int .u8 0) 1 Tryd.underlying36 hi8 rfl .i64 .i64 (l.length + r) (by omega) (by omega) w
  have hb1 : Below w.heap.size w (w.alloc (.cells (madeCells #[Value.int .u8 0] (l.length + r)) 5)) := (Below.refl _ _).alloc (Nat.le_refl _) _
  have hO : newBytes (w.alloc (.cells (madeCells #[Value.int .u8 0] (l.length + r)) 5)) w.heap.size (.slice (some ⟨w.heap.size, 0, none⟩) 0 (l.length + r)) [] :=
    ⟨⟨rfl, Or.inr ⟨w.heap.size, l.length + r, _, rfl, Nat.le_refl _, blk_alloc_new _ _, Nat.zero_le _, by unfold maxLen; omega, by rw [size_madeCells]; simp, by simp⟩⟩, fun i => by simp⟩
  obtain ⟨v', w', hr, hn, hg, _⟩ := bytes_append_run _ w.heap.size _ v [] l hO (hv.below hb1 (Nat.le_refl _)) (by simp; omega) (by simp)
  have hbl : Below w.heap.size w w' := hb1.trans (below_grown hg (fun k hk => (hO.block k hk).1) (by simp))
  have HN : Hid _ := hn
  have HB : Hid _ := hbl
  obtain ⟨a, c, rfl, hm⟩ := hv.slice
  have h1 : (l.length : Int) ≤ 1099511627776 := by omega
  have h2 : (r : Int) ≤ 1099511627776 := by omega
  rw [Int.natCast_add] at hmk
  clear hn hbl hO hg hb1 hv
  go_enter Tryd.func44, Tryd.ntmps44
  go_wp2_with (first | (refine wpList_make_run rfl _ _ _ rfl rfl rfl hmk ?_) | (at_builtin; refine wpList_append_run rfl _ _ _ rfl rfl rfl hr ?_))
  go_ret
  exact ⟨_, rfl, HN.out, HB.out⟩

/-- one element in a slice that the call builds. -/
theorem one_cell (w : World) (u : Value) (t : TypeId) : (w.alloc (.cells #[u] t)).cell? ⟨w.heap.size, 0, none⟩ = some u := by
  have := (rowIs_new w #[u] t 1 (fun _ => u) rfl (fun i hi => by obtain rfl : i = 0 := by omega
                                                                 rfl)).cell (i := 0) (by omega)
  exact this
theorem one_byte (w : World) (b : Int) (h0 : 0 ≤ b) (h1 : b ≤ 255) : isBytes (w.alloc (.cells #[.int .u8 b] 5)) (.slice (some ⟨w.heap.size, 0, none⟩) 1 1) [b] :=
  Or.inr ⟨w.heap.size, 0, 1, rfl, by simp, by unfold maxLen; omega, by simp, fun i hi => by
    have hi' : i < 1 := by simpa using hi
    obtain rfl : i = 0 := by omega
    exact one_cell w _ _, fun i => by cases i <;> simp <;> omega⟩
/-- append(v, b). -/
theorem byte_append_run (w : World) (B : Nat) (v : Value) (l : List Int) (b : Int) (h0 : 0 ≤ b) (h1 : b ≤ 255) (hv : newBytes w B v l) (hs : l.length < 1099511627776) (hB : B ≤ w.heap.size) :
    ∃ v' w', (Builtin.append_ #[36, 36] 36 #[v, .slice (some ⟨w.heap.size, 0, none⟩) 1 1]).run Tryd.prog (w.alloc (.cells #[.int .u8 b] 5)) = .ok v' w' ∧ newBytes w' B v' (l ++ [b]) ∧ Below B w w' := by
  have hb1 : Below w.heap.size w (w.alloc (.cells #[Value.int .u8 b] 5)) := (Below.refl _ _).alloc (Nat.le_refl _) _
  have hv1 := hv.below hb1 (Nat.le_refl _)
  obtain ⟨v', w', hr, hn, hg, _⟩ := bytes_append_run _ B v _ l [b] hv1 (one_byte w b h0 h1) (by simp; omega) (by simp; omega)
  exact ⟨v', w', hr, hn, (hb1.mono hB).trans (below_grown hg (fun k hk => (hv1.block k hk).1) (by simp; omega))⟩

theorem digs_take_succ (x : Int) (K k : Nat) (h : k < K) : (digsI x K).take (k + 1) = (digsI x K).take k ++ [digI x K k] := by
  unfold digsI
  rw [List.take_succ_eq_append_getElem (by simp; omega)]
  simp
theorem num_take (x : Int) : numB x = [(szI x : Int)] ++ (digsI x (szI x)).take (szI x) := by
  rw [List.take_of_length_le (by simp [digsI])]; rfl
set_option maxHeartbeats 1000000 in
theorem addNumber_any (x : Int) (h0 : 0 ≤ x) (h1 : x < 18446744073709551616) (v : Value) (l : List Int) (B : Nat) (w : World) (hv : newBytes w B v l) (hs : l.length + 9 ≤ 1099511627776) (hB : B ≤ w.heap.size) :
    Calls Tryd.prog 45 #[v, .int .u64 x] w fun e w' => ∃ v', e = .returned v' ∧ newBytes w' B v' (l ++ numB x) ∧ Below B w w' := by
  have hz := szI_le x
  have hz2 : (szI x : Int) ≤ 8 := by omega
  obtain ⟨v1, w1, hr1, hn1, hb1⟩ := byte_append_run w B v l (szI x) (by omega) (by omega) hv (by omega) hB
  have hk1 : (1 : Int) + (szI x : Int) - 1 = (szI x : Int) := by omega
  have HX : Hid (numB x = _) := num_take x
  have HN : Hid _ := hn1
  have HB : Hid _ := hb1
  clear hn1 hb1
  go_enter Tryd.func45, Tryd.ntmps45
  go_wp2_with (first | (go_at_call 56; refine (numberSize_any x h0 h1 _).mono ?_; rintro e w' ⟨rfl, hw⟩; obtain rfl := hw.symm; clear hw) | (at_builtin; refine wpList_append_run rfl _ _ _ rfl rfl rfl hr1 ?_))
  go_loopw [0, 16] (fun v i wr => ∃ k : Nat, k ≤ szI x ∧ i = .int .i64 k ∧ newBytes wr B v (l ++ ([(szI x : Int)] ++ (digsI x (szI x)).take k)) ∧ Below B w wr) (fun _ i _ => szI x - (intOf i).toNat)
  case atStart => exact ⟨0, by omega, rfl, HN.out, HB.out⟩
  case round =>
    clear HN HB hr1 hv
    obtain ⟨k, hk, rfl, hn, hb⟩ := hrel
    by_cases hlt : k < szI x
    · have b0 : (0 : Int) ≤ (k : Int) := by omega
      have b1 : (k : Int) < (szI x : Int) := by omega
      have hd := digI_byte x (szI x) k
      obtain ⟨v2, w2, hr2, hn2, hb2⟩ := byte_append_run wr B u0 _ (digI x (szI x) k) hd.1 hd.2 hn (by simp; omega) (by have := hb.size; omega)
      have HN : Hid _ := hn2
      have HB : Hid _ := hb.trans hb2
      have HS : Hid _ := digs_take_succ x (szI x) k hlt
      clear hn2 hb2 hn hb hd
      go_wp2_with (first | (at_builtin; refine wpList_append_run rfl _ _ _ rfl rfl rfl hr2 ?_))
      go_light
      exact ⟨⟨k + 1, by omega, by go_num, by rw [HS.out, ← List.append_assoc, ← List.append_assoc, List.append_assoc l]; exact HN.out, HB.out⟩, by simp [intOf]; omega⟩
    · obtain rfl : k = szI x := by omega
      have HR : Hid _ := hn
      go_wp2
      go_ret
      exact ⟨_, rfl, by rw [HX.out]; exact HR.out, hb⟩
end Go.Proofs.YtcfbaijibghcaaaDoor
