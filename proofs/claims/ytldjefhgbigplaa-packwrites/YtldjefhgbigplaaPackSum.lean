import Derived.Test.YtldjefhgbigplaaRefBlob
namespace Go.Proofs.Ytldjefhgbigplaa
open Go.RowKit Go.Deep

/-- Sum: the bytes, what is left, whether there was a fault. -/
def sumR (l : List Int) (b : Bool) : List Int × List Int × Bool :=
  if b || decide (l.length < 32) then (List.replicate 32 0, l, true) else (l.take 32, l.drop 32, false)
theorem sumR_length (l : List Int) (b : Bool) : (sumR l b).1.length = 32 := by
  unfold sumR
  split
  · simp
  · rename_i h
    simp at h
    rw [List.length_take]; omega
/-- bytes as an array. -/
def arrV (l : List Int) (i : Nat) : Value := .int .u8 (l.getD i 0)
theorem rowV_zero (n : Nat) (z : Value) : Array.replicate n z = rowV n (fun _ => z) := rowV_eq (by simp) fun i hi => by simp [hi]
theorem getD_zeros (n i : Nat) : (List.replicate n (0 : Int)).getD i 0 = 0 := by
  rw [List.getD_eq_getElem?_getD, List.getElem?_replicate]; split <;> rfl
section
variable {P : Program}
theorem wp_arrayAt {o : Oper} {a : Act} {w : World} {K : Act → World → Prop} {Q : Exit → Act → World → Prop} (t e : TypeId) (x : Operand) (p : Addr) (n m c : Nat)
    (ho : o.op = .sliceToArrayPointer t x) (hu : P.underlying t = some (.array n e)) (hx : a.eval x = .slice (some p) m c) (hn : n ≤ m) (h : K (a.put o.dst (.pointer (some p))) w) : o.wp P a w K Q := by
  unfold Oper.wp execOp
  simp [ho, hx, Instr.arrayAt, run_underlying hu, Nat.not_lt.2 hn]
  exact h
theorem wpList_arrayAt {ops : Array Oper} {rest : List Oper} {o : Oper} {a : Act} {w : World} {Q : Exit → Act → World → Prop} (hgd : o.guard = none) (t e : TypeId) (x : Operand) (p : Addr) (n m c : Nat)
    (ho : o.op = .sliceToArrayPointer t x) (hu : P.underlying t = some (.array n e)) (hx : a.eval x = .slice (some p) m c) (hn : n ≤ m) (h : wpList P ops Q rest (a.put o.dst (.pointer (some p))) w) : wpList P ops Q (o :: rest) a w :=
  wpList_plain hgd fun _ hK => wp_arrayAt t e x p n m c ho hu hx hn (hK _ _ h)
end
theorem hi32 : (Try.prog.info? 51).map (·.size) = some 32 := by kernel_rfl
theorem fail_is (c : Nat) (v : Value) (b : Bool) (w : World) (h : cutIs w c v b) :
    Calls Try.prog 36 #[.pointer (some ⟨c, 0, none⟩)] w fun e w' => e = .returned (.tuple #[]) ∧ w' = w.setCell ⟨c, 1, none⟩ (.bool true) := by
  have c1 := h.c1
  have z1 := World.rowIs.frozen h 1
  go_enter Try.func36, Try.ntmps36
  go_wp2
  go_end0
  exact ⟨rfl, rfl⟩
set_option maxHeartbeats 400000 in
theorem take_is (c pb po len cap : Nat) (b : Bool) (n : Nat) (w : World) (h : cutIs w c (.slice (some ⟨pb, po, none⟩) len cap) b) (hn : n ≤ len) (hc : len ≤ cap) :
    Calls Try.prog 42 #[.pointer (some ⟨c, 0, none⟩), .int .i64 n] w fun e w' => ∃ o', e = .returned (.slice (some ⟨pb, po, none⟩) n n) ∧ (n < cap → o' = po + n) ∧ w' = w.setCell ⟨c, 0, none⟩ (.slice (some ⟨pb, o', none⟩) (len - n) (cap - n)) := by
  have c0 := h.c0
  have z0 := World.rowIs.frozen h 0
  obtain ⟨o', ho', hsl⟩ := run_slice_from (P := Try.prog) 47 5 pb po len cap n Try.underlying47 (by kernel_rfl) hn
  have hsf := run_slice_front (P := Try.prog) 47 5 pb po len cap n Try.underlying47 (by kernel_rfl) (by omega)
  have HO : Hid _ := ho'
  clear ho'
  go_enter Try.func42, Try.ntmps42
  go_wp2
  go_ret
  exact ⟨o', rfl, HO.out, rfl⟩
/-- what lies below N is as it was, but for block c: a Cut whose bytes lie below N. -/
theorem cutOf.behind {w w' : World} {B N c : Nat} {v : Value} {l : List Int} {b : Bool} (h1 : cutIs w c v b) (h2 : isBytes w v l) (h3 : B ≤ c) (h4 : ∀ k, v.ownBlock = some k → B ≤ k ∧ k ≠ c ∧ k < N) (hc : c < N) (hb : ∀ k, k < N → w'.heap[k]? = w.heap[k]?) (hs : w.heap.size ≤ w'.heap.size) : cutOf w' B c l b :=
  ⟨v, h1.of_block (hb c hc), h2.far (fun k hk => hb k (h4 k hk).2.2) hs, h3, fun k hk => ⟨(h4 k hk).1, (h4 k hk).2.1⟩⟩
set_option maxHeartbeats 1000000 in
set_option maxRecDepth 100000 in
theorem csum_any (c B : Nat) (l : List Int) (b : Bool) (w : World) (h : cutOf w B c l b) :
    Calls Try.prog 25 #[.pointer (some ⟨c, 0, none⟩)] w fun e w' => e = .returned (.agg (rowV 32 (arrV (sumR l b).1))) ∧ cutOf w' B c (sumR l b).2.1 (sumR l b).2.2 ∧ But w.heap.size c w w' := by
  have hlt := h.lt
  have hlm := h.len
  unfold maxLen at hlm
  have hb0 : Below w.heap.size w (w.alloc (.cells #[.int .u8 0, .int .u8 0, .int .u8 0, .int .u8 0, .int .u8 0, .int .u8 0, .int .u8 0, .int .u8 0, .int .u8 0, .int .u8 0, .int .u8 0, .int .u8 0, .int .u8 0, .int .u8 0, .int .u8 0, .int .u8 0, .int .u8 0, .int .u8 0, .int .u8 0, .int .u8 0, .int .u8 0, .int .u8 0, .int .u8 0, .int .u8 0, .int .u8 0, .int .u8 0, .int .u8 0, .int .u8 0, .int .u8 0, .int .u8 0, .int .u8 0, .int .u8 0] 51)) := (Below.refl _ _).alloc (Nat.le_refl _) _
  have r0 := rowIs_zero w #[.int .u8 0, .int .u8 0, .int .u8 0, .int .u8 0, .int .u8 0, .int .u8 0, .int .u8 0, .int .u8 0, .int .u8 0, .int .u8 0, .int .u8 0, .int .u8 0, .int .u8 0, .int .u8 0, .int .u8 0, .int .u8 0, .int .u8 0, .int .u8 0, .int .u8 0, .int .u8 0, .int .u8 0, .int .u8 0, .int .u8 0, .int .u8 0, .int .u8 0, .int .u8 0, .int .u8 0, .int .u8 0, .int .u8 0, .int .u8 0, .int .u8 0, .int .u8 0] 51 32 (.int .u8 0) rfl
  have hs0 : (w.alloc (.cells #[.int .u8 0, .int .u8 0, .int .u8 0, .int .u8 0, .int .u8 0, .int .u8 0, .int .u8 0, .int .u8 0, .int .u8 0, .int .u8 0, .int .u8 0, .int .u8 0, .int .u8 0, .int .u8 0, .int .u8 0, .int .u8 0, .int .u8 0, .int .u8 0, .int .u8 0, .int .u8 0, .int .u8 0, .int .u8 0, .int .u8 0, .int .u8 0, .int .u8 0, .int .u8 0, .int .u8 0, .int .u8 0, .int .u8 0, .int .u8 0, .int .u8 0, .int .u8 0] 51)).heap.size = w.heap.size + 1 := by simp
  obtain ⟨v, h1, h2, h3, h4⟩ := h
  have hblk := h2.block
  have hby := h2.byte
  have i1 : (l.length : Int) ≤ 9223372036854775807 := by omega
  -- the world with the answer's memory
  revert hb0 r0 hs0
  generalize hwa : w.alloc (.cells #[.int .u8 0, .int .u8 0, .int .u8 0, .int .u8 0, .int .u8 0, .int .u8 0, .int .u8 0, .int .u8 0, .int .u8 0, .int .u8 0, .int .u8 0, .int .u8 0, .int .u8 0, .int .u8 0, .int .u8 0, .int .u8 0, .int .u8 0, .int .u8 0, .int .u8 0, .int .u8 0, .int .u8 0, .int .u8 0, .int .u8 0, .int .u8 0, .int .u8 0, .int .u8 0, .int .u8 0, .int .u8 0, .int .u8 0, .int .u8 0, .int .u8 0, .int .u8 0] 51) = wa
  intro hb0 r0 hs0
  have k1 : cutIs wa c v b := h1.of_block (hb0.block c hlt)
  have k2 : isBytes wa v l := h2.below hb0 (Nat.le_refl _)
  by_cases hbad : b = true ∨ l.length < 32
  · have hR : sumR l b = (List.replicate 32 0, l, true) := by unfold sumR; rw [if_pos (by simp; exact hbad)]
    rw [hR]
    have r1 : (wa.setCell ⟨c, 1, none⟩ (.bool true)).rowIs w.heap.size 51 32 (fun _ => .int .u8 0) := World.rowIs.setOther r0 (by show w.heap.size ≠ c; omega) _
    have q1 : cutIs (wa.setCell ⟨c, 1, none⟩ (.bool true)) c v true := k1.set1 true
    have q2 : isBytes (wa.setCell ⟨c, 1, none⟩ (.bool true)) v l := k2.far (fun k hk => blk_setCell_other _ _ _ _ (h4 k hk).2) (by rw [nblk_setCell]; exact Nat.le_refl _)
    have hb1 : But w.heap.size c w (wa.setCell ⟨c, 1, none⟩ (.bool true)) := (But.of_below hb0 c).set 1 _
    have fin : ∀ w2 : World, w2.heap.size = (wa.setCell ⟨c, 1, none⟩ (.bool true)).heap.size → But (wa.setCell ⟨c, 1, none⟩ (.bool true)).heap.size w.heap.size (wa.setCell ⟨c, 1, none⟩ (.bool true)) w2 → cutOf w2 B c l true ∧ But w.heap.size c w w2 := fun w2 hz hb2 => by
      have hn : (wa.setCell ⟨c, 1, none⟩ (.bool true)).heap.size = w.heap.size + 1 := by rw [nblk_setCell]; exact hs0
      refine ⟨cutOf.behind (N := w.heap.size) q1 q2 h3 (fun k hk => ⟨(h4 k hk).1, (h4 k hk).2, hblk k hk⟩) hlt (fun k hk => hb2.block k (by omega) (by omega)) hb2.size, hb1.trans ⟨hb2.os, hb2.tape, hb2.output, hb2.size, fun k hk _ => hb2.block k (by omega) (by omega)⟩⟩
    have FIN : Hid _ := fin
    have K1 : Hid _ := k1
    have R1 : Hid _ := r1
    have c0 := k1.c0
    obtain ⟨va, vc, rfl, _⟩ := h2.slice
    clear fin q1 q2 hb1 k1 k2 h1 h2 h3 h4 hb0 r0 hblk hby r1
    cases b with
    | true =>
      go_enter Try.func25, Try.ntmps25
      go_wp2_with fail
      clear hwa
      refine (err_any c _ true _ K1.out).mono ?_
      rintro e w' ⟨rfl, hw⟩
      obtain rfl := hw.symm
      clear hw
      rw [show errI true = 2 from rfl]
      go_wp2_with fail
      refine (fail_is c _ true _ K1.out).mono ?_
      rintro e w1 ⟨rfl, rfl⟩
      have r1 := R1.out
      go_wp2_with (first | (refine wpList_store_row rfl 51 _ _ rfl rfl w.heap.size 0 32 (fun _ => .int .u8 0) rfl (by rw [← rowV_zero]; rfl) hi32 (fun _ _ => rfl) _ _ _ r1 (by omega) ?_; intro w2 r2 hz2 hb2))
      obtain ⟨q1, q2⟩ := FIN.out w2 hz2 hb2
      refine bodyPost_ret (results_cell_seg rfl _ _ w.heap.size 51 32 (arrV (List.replicate 32 0)) _ rfl Try.underlying51 rfl hi32 (r2.congr fun i hi => ?_)) rfl ⟨rfl, q1, q2⟩
      rw [if_pos (by omega), arrV, getD_zeros]
    | false =>
      have hl32 : (l.length : Int) < 32 := by
        rcases hbad with h | h
        · cases h
        · omega
      clear hbad
      go_enter Try.func25, Try.ntmps25
      go_wp2_with fail
      clear hwa
      refine (err_any c _ false _ K1.out).mono ?_
      rintro e w' ⟨rfl, hw⟩
      obtain rfl := hw.symm
      clear hw
      rw [show errI false = 0 from rfl]
      go_wp2_with fail
      refine (fail_is c _ false _ K1.out).mono ?_
      rintro e w1 ⟨rfl, rfl⟩
      have r1 := R1.out
      go_wp2_with (first | (refine wpList_store_row rfl 51 _ _ rfl rfl w.heap.size 0 32 (fun _ => .int .u8 0) rfl (by rw [← rowV_zero]; rfl) hi32 (fun _ _ => rfl) _ _ _ r1 (by omega) ?_; intro w2 r2 hz2 hb2))
      obtain ⟨q1, q2⟩ := FIN.out w2 hz2 hb2
      refine bodyPost_ret (results_cell_seg rfl _ _ w.heap.size 51 32 (arrV (List.replicate 32 0)) _ rfl Try.underlying51 rfl hi32 (r2.congr fun i hi => ?_)) rfl ⟨rfl, q1, q2⟩
      rw [if_pos (by omega), arrV, getD_zeros]
  · obtain rfl : b = false := by cases b; rfl; exact absurd (Or.inl rfl) hbad
    have hl32 : 32 ≤ l.length := by omega
    have hR : sumR l false = (l.take 32, l.drop 32, false) := by unfold sumR; rw [if_neg (by simp; omega)]
    rw [hR]
    rcases h2 with ⟨_, rfl⟩ | ⟨pb, po, cap, rfl, g1, g2, g3, g4, _⟩
    · simp at hl32
    · obtain ⟨hpB, hpc⟩ := h4 pb rfl
      have i2 : (32 : Int) ≤ (l.length : Int) := by omega
      have c0 := k1.c0
      have K1 : Hid _ := k1
      have fin : ∀ (o' : Nat) (w2 : World), (32 < cap → o' = po + 32) → w2.heap.size = (wa.setCell ⟨c, 0, none⟩ (.slice (some ⟨pb, o', none⟩) (l.length - 32) (cap - 32))).heap.size → But (wa.setCell ⟨c, 0, none⟩ (.slice (some ⟨pb, o', none⟩) (l.length - 32) (cap - 32))).heap.size w.heap.size (wa.setCell ⟨c, 0, none⟩ (.slice (some ⟨pb, o', none⟩) (l.length - 32) (cap - 32))) w2 → cutOf w2 B c (l.drop 32) false ∧ But w.heap.size c w w2 := fun o' w2 ho' hz hb2 => by
        have hn : (wa.setCell ⟨c, 0, none⟩ (.slice (some ⟨pb, o', none⟩) (l.length - 32) (cap - 32))).heap.size = w.heap.size + 1 := by rw [nblk_setCell]; exact hs0
        have q1 := k1.set0 (.slice (some ⟨pb, o', none⟩) (l.length - 32) (cap - 32))
        have q2 : isBytes (wa.setCell ⟨c, 0, none⟩ (.slice (some ⟨pb, o', none⟩) (l.length - 32) (cap - 32))) (.slice (some ⟨pb, o', none⟩) (l.length - 32) (cap - 32)) (l.drop 32) :=
          (isBytes_from k2 32 o' hl32 ho').far (fun k hk => blk_setCell_other _ _ _ _ (by simp [Value.ownBlock] at hk; show k ≠ c; omega)) (by rw [nblk_setCell]; exact Nat.le_refl _)
        refine ⟨cutOf.behind (N := w.heap.size) q1 q2 h3 (fun k hk => by simp [Value.ownBlock] at hk; omega) hlt (fun k hk => hb2.block k (by omega) (by omega)) hb2.size, ((But.of_below hb0 c).set 0 _).trans ⟨hb2.os, hb2.tape, hb2.output, hb2.size, fun k hk _ => hb2.block k (by omega) (by omega)⟩⟩
      have FIN : Hid _ := fin
      have hcell : ∀ (u : Value) (i : Nat), i < 32 → (wa.setCell ⟨c, 0, none⟩ u).cell? ⟨pb, po + i, none⟩ = some (arrV (l.take 32) i) := fun u i hi => by
        rw [World.cell?_of_block (w := wa) (blk_setCell_other _ _ _ _ hpc), hb0.cell (p := ⟨pb, po + i, none⟩) g3, g4 i (by omega), arrV, getD_take_le _ _ _ hi]
      have HCL : Hid _ := hcell
      have hrow : ∀ u : Value, (wa.setCell ⟨c, 0, none⟩ u).rowIs w.heap.size 51 32 (fun _ => .int .u8 0) := fun u => World.rowIs.setOther r0 (by show w.heap.size ≠ c; omega) _
      have HRW : Hid _ := hrow
      clear fin hcell hrow k1 k2 h1 h4 hb0 r0 hblk hby g4
      go_enter Try.func25, Try.ntmps25
      go_wp2_with fail
      clear hwa
      refine (err_any c _ false _ K1.out).mono ?_
      rintro e w' ⟨rfl, hw⟩
      obtain rfl := hw.symm
      clear hw
      rw [show errI false = 0 from rfl]
      go_wp2_with fail
      refine (take_is c pb po l.length cap false 32 _ K1.out hl32 g1).mono ?_
      rintro e w1 ⟨o', rfl, ho', rfl⟩
      have HO : Hid _ := ho'
      have r1 := HRW.out (.slice (some ⟨pb, o', none⟩) (l.length - 32) (cap - 32))
      have cl := HCL.out (.slice (some ⟨pb, o', none⟩) (l.length - 32) (cap - 32))
      clear ho'
      go_wp2_with (first | (refine wpList_arrayAt rfl 51 5 _ ⟨pb, po, none⟩ 32 32 32 rfl Try.underlying51 rfl (Nat.le_refl _) ?_) | (refine wpList_load_seg rfl 51 _ rfl pb po 32 (arrV (l.take 32)) rfl _ Try.underlying51 rfl hi32 cl ?_) | (refine wpList_store_row rfl 51 _ _ rfl rfl w.heap.size 0 32 _ rfl rfl hi32 (fun _ _ => rfl) _ _ _ r1 (by omega) ?_; intro w2 r2 hz2 hb2))
      obtain ⟨q1, q2⟩ := FIN.out o' w2 HO.out hz2 hb2
      refine bodyPost_ret (results_cell_seg rfl _ _ w.heap.size 51 32 (arrV (l.take 32)) _ rfl Try.underlying51 rfl hi32 (r2.congr fun i hi => ?_)) rfl ⟨rfl, q1, q2⟩
      rw [if_pos (by omega)]; rfl
end Go.Proofs.Ytldjefhgbigplaa
