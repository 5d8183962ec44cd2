import Derived.Test.YtldjefhgbigplaaPackSum
namespace Go.Proofs.Ytldjefhgbigplaa
open Go.RowKit Go.Deep

def storedB (l : List Int) (k i : Nat) : Value := .int .u8 (if i < k then l.getD i 0 else 0)
set_option maxHeartbeats 1000000 in
set_option maxRecDepth 100000 in
/-- the document's Sum. -/
theorem rsum_any (c B : Nat) (l : List Int) (b : Bool) (w : World) (h : rcutOf w B c l b) (hl : l.length ≤ 1099511627776) :
    Calls Try.prog 39 #[.pointer (some ⟨c, 0, none⟩)] w fun e w' => e = .returned (.agg (rowV 32 (arrV (sumR l b).1))) ∧ rcutOf w' B c (sumR l b).2.1 (sumR l b).2.2 ∧ But w.heap.size c w w' := by
  have hlt := h.lt
  have hge := h.ge
  have hb0 : Below w.heap.size w (w.alloc (.cells #[.int .u8 0, .int .u8 0, .int .u8 0, .int .u8 0, .int .u8 0, .int .u8 0, .int .u8 0, .int .u8 0, .int .u8 0, .int .u8 0, .int .u8 0, .int .u8 0, .int .u8 0, .int .u8 0, .int .u8 0, .int .u8 0, .int .u8 0, .int .u8 0, .int .u8 0, .int .u8 0, .int .u8 0, .int .u8 0, .int .u8 0, .int .u8 0, .int .u8 0, .int .u8 0, .int .u8 0, .int .u8 0, .int .u8 0, .int .u8 0, .int .u8 0, .int .u8 0] 51)) := (Below.refl _ _).alloc (Nat.le_refl _) _
  have r0 := rowIs_zero w #[.int .u8 0, .int .u8 0, .int .u8 0, .int .u8 0, .int .u8 0, .int .u8 0, .int .u8 0, .int .u8 0, .int .u8 0, .int .u8 0, .int .u8 0, .int .u8 0, .int .u8 0, .int .u8 0, .int .u8 0, .int .u8 0, .int .u8 0, .int .u8 0, .int .u8 0, .int .u8 0, .int .u8 0, .int .u8 0, .int .u8 0, .int .u8 0, .int .u8 0, .int .u8 0, .int .u8 0, .int .u8 0, .int .u8 0, .int .u8 0, .int .u8 0, .int .u8 0] 51 32 (.int .u8 0) rfl
  have s0 := rowIs_zero (w.alloc (.cells #[.int .u8 0, .int .u8 0, .int .u8 0, .int .u8 0, .int .u8 0, .int .u8 0, .int .u8 0, .int .u8 0, .int .u8 0, .int .u8 0, .int .u8 0, .int .u8 0, .int .u8 0, .int .u8 0, .int .u8 0, .int .u8 0, .int .u8 0, .int .u8 0, .int .u8 0, .int .u8 0, .int .u8 0, .int .u8 0, .int .u8 0, .int .u8 0, .int .u8 0, .int .u8 0, .int .u8 0, .int .u8 0, .int .u8 0, .int .u8 0, .int .u8 0, .int .u8 0] 51)) #[.int .u8 0, .int .u8 0, .int .u8 0, .int .u8 0, .int .u8 0, .int .u8 0, .int .u8 0, .int .u8 0, .int .u8 0, .int .u8 0, .int .u8 0, .int .u8 0, .int .u8 0, .int .u8 0, .int .u8 0, .int .u8 0, .int .u8 0, .int .u8 0, .int .u8 0, .int .u8 0, .int .u8 0, .int .u8 0, .int .u8 0, .int .u8 0, .int .u8 0, .int .u8 0, .int .u8 0, .int .u8 0, .int .u8 0, .int .u8 0, .int .u8 0, .int .u8 0] 51 32 (.int .u8 0) rfl
  have hs0 : (w.alloc (.cells #[.int .u8 0, .int .u8 0, .int .u8 0, .int .u8 0, .int .u8 0, .int .u8 0, .int .u8 0, .int .u8 0, .int .u8 0, .int .u8 0, .int .u8 0, .int .u8 0, .int .u8 0, .int .u8 0, .int .u8 0, .int .u8 0, .int .u8 0, .int .u8 0, .int .u8 0, .int .u8 0, .int .u8 0, .int .u8 0, .int .u8 0, .int .u8 0, .int .u8 0, .int .u8 0, .int .u8 0, .int .u8 0, .int .u8 0, .int .u8 0, .int .u8 0, .int .u8 0] 51)).heap.size = w.heap.size + 1 := by simp
  rw [hs0] at s0
  have r1 := r0.alloc (.cells #[.int .u8 0, .int .u8 0, .int .u8 0, .int .u8 0, .int .u8 0, .int .u8 0, .int .u8 0, .int .u8 0, .int .u8 0, .int .u8 0, .int .u8 0, .int .u8 0, .int .u8 0, .int .u8 0, .int .u8 0, .int .u8 0, .int .u8 0, .int .u8 0, .int .u8 0, .int .u8 0, .int .u8 0, .int .u8 0, .int .u8 0, .int .u8 0, .int .u8 0, .int .u8 0, .int .u8 0, .int .u8 0, .int .u8 0, .int .u8 0, .int .u8 0, .int .u8 0] 51)
  have hb1 := hb0.alloc hb0.size (.cells #[.int .u8 0, .int .u8 0, .int .u8 0, .int .u8 0, .int .u8 0, .int .u8 0, .int .u8 0, .int .u8 0, .int .u8 0, .int .u8 0, .int .u8 0, .int .u8 0, .int .u8 0, .int .u8 0, .int .u8 0, .int .u8 0, .int .u8 0, .int .u8 0, .int .u8 0, .int .u8 0, .int .u8 0, .int .u8 0, .int .u8 0, .int .u8 0, .int .u8 0, .int .u8 0, .int .u8 0, .int .u8 0, .int .u8 0, .int .u8 0, .int .u8 0, .int .u8 0] 51)
  have hs1 : ((w.alloc (.cells #[.int .u8 0, .int .u8 0, .int .u8 0, .int .u8 0, .int .u8 0, .int .u8 0, .int .u8 0, .int .u8 0, .int .u8 0, .int .u8 0, .int .u8 0, .int .u8 0, .int .u8 0, .int .u8 0, .int .u8 0, .int .u8 0, .int .u8 0, .int .u8 0, .int .u8 0, .int .u8 0, .int .u8 0, .int .u8 0, .int .u8 0, .int .u8 0, .int .u8 0, .int .u8 0, .int .u8 0, .int .u8 0, .int .u8 0, .int .u8 0, .int .u8 0, .int .u8 0] 51)).alloc (.cells #[.int .u8 0, .int .u8 0, .int .u8 0, .int .u8 0, .int .u8 0, .int .u8 0, .int .u8 0, .int .u8 0, .int .u8 0, .int .u8 0, .int .u8 0, .int .u8 0, .int .u8 0, .int .u8 0, .int .u8 0, .int .u8 0, .int .u8 0, .int .u8 0, .int .u8 0, .int .u8 0, .int .u8 0, .int .u8 0, .int .u8 0, .int .u8 0, .int .u8 0, .int .u8 0, .int .u8 0, .int .u8 0, .int .u8 0, .int .u8 0, .int .u8 0, .int .u8 0] 51)).heap.size = w.heap.size + 2 := by simp
  clear r0 hb0 hs0
  revert s0 r1 hb1 hs1
  generalize hwa : (w.alloc (.cells #[.int .u8 0, .int .u8 0, .int .u8 0, .int .u8 0, .int .u8 0, .int .u8 0, .int .u8 0, .int .u8 0, .int .u8 0, .int .u8 0, .int .u8 0, .int .u8 0, .int .u8 0, .int .u8 0, .int .u8 0, .int .u8 0, .int .u8 0, .int .u8 0, .int .u8 0, .int .u8 0, .int .u8 0, .int .u8 0, .int .u8 0, .int .u8 0, .int .u8 0, .int .u8 0, .int .u8 0, .int .u8 0, .int .u8 0, .int .u8 0, .int .u8 0, .int .u8 0] 51)).alloc (.cells #[.int .u8 0, .int .u8 0, .int .u8 0, .int .u8 0, .int .u8 0, .int .u8 0, .int .u8 0, .int .u8 0, .int .u8 0, .int .u8 0, .int .u8 0, .int .u8 0, .int .u8 0, .int .u8 0, .int .u8 0, .int .u8 0, .int .u8 0, .int .u8 0, .int .u8 0, .int .u8 0, .int .u8 0, .int .u8 0, .int .u8 0, .int .u8 0, .int .u8 0, .int .u8 0, .int .u8 0, .int .u8 0, .int .u8 0, .int .u8 0, .int .u8 0, .int .u8 0] 51) = wa
  intro s0 r1 hb1 hs1
  have k0 := h.below hb1 (Nat.le_refl _)
  by_cases hbad : b = true ∨ l.length < 32
  · have hR : sumR l b = (List.replicate 32 0, l, true) := by unfold sumR; rw [if_pos (by simp; exact hbad)]
    rw [hR]
    obtain ⟨v, h1, h2, h3, h4⟩ := h
    have hblk := h2.block
    have k1 : rcutIs wa c v b := h1.of_block (hb1.block c hlt)
    have k2 : isBytes wa v l := h2.below hb1 (Nat.le_refl _)
    have K := off_bad_is c v l b true 32 (by omega) wa k1 k2 (by rcases hbad with h | h; exact Or.inl h; exact Or.inr (Or.inr h))
    have q1 : rcutIs (wa.setCell ⟨c, 1, none⟩ (.bool true)) c v true := k1.set1 true
    have q2 : isBytes (wa.setCell ⟨c, 1, none⟩ (.bool true)) v l := k2.far (fun k hk => blk_setCell_other _ _ _ _ (h4 k hk).2) (by rw [nblk_setCell]; exact Nat.le_refl _)
    have hn : (wa.setCell ⟨c, 1, none⟩ (.bool true)).heap.size = w.heap.size + 2 := by rw [nblk_setCell]; exact hs1
    have fin : ∀ w2 : World, But (wa.setCell ⟨c, 1, none⟩ (.bool true)).heap.size w.heap.size (wa.setCell ⟨c, 1, none⟩ (.bool true)) w2 → rcutOf w2 B c l true ∧ But w.heap.size c w w2 := fun w2 hb2 => by
      refine ⟨⟨v, q1.of_block (hb2.block c (by omega) (by omega)), q2.far (fun k hk => hb2.block k (by have := hblk k hk; omega) (by have := hblk k hk; omega)) hb2.size, h3, h4⟩, ((But.of_below hb1 c).set 1 _).trans ⟨hb2.os, hb2.tape, hb2.output, hb2.size, fun k hk _ => hb2.block k (by omega) (by omega)⟩⟩
    have FIN : Hid _ := fin
    have rA : (wa.setCell ⟨c, 1, none⟩ (.bool true)).rowIs w.heap.size 51 32 (fun _ => .int .u8 0) := World.rowIs.setOther r1 (by show w.heap.size ≠ c; omega) _
    have rB : (wa.setCell ⟨c, 1, none⟩ (.bool true)).rowIs (w.heap.size + 1) 51 32 (fun _ => .int .u8 0) := World.rowIs.setOther s0 (by show w.heap.size + 1 ≠ c; omega) _
    have RA : Hid _ := rA
    have RB : Hid _ := rB
    clear fin q1 q2 k1 k2 h1 h2 h3 h4 k0 hblk rA rB r1 s0 hb1
    go_enter Try.func39, Try.ntmps39
    go_wp2_with fail
    clear hwa
    refine K.mono ?_
    rintro e w1 ⟨rfl, hw1⟩
    clear K
    have rA := RA.out
    have rB := RB.out
    have fin := FIN.out
    rw [← hw1] at rA rB fin hn
    have FIN2 : Hid _ := fin
    have HA : Hid _ := rA
    have HBB : Hid _ := rB
    clear FIN RA RB fin rA rB hw1
    go_wp2
    go_loop [6] (fun i => i = .int .i64 0) (fun _ => 0)
    case atStart => rfl
    case round =>
      subst hrel
      have rA := HA.out
      have rB := HBB.out
      go_wp2_with (first | (refine wpList_load_seg rfl 51 _ rfl (w.heap.size + 1) 0 32 (fun _ => .int .u8 0) rfl _ Try.underlying51 rfl hi32 (fun i hi => by rw [Nat.zero_add]; exact World.rowIs.cell rB hi) ?_) | (refine wpList_store_row rfl 51 _ _ rfl rfl w.heap.size 0 32 _ rfl rfl hi32 (fun _ _ => rfl) _ _ _ rA (by omega) ?_; intro w2 r2 hz2 hb2))
      obtain ⟨q1, q2⟩ := FIN2.out w2 hb2
      refine bodyPost_ret (results_cell_seg rfl _ _ w.heap.size 51 32 (arrV (List.replicate 32 0)) _ rfl Try.underlying51 rfl hi32 (r2.congr fun i hi => ?_)) rfl ⟨rfl, q1, q2⟩
      rw [if_pos (by omega), arrV, getD_zeros]
  · obtain rfl : b = false := by cases b; rfl; exact absurd (Or.inl rfl) hbad
    have hl32 : 32 ≤ l.length := by omega
    have hR : sumR l false = (l.take 32, l.drop 32, false) := by unfold sumR; rw [if_neg (by simp; omega)]
    rw [hR]
    have K := off_good c B l 32 wa k0 (by omega) hl32 hl
    have S0 : Hid _ := s0
    have R1 : Hid _ := r1
    have HB1 : Hid _ := hb1
    clear k0 s0 r1 hb1 hbad
    go_enter Try.func39, Try.ntmps39
    go_wp2_with fail
    clear hwa
    refine K.mono ?_
    rintro e w1 ⟨v2, v3, rfl, hn2, hc2, hb2⟩
    clear K
    rw [hs1] at hn2 hc2 hb2
    have rA : w1.rowIs w.heap.size 51 32 (fun _ => .int .u8 0) := hb2.row R1.out (by omega) (by omega)
    have rB : w1.rowIs (w.heap.size + 1) 51 32 (fun _ => .int .u8 0) := hb2.row S0.out (by omega) (by omega)
    have hsz1 := hb2.size
    rw [hs1] at hsz1
    have fin : ∀ w2 : World, w1.heap.size ≤ w2.heap.size → w2.os = w1.os → w2.tape = w1.tape → w2.output = w1.output → (∀ k, k < w1.heap.size → k ≠ w.heap.size → k ≠ w.heap.size + 1 → w2.heap[k]? = w1.heap[k]?) → rcutOf w2 B c (l.drop 32) false ∧ But w.heap.size c w w2 := fun w2 hs o1 o2 o3 hk => by
      obtain ⟨k1, k2, k3, k4⟩ := hc2
      refine ⟨⟨v3, k1.of_block (hk c (by omega) (by omega) (by omega)), k2.far (fun k hkk => hk k (k2.block k hkk) (by have := k4 k hkk; omega) (by have := k4 k hkk; omega)) hs, k3, fun k hkk => by have := k4 k hkk; omega⟩, ((But.of_below HB1.out c).trans (hb2.mono (by omega))).trans ⟨o1, o2, o3, hs, fun k hkk _ => hk k (by omega) (by omega) (by omega)⟩⟩
    have FIN : Hid _ := fin
    have hlen : (l.take 32).length = 32 := by rw [List.length_take]; omega
    have hv2 := hn2.is
    obtain ⟨pb, po, cap, he, _⟩ := isBytes.cellAt hv2 0 (by omega)
    rw [hlen] at he
    have hpb := hn2.block pb (by rw [he]; rfl)
    subst he
    have hcl : ∀ i, i < 32 → w1.cell? ⟨pb, po + i, none⟩ = some (.int .u8 ((l.take 32).getD i 0)) := fun i hi => by
      obtain ⟨pb', po', cap', he', hc'⟩ := isBytes.cellAt hv2 i (by omega)
      have e2 : (pb = pb' ∧ po = po') := by
        have := he'
        rw [hlen] at this
        simp at this
        exact ⟨this.1.1, this.1.2⟩
      obtain ⟨rfl, rfl⟩ := e2
      exact hc'
    have HCL : Hid _ := hcl
    have hby : ∀ i, 0 ≤ (l.take 32).getD i 0 ∧ (l.take 32).getD i 0 ≤ 255 := hv2.byte
    have RA : Hid _ := rA
    have RB : Hid _ := rB
    clear fin hcl hn2 hc2 hb2 rA rB hv2 S0 R1 HB1 hlen
    generalize hq : l.take 32 = q at *
    go_wp2
    go_loopw [6] (fun i wr => ∃ k : Nat, k ≤ 32 ∧ i = .int .i64 k ∧ wr.rowIs (w.heap.size + 1) 51 32 (storedB q k) ∧ wr.heap.size = w1.heap.size ∧ But w1.heap.size (w.heap.size + 1) w1 wr) (fun i _ => 32 - (intOf i).toNat)
    case atStart => exact ⟨0, by omega, rfl, World.rowIs.congr RB.out (fun i _ => by unfold storedB; rw [if_neg (by omega)]), rfl, But.refl _ _ _⟩
    case round =>
      obtain ⟨k, hk, rfl, hrow, hz, hb⟩ := hrel
      by_cases hlt2 : k < 32
      · have hc := HCL.out k hlt2
        rw [← hb.cell (k := pb) (i := po + k) (by omega) (by omega)] at hc
        have b0 : (0 : Int) ≤ (k : Int) := by omega
        have b1 : (k : Int) < 32 := by omega
        have cS := World.rowIs.cell hrow (i := k) hlt2
        have zS := World.rowIs.frozen hrow k
        have hset := World.rowIs.set hrow k (.int .u8 (q.getD k 0))
        have hrow2 : (wr.setCell ⟨w.heap.size + 1, k, none⟩ (.int .u8 (q.getD k 0))).rowIs (w.heap.size + 1) 51 32 (storedB q (k + 1)) := hset.congr (fun i _ => by
          unfold storedB
          by_cases e : i = k
          · subst e; rw [if_pos rfl, if_pos (by omega)]
          · rw [if_neg e]
            by_cases e2 : i < k
            · rw [if_pos e2, if_pos (by omega)]
            · rw [if_neg e2, if_neg (by omega)])
        have HR : Hid _ := hrow2
        have HB2 : Hid _ := hb.set k (.int .u8 (q.getD k 0))
        have HZ : Hid _ := hz
        clear hset hrow2 hrow hb hz
        go_wp2
        go_light
        exact ⟨⟨k + 1, by omega, by go_num, HR.out, by rw [nblk_setCell]; exact HZ.out, HB2.out⟩, by simp [intOf]; omega⟩
      · obtain rfl : k = 32 := by omega
        have rA := hb.row RA.out (by omega) (by omega)
        have hrow' : wr.rowIs (w.heap.size + 1) 51 32 (arrV q) := hrow.congr (fun i hi => by unfold storedB arrV; rw [if_pos hi])
        have cl : ∀ i, i < 32 → wr.cell? ⟨w.heap.size + 1, 0 + i, none⟩ = some (arrV q i) := fun i hi => by rw [Nat.zero_add]; exact World.rowIs.cell hrow' hi
        have CL : Hid _ := cl
        clear hrow cl hrow'
        go_wp2_with (first | (refine wpList_load_seg rfl 51 _ rfl (w.heap.size + 1) 0 32 (arrV q) rfl _ Try.underlying51 rfl hi32 CL.out ?_) | (refine wpList_store_row rfl 51 _ _ rfl rfl w.heap.size 0 32 (arrV q) rfl rfl hi32 (fun _ _ => rfl) _ _ _ rA (by omega) ?_; intro w2 r2 hz2 hb2))
        obtain ⟨q1, q2⟩ := FIN.out w2 (by have := hb.size; have := hb2.size; omega) (hb2.os.trans hb.os) (hb2.tape.trans hb.tape) (hb2.output.trans hb.output) (fun k hk h1 h2 => (hb2.block k (by omega) h1).trans (hb.block k hk h2))
        subst hq
        refine bodyPost_ret (results_cell_seg rfl _ _ w.heap.size 51 32 (arrV (l.take 32)) _ rfl Try.underlying51 rfl hi32 (r2.congr fun i hi => ?_)) rfl ⟨rfl, q1, q2⟩
        rw [if_pos (by omega)]; rfl
end Go.Proofs.Ytldjefhgbigplaa
