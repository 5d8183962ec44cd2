import Derived.Test.YtcfbaijibghcaaaDoorSealClash
import Derived.Lib.SlBytesConst
/- The chapter's examples. -/
namespace Go.Proofs.YtcfbaijibghcaaaDoor
set_option linter.unusedSimpArgs false
set_option linter.unusedVariables false
open Go.RowKit Go.Deep

theorem bytes_ok {l : List Int} (h : l.all (fun b => decide (0 ≤ b) && decide (b ≤ 255)) = true) (i : Nat) : 0 ≤ l.getD i 0 ∧ l.getD i 0 ≤ 255 := by
  rw [List.getD_eq_getElem?_getD]
  cases e : l[i]? with
  | none => exact ⟨by simp, by simp⟩
  | some x =>
    have := List.all_eq_true.1 h x (List.mem_of_getElem? e)
    simpa using this
theorem zero_sum : ∀ w : World, (zeroValue 23).run Tryd.prog w = .ok (.agg (rowV 32 (fun _ => .int .u8 0))) w := fun w => by kernel_rfl
theorem strA_ne : strOf [97] ≠ strOf [98] := by decide
theorem nts1 (x : Nt) : addN [] x = [x] := rfl
theorem nts2 (q : List Int) : addN [(q, strOf [97])] (q, strOf [98]) = [(q, strOf [97]), (q, strOf [98])] := addN_out (by simp [strA_ne.symm])
theorem nts3 (q : List Int) : addN [(q, strOf [97]), (q, strOf [98])] (q, strOf [97]) = [(q, strOf [97]), (q, strOf [98])] := addN_in (by simp)
theorem nts4 (q : List Int) : firstAt [(q, strOf [97]), (q, strOf [98])] q = some 0 := by simp [firstAt, List.findIdx?_cons]
theorem nts5 (q : List Int) : foundB [(q, strOf [97]), (q, strOf [98])] q = [97] := by
  unfold foundB; rw [nts4]; show sBytes (strOf [97]) = [97]; decide +kernel
theorem nts6 (q : List Int) : clashGo [] [(q, strOf [97]), (q, strOf [98])] = some (strOf [97], strOf [98]) := by
  have e0 : firstAt [] q = none := rfl
  have e1 : firstAt [(q, strOf [97])] q = some 0 := by simp [firstAt, List.findIdx?_cons]
  have e2 : foundN [(q, strOf [97])] q = (q, strOf [97]) := by unfold foundN; rw [e1]; rfl
  rw [clashGo, if_neg (by rw [e0]; simp), nts1, clashGo]
  simp only [e1, e2]
  rw [if_pos ⟨rfl, fun h => strA_ne (Prod.mk.inj h).2⟩]
theorem pre_a : preB 1 1 (fun _ => [97]) = [1, 1, 1, 97] := by decide +kernel
theorem pre_ab : preB 2 2 (fun i => if i = 0 then [] else [97, 98]) = [2, 0, 1, 2, 97, 98] := by decide +kernel
theorem parts_one (w : World) (v : Value) (p : List Int) (h : isBytes w v p) : isParts (w.alloc (.cells #[v] 36)) (.slice (some ⟨w.heap.size, 0, none⟩) 1 1) 1 (fun _ => p) :=
  Or.inr ⟨w.heap.size, 0, 1, fun _ => v, rfl, by simp, by unfold maxLen; omega, fun i hi => by
    obtain rfl : i = 0 := by omega
    exact ⟨one_cell w _ _, Or.inl (h.below ((Below.refl _ _).alloc (Nat.le_refl _) _) (Nat.le_refl _))⟩⟩
/-- []byte of a constant. -/
theorem const_bytes (w : World) (C : Array Value) (l : List Int) (n : Nat) (hC : C = (l.map (Value.int .u8)).toArray) (hn : n = l.length) (hl : l.length ≤ 1000) (hb : ∀ i, 0 ≤ l.getD i 0 ∧ l.getD i 0 ≤ 255) :
    ∃ w', (convert 36 36 (.slice (some ⟨w.heap.size, 0, none⟩) n n)).run Tryd.prog (w.alloc (.cells C 5)) = .ok (.slice (some ⟨w.heap.size, 0, none⟩) n n) w' ∧ isBytes w' (.slice (some ⟨w.heap.size, 0, none⟩) n n) l ∧ Below w.heap.size w w' ∧ w'.heap.size = w.heap.size + 1 := by
  refine ⟨_, Go.Lib.run_convert_bytes_const w 36 5 C n n Tryd.underlying36 Tryd.underlying5, Or.inr ⟨w.heap.size, 0, n, by rw [hn], by omega, by unfold maxLen; omega, by simp, fun i hi => ?_, hb⟩, (Below.refl _ _).alloc (Nat.le_refl _) _, by simp⟩
  have h1 : (w.alloc (.cells C 5 (C.size, C.size + 1))).heap[w.heap.size]? = some (.cells C 5 (C.size, C.size + 1)) := blk_alloc_new _ _
  have h2 : C[i]? = some (.int .u8 (l.getD i 0)) := by rw [hC, List.getElem?_toArray]; exact getElem?_u8 hi
  rw [Nat.zero_add]
  unfold World.cell?
  simp only [h1]
  exact h2
/-- a book that Of is asked twice. -/
theorem Gr.ge {F : Nat → Prop} {w w' : World} {B : Nat} (h : ∀ j, F j → B ≤ j) (hB : B ≤ w.heap.size) : ∀ j, Gr F w w' j → B ≤ j := fun j hj => by
  rcases hj with hj | hj
  · exact h j hj
  · omega
set_option maxHeartbeats 4000000 in
set_option maxRecDepth 100000 in
theorem awake_any (w : World) (ht : tabIs w) : Calls Tryd.prog 10 #[] w fun e w' => e = .returned (.bool true) ∧ Below w.heap.size w w' := by
  have ht0 := ht.1
  have hz32 := zero_sum
  obtain ⟨q, hq⟩ : ∃ q, q = sumL [1, 1, 1, 97] := ⟨_, rfl⟩
  have hqs : isSum q := hq ▸ sumL_is _
  have HQ : Hid (q = sumL [1, 1, 1, 97]) := (show q = sumL [1, 1, 1, 97] from hq)
  clear hq
  -- the first book, and one part
  obtain ⟨w0, hw0⟩ : ∃ w0, w0 = w.alloc (.cells #[.pointer none] 29) := ⟨_, rfl⟩
  have s0 : w0.heap.size = w.heap.size + 1 := by rw [hw0]; simp
  have b0 : Below w.heap.size w w0 := by rw [hw0]; exact (Below.refl _ _).alloc (Nat.le_refl _) _
  have k0 : bookAt w0 (fun j => j = w.heap.size) w.heap.size [] 0 := bookAt.new w w0 w.heap.size (by
    rw [hw0]; exact rowIs_new w _ _ 1 _ rfl (fun i hi => by
      obtain rfl : i = 0 := by omega
      rfl))
  obtain ⟨w1, cv1, p1, b1, s1⟩ := const_bytes w0 #[.int .u8 97] [97] 1 rfl rfl (by simp) (bytes_ok (by decide))
  obtain ⟨w2, hw2⟩ : ∃ w2, w2 = w1.alloc (.cells #[.slice (some ⟨w0.heap.size, 0, none⟩) 1 1] 36) := ⟨_, rfl⟩
  have b2 : Below w1.heap.size w1 w2 := by rw [hw2]; exact (Below.refl _ _).alloc (Nat.le_refl _) _
  have p2 := parts_one w1 _ [97] p1
  rw [← hw2] at p2
  have s2 : w2.heap.size = w1.heap.size + 1 := by rw [hw2]; simp
  have b02 : Below w0.heap.size w0 w2 := b1.trans (b2.mono (by omega))
  have X := of_any _ w.heap.size [] 0 1 1 _ (fun _ => [97]) w2 (k0.below b02 (Nat.le_refl _)) p2.any (fun i hi => by
    have : i = 0 ∨ i = 1 := by omega
    rcases this with rfl | rfl <;> decide +kernel) (ht.below (b0.trans (b02.mono (by omega))) ht0) (by omega) (by decide) ⟨by omega, by omega⟩
  rw [pre_a, ← HQ.out, nts1] at X
  have S0 : Hid (w0.heap.size = w.heap.size + 1) := (show w0.heap.size = w.heap.size + 1 from s0)
  have S2 : Hid (w2.heap.size = w.heap.size + 3) := (show w2.heap.size = w.heap.size + 3 by omega)
  clear s0 s1 s2
  unfold sumV at X
  go_enter Tryd.func10, Tryd.ntmps10
  go_upto_region 2 with fail
  rw [← hw0]
  clear hw0
  go_wp2_with (first | (refine wpList_convert_run rfl _ _ _ rfl rfl cv1 ?_))
  rw [← hw2]
  clear hw2
  refine X.mono ?_
  rintro e w3 ⟨rfl, k3, f3⟩
  have s0 := S0.out
  have s2 := S2.out
  have g1 : ∀ j, (fun j => j = w.heap.size) j → w.heap.size ≤ j := fun j hj => Nat.le_of_eq hj.symm
  have g3 : ∀ j, Gr (fun j => j = w.heap.size) w2 w3 j → w.heap.size ≤ j := Gr.ge g1 (by omega)
  have B3 : Below w.heap.size w w3 := (b0.trans (b02.mono (by omega))).trans (f3.below g1 (by omega))
  clear X b0 b02 b1 b2 p1 p2 k0 cv1 f3 s0 s2 S0 S2
  obtain ⟨w4, cv4, p4, b4, s4⟩ := const_bytes w3 #[.int .u8 97] [97] 1 rfl rfl (by simp) (bytes_ok (by decide))
  obtain ⟨w5, hw5⟩ : ∃ w5, w5 = w4.alloc (.cells #[.slice (some ⟨w3.heap.size, 0, none⟩) 1 1] 36) := ⟨_, rfl⟩
  have b5 : Below w4.heap.size w4 w5 := by rw [hw5]; exact (Below.refl _ _).alloc (Nat.le_refl _) _
  have p5 := parts_one w4 _ [97] p4
  rw [← hw5] at p5
  have s5 : w5.heap.size = w4.heap.size + 1 := by rw [hw5]; simp
  have b35 : Below w3.heap.size w3 w5 := b4.trans (b5.mono (by omega))
  have hs3 := B3.size
  have hs35 := b35.size
  have X := of_any _ w.heap.size _ _ 1 1 _ (fun _ => [97]) w5 (k3.below b35 (Nat.le_refl _)) p5.any (fun i hi => by
    have : i = 0 ∨ i = 1 := by omega
    rcases this with rfl | rfl <;> decide +kernel) (ht.below (B3.trans (b35.mono hs3)) ht0) (fun h => by have := g3 0 h; omega) (by simp) ⟨by omega, by omega⟩
  rw [pre_a, ← HQ.out, addN_in (List.mem_singleton.2 rfl)] at X
  unfold sumV at X
  have HB3 : Hid (Below w.heap.size w w5) := (show Below w.heap.size w w5 from B3.trans (b35.mono hs3))
  have HG3 : Hid (∀ j, Gr (fun j => j = w.heap.size) w2 w3 j → w.heap.size ≤ j) := (show ∀ j, Gr (fun j => j = w.heap.size) w2 w3 j → w.heap.size ≤ j from g3)
  clear B3 b35 b4 b5 s4 s5 p4 p5 k3 hs3 hs35 g1 g3
  go_wp2_with (first | (refine wpList_convert_run rfl _ _ _ rfl rfl cv4 ?_))
  rw [← hw5]
  clear hw5
  refine X.mono ?_
  rintro e w6 ⟨rfl, k6, f6⟩
  have hs5 := HB3.out.size
  have g6 : ∀ j, Gr (Gr (fun j => j = w.heap.size) w2 w3) w5 w6 j → w.heap.size ≤ j := Gr.ge HG3.out (by omega)
  have B6 : Below w.heap.size w w6 := HB3.out.trans (f6.below HG3.out (by omega))
  have hs6 := B6.size
  clear X cv4 f6 hs5
  have rz1 := rowIs_box w6 23 32 (fun _ => .int .u8 0)
  have rz2 := rowIs_box (w6.alloc (.cells (rowV 32 (fun _ => .int .u8 0)) 23)) 23 32 (fun _ => .int .u8 0)
  have rz1' := World.rowIs.alloc rz1 (.cells (rowV 32 (fun _ => .int .u8 0)) 23)
  have zz1 : (w6.alloc (.cells (rowV 32 (fun _ => .int .u8 0)) 23)).heap.size = w6.heap.size + 1 := by simp
  have zz2 : ((w6.alloc (.cells (rowV 32 (fun _ => .int .u8 0)) 23)).alloc (.cells (rowV 32 (fun _ => .int .u8 0)) 23)).heap.size = w6.heap.size + 2 := by simp
  rw [zz1] at rz2
  have bz : Below w6.heap.size w6 ((w6.alloc (.cells (rowV 32 (fun _ => .int .u8 0)) 23)).alloc (.cells (rowV 32 (fun _ => .int .u8 0)) 23)) := ((Below.refl _ _).alloc (Nat.le_refl _) _).alloc (by simp) _
  have B6' : Hid (Below w.heap.size w w6) := (show Below w.heap.size w w6 from B6)
  have K6 : Hid (bookAt w6 (Gr (Gr (fun j => j = w.heap.size) w2 w3) w5 w6) w.heap.size [(q, strOf [1, 1, 1, 97])] (0 + 1 + 1)) := (show bookAt w6 (Gr (Gr (fun j => j = w.heap.size) w2 w3) w5 w6) w.heap.size [(q, strOf [1, 1, 1, 97])] (0 + 1 + 1) from k6)
  have ZZ2 : Hid _ := zz2
  clear B6 k6 rz1 zz1 zz2
  go_upto_region 3 with (first | (refine wpList_store_row rfl 23 (.tmp 2) (.tmp 16) rfl rfl w6.heap.size 0 32 (arrV q) rfl rfl hi32' (fun _ _ => rfl) _ _ _ rz1' (by omega) ?_; intro w9 r9 hz9 hb9) | (refine wpList_store_row rfl 23 (.tmp 3) (.tmp 21) rfl rfl (w6.heap.size + 1) 0 32 (arrV q) rfl rfl hi32' (fun _ _ => rfl) _ _ _ (But.row hb9 rz2 (by rw [ZZ2.out]; omega) (by omega)) (by omega) ?_; intro w10 r10t hz10 hb10))
  have hz9' : w9.heap.size = w6.heap.size + 2 := hz9.trans ZZ2.out
  have hz10' : w10.heap.size = w6.heap.size + 2 := hz10.trans hz9'
  have r10 : w10.rowIs w6.heap.size 23 32 (arrV q) := (hb10.row r9 (by omega) (by omega)).congr fun i hi => by rw [if_pos (by omega), Nat.sub_zero]
  have r10t' : w10.rowIs (w6.heap.size + 1) 23 32 (arrV q) := r10t.congr fun i hi => by rw [if_pos (by omega), Nat.sub_zero]
  have b610 : Below w6.heap.size w6 w10 := (bz.trans ((hb9.mono (by rw [ZZ2.out]; omega)).below (Nat.le_refl _))).trans ((hb10.mono (by omega)).below (by omega))
  have K10 : Hid (bookAt w10 (Gr (Gr (fun j => j = w.heap.size) w2 w3) w5 w6) w.heap.size [(q, strOf [1, 1, 1, 97])] 2) := (show bookAt w10 (Gr (Gr (fun j => j = w.heap.size) w2 w3) w5 w6) w.heap.size [(q, strOf [1, 1, 1, 97])] 2 from bookAt.below K6.out b610 (Nat.le_refl _))
  have HB10 : Hid (Below w.heap.size w w10) := (show Below w.heap.size w w10 from B6'.out.trans (b610.mono hs6))
  have Z10 : Hid (w10.heap.size = w6.heap.size + 2) := (show w10.heap.size = w6.heap.size + 2 from hz10')
  clear hb9 hb10 hz9 hz10 hz9' r9 r10t b610 bz rz1' rz2 K6 B6' ZZ2
  -- the second book
  obtain ⟨w11, hw11⟩ : ∃ w11, w11 = w10.alloc (.cells #[.pointer none] 29) := ⟨_, rfl⟩
  have B11 : Below w10.heap.size w10 w11 := by rw [hw11]; exact (Below.refl _ _).alloc (Nat.le_refl _) _
  have k11 : bookAt w11 (fun j => j = w10.heap.size) w10.heap.size [] 0 := bookAt.new w10 w11 w10.heap.size (by
    rw [hw11]; exact rowIs_new w10 _ _ 1 _ rfl (fun i hi => by
      obtain rfl : i = 0 := by omega
      rfl))
  have g11 : ∀ j, (fun j => j = w10.heap.size) j → w10.heap.size ≤ j := fun j hj => Nat.le_of_eq hj.symm
  clear hz10'
  go_upto_region 4 with fail
  rw [← hw11]
  clear hw11
  obtain ⟨w20a, cv20, p20, b20, s20⟩ := const_bytes w11 #[.int .u8 97] [97] 1 rfl rfl (by simp) (bytes_ok (by decide))
  have X20 := note_any (fun j => j = w10.heap.size) w10.heap.size [] 0 q [97] _ w20a (k11.below b20 (Nat.le_refl _)) hqs (Or.inl p20) (fun j hj hf => by
    have h1 : w11.heap.size = j := by simpa [Value.ownBlock] using hj
    have h2 := k11.2.1 j hf
    omega) (by simp)
  rw [nts1] at X20
  unfold sumV at X20
  have ld20 : ∀ i, i < 32 → w11.cell? ⟨w6.heap.size, 0 + i, none⟩ = some (arrV q i) := fun i hi => by rw [Nat.zero_add]; have := Z10.out; exact (B11.row r10 (by omega)).cell hi
  have HB11 : Hid (Below w10.heap.size w10 w11) := (show Below w10.heap.size w10 w11 from B11)
  have HK11 : Hid (bookAt w11 (fun j => j = w10.heap.size) w10.heap.size [] 0) := (show bookAt w11 (fun j => j = w10.heap.size) w10.heap.size [] 0 from k11)
  have HF20 : Hid (Below w11.heap.size w11 w20a) := (show Below w11.heap.size w11 w20a from b20)
  have HS20 : Hid (w20a.heap.size = w11.heap.size + 1) := (show w20a.heap.size = w11.heap.size + 1 from s20)
  clear B11 k11 b20 s20 p20
  go_wp2_with (first | (refine wpList_load_seg rfl 23 (.tmp 2) rfl w6.heap.size 0 32 (arrV q) rfl _ Tryd.underlying23 rfl hi32' ld20 ?_) | (refine wpList_convert_run rfl _ _ _ rfl rfl cv20 ?_))
  refine X20.mono ?_
  rintro e w20b ⟨rfl, k20b, f20⟩
  clear X20 cv20 ld20
  have g20 : ∀ j, Gr (fun j => j = w10.heap.size) w20a w20b j → w10.heap.size ≤ j := Gr.ge g11 (by have := HS20.out; have := HB11.out.size; omega)
  have B20 : Below w10.heap.size w10 w20b := HB11.out.trans ((HF20.out.mono HB11.out.size).trans (f20.below g11 (by have := HS20.out; have := HB11.out.size; omega)))
  clear f20
  go_upto_region 5 with fail
  obtain ⟨w21a, cv21, p21, b21, s21⟩ := const_bytes w20b #[.int .u8 98] [98] 1 rfl rfl (by simp) (bytes_ok (by decide))
  have X21 := note_any (Gr (fun j => j = w10.heap.size) w20a w20b) w10.heap.size [(q, strOf [97])] 0 q [98] _ w21a (k20b.below b21 (Nat.le_refl _)) hqs (Or.inl p21) (fun j hj hf => by
    have h1 : w20b.heap.size = j := by simpa [Value.ownBlock] using hj
    have h2 := k20b.2.1 j hf
    omega) (by simp)
  rw [nts2] at X21
  unfold sumV at X21
  have ld21 : ∀ i, i < 32 → w20b.cell? ⟨w6.heap.size, 0 + i, none⟩ = some (arrV q i) := fun i hi => by rw [Nat.zero_add]; have := Z10.out; exact (B20.row r10 (by omega)).cell hi
  have HB20 : Hid (Below w10.heap.size w10 w20b) := (show Below w10.heap.size w10 w20b from B20)
  have HK20 : Hid (bookAt w20b (Gr (fun j => j = w10.heap.size) w20a w20b) w10.heap.size [(q, strOf [97])] 0) := (show bookAt w20b (Gr (fun j => j = w10.heap.size) w20a w20b) w10.heap.size [(q, strOf [97])] 0 from k20b)
  have HF21 : Hid (Below w20b.heap.size w20b w21a) := (show Below w20b.heap.size w20b w21a from b21)
  have HS21 : Hid (w21a.heap.size = w20b.heap.size + 1) := (show w21a.heap.size = w20b.heap.size + 1 from s21)
  clear B20 k20b b21 s21 p21
  go_wp2_with (first | (refine wpList_load_seg rfl 23 (.tmp 2) rfl w6.heap.size 0 32 (arrV q) rfl _ Tryd.underlying23 rfl hi32' ld21 ?_) | (refine wpList_convert_run rfl _ _ _ rfl rfl cv21 ?_))
  refine X21.mono ?_
  rintro e w21b ⟨rfl, k21b, f21⟩
  clear X21 cv21 ld21
  have g21 : ∀ j, Gr (Gr (fun j => j = w10.heap.size) w20a w20b) w21a w21b j → w10.heap.size ≤ j := Gr.ge g20 (by have := HS21.out; have := HB20.out.size; omega)
  have B21 : Below w10.heap.size w10 w21b := HB20.out.trans ((HF21.out.mono HB20.out.size).trans (f21.below g20 (by have := HS21.out; have := HB20.out.size; omega)))
  clear f21
  go_upto_region 6 with fail
  obtain ⟨w22a, cv22, p22, b22, s22⟩ := const_bytes w21b #[.int .u8 97] [97] 1 rfl rfl (by simp) (bytes_ok (by decide))
  have X22 := note_any (Gr (Gr (fun j => j = w10.heap.size) w20a w20b) w21a w21b) w10.heap.size [(q, strOf [97]), (q, strOf [98])] 0 q [97] _ w22a (k21b.below b22 (Nat.le_refl _)) hqs (Or.inl p22) (fun j hj hf => by
    have h1 : w21b.heap.size = j := by simpa [Value.ownBlock] using hj
    have h2 := k21b.2.1 j hf
    omega) (by simp)
  rw [nts3] at X22
  unfold sumV at X22
  have ld22 : ∀ i, i < 32 → w21b.cell? ⟨w6.heap.size, 0 + i, none⟩ = some (arrV q i) := fun i hi => by rw [Nat.zero_add]; have := Z10.out; exact (B21.row r10 (by omega)).cell hi
  have HB21 : Hid (Below w10.heap.size w10 w21b) := (show Below w10.heap.size w10 w21b from B21)
  have HK21 : Hid (bookAt w21b (Gr (Gr (fun j => j = w10.heap.size) w20a w20b) w21a w21b) w10.heap.size [(q, strOf [97]), (q, strOf [98])] 0) := (show bookAt w21b (Gr (Gr (fun j => j = w10.heap.size) w20a w20b) w21a w21b) w10.heap.size [(q, strOf [97]), (q, strOf [98])] 0 from k21b)
  have HF22 : Hid (Below w21b.heap.size w21b w22a) := (show Below w21b.heap.size w21b w22a from b22)
  have HS22 : Hid (w22a.heap.size = w21b.heap.size + 1) := (show w22a.heap.size = w21b.heap.size + 1 from s22)
  clear B21 k21b b22 s22 p22
  go_wp2_with (first | (refine wpList_load_seg rfl 23 (.tmp 2) rfl w6.heap.size 0 32 (arrV q) rfl _ Tryd.underlying23 rfl hi32' ld22 ?_) | (refine wpList_convert_run rfl _ _ _ rfl rfl cv22 ?_))
  refine X22.mono ?_
  rintro e w22b ⟨rfl, k22b, f22⟩
  clear X22 cv22 ld22
  have g22 : ∀ j, Gr (Gr (Gr (fun j => j = w10.heap.size) w20a w20b) w21a w21b) w22a w22b j → w10.heap.size ≤ j := Gr.ge g21 (by have := HS22.out; have := HB21.out.size; omega)
  have B22 : Below w10.heap.size w10 w22b := HB21.out.trans ((HF22.out.mono HB21.out.size).trans (f22.below g21 (by have := HS22.out; have := HB21.out.size; omega)))
  clear f22
  go_upto_region 7 with fail
  have hts : ∀ x ∈ ([(q, strOf [97]), (q, strOf [98])] : List Nt), x.2.size ≤ 1000000000 := fun x hx => by
    simp only [List.mem_cons, List.not_mem_nil, or_false] at hx
    rcases hx with rfl | rfl <;> (rw [strOf_size]; decide)
  have X30 := findB_any _ w10.heap.size _ 0 q w22b k22b hqs hts
  rw [nts4, nts5] at X30
  unfold sumV at X30
  have ld30 : ∀ i, i < 32 → w22b.cell? ⟨w6.heap.size, 0 + i, none⟩ = some (arrV q i) := fun i hi => by rw [Nat.zero_add]; exact (B22.row r10 (by have := Z10.out; omega)).cell hi
  have HB22 : Hid (Below w10.heap.size w10 w22b) := (show Below w10.heap.size w10 w22b from B22)
  have HK22 : Hid (bookAt w22b (Gr (Gr (Gr (fun j => j = w10.heap.size) w20a w20b) w21a w21b) w22a w22b) w10.heap.size [(q, strOf [97]), (q, strOf [98])] 0) := (show bookAt w22b (Gr (Gr (Gr (fun j => j = w10.heap.size) w20a w20b) w21a w21b) w22a w22b) w10.heap.size [(q, strOf [97]), (q, strOf [98])] 0 from k22b)
  clear B22 k22b
  go_wp2_with (first | (refine wpList_load_seg rfl 23 (.tmp 2) rfl w6.heap.size 0 32 (arrV q) rfl _ Tryd.underlying23 rfl hi32' ld30 ?_))
  refine X30.mono ?_
  rintro e w30 ⟨vx, rfl, ix, _, b30⟩
  obtain ⟨xa, xc, rfl, _⟩ := ix.slice
  have B30 : Below w10.heap.size w10 w30 := HB22.out.trans (b30.mono HB22.out.size)
  have k30 : bookAt w30 (Gr (Gr (Gr (fun j => j = w10.heap.size) w20a w20b) w21a w21b) w22a w22b) w10.heap.size [(q, strOf [97]), (q, strOf [98])] 0 := bookAt.below HK22.out b30 (Nat.le_refl _)
  clear X30 ld30 b30 HB22 HK22
  have H30 : Hid (isBytes w30 (.slice xa [(97 : Int)].length xc) [97]) := (show isBytes w30 (.slice xa [(97 : Int)].length xc) [97] from ix)
  clear ix
  -- Clash
  obtain ⟨w31, hw31⟩ : ∃ w31, w31 = w30.alloc (.cells #[.pointer (some ⟨w10.heap.size, 0, none⟩)] 26) := ⟨_, rfl⟩
  have b31 : Below w30.heap.size w30 w31 := by rw [hw31]; exact (Below.refl _ _).alloc (Nat.le_refl _) _
  have s31 : w31.heap.size = w30.heap.size + 1 := by rw [hw31]; simp
  have bk : isBooks w31 (.slice (some ⟨w30.heap.size, 0, none⟩) 1 1) 1 (fun _ => [(q, strOf [97]), (q, strOf [98])]) := Or.inr ⟨w30.heap.size, 0, 1, fun _ => .pointer (some ⟨w10.heap.size, 0, none⟩), rfl, by omega, by unfold maxLen; omega, fun i hi => by
    obtain rfl : i = 0 := by omega
    exact ⟨by rw [hw31]; exact one_cell w30 _ _, Or.inr ⟨w10.heap.size, _, 0, rfl, k30.below b31 (Nat.le_refl _)⟩⟩⟩
  have X32 := clash_any 1 _ _ w31 bk (by simp [joinF]) (fun i _ => hts)
  rw [show joinF (fun _ => [(q, strOf [97]), (q, strOf [98])]) 0 1 = [(q, strOf [97]), (q, strOf [98])] from rfl, nts6] at X32
  have HB31 : Hid (Below w10.heap.size w10 w31) := (show Below w10.heap.size w10 w31 from B30.trans (b31.mono B30.size))
  have H31 : Hid (isBytes w31 (.slice xa [(97 : Int)].length xc) [97]) := (show isBytes w31 (.slice xa [(97 : Int)].length xc) [97] from isBytes.below H30.out b31 (Nat.le_refl _))
  clear B30 b31 s31 bk k30 H30 hts
  go_upto_region 8 with fail
  go_wp2_with fail
  rw [← hw31]
  clear hw31
  refine X32.mono ?_
  rintro e w32 ⟨va, vb, fb, rfl, ⟨ia, ib, _, _, rfl⟩, b32⟩
  obtain ⟨aa, ac, rfl, _⟩ := ia.slice
  obtain ⟨ba, bc, rfl, _⟩ := ib.slice
  rw [show sBytes (strOf [97]) = [97] from by decide +kernel] at ia
  rw [show sBytes (strOf [98]) = [98] from by decide +kernel] at ib
  have B32 : Below w10.heap.size w10 w32 := HB31.out.trans (b32.mono HB31.out.size)
  have i32 := isBytes.below H31.out b32 (Nat.le_refl _)
  clear X32 b32 HB31 H31
  -- Preimage
  obtain ⟨w33, cv33, p33, b33, s33⟩ := const_bytes w32 #[.int .u8 97, .int .u8 98] [97, 98] 2 rfl rfl (by simp) (bytes_ok (by decide))
  obtain ⟨w34, hw34⟩ : ∃ w34, w34 = w33.alloc (.cells #[.slice none 0 0, .slice (some ⟨w32.heap.size, 0, none⟩) 2 2] 36) := ⟨_, rfl⟩
  have b34 : Below w33.heap.size w33 w34 := by rw [hw34]; exact (Below.refl _ _).alloc (Nat.le_refl _) _
  have s34 : w34.heap.size = w33.heap.size + 1 := by rw [hw34]; simp
  have p34 : isParts w34 (.slice (some ⟨w33.heap.size, 0, none⟩) 2 2) 2 (fun i => if i = 0 then [] else [97, 98]) := by
    have hr : w34.rowIs w33.heap.size 36 2 (fun i => if i = 0 then .slice none 0 0 else .slice (some ⟨w32.heap.size, 0, none⟩) 2 2) := by
      rw [hw34]; exact rowIs_new w33 _ _ 2 _ rfl (fun i hi => by
        have : i = 0 ∨ i = 1 := by omega
        rcases this with rfl | rfl <;> rfl)
    refine Or.inr ⟨w33.heap.size, 0, 2, _, rfl, by omega, by unfold maxLen; omega, fun i hi => ⟨by rw [Nat.zero_add]; exact hr.cell hi, ?_⟩⟩
    have : i = 0 ∨ i = 1 := by omega
    rcases this with rfl | rfl
    · exact Or.inl (Or.inl ⟨rfl, rfl⟩)
    · exact Or.inl (p33.below b34 (Nat.le_refl _))
  have X35 := pre_any 2 2 _ _ w34 p34.any (fun i hi => by
    have : i = 0 ∨ i = 1 ∨ i = 2 := by omega
    rcases this with rfl | rfl | rfl <;> decide +kernel)
  rw [pre_ab] at X35
  have b324 : Below w32.heap.size w32 w34 := b33.trans (b34.mono (by omega))
  have B34 : Hid (Below w10.heap.size w10 w34) := (show Below w10.heap.size w10 w34 from B32.trans (b324.mono B32.size))
  have IA : Hid (isBytes w34 (.slice aa (sBytes (strOf [97])).length ac) [97]) := (show isBytes w34 (.slice aa (sBytes (strOf [97])).length ac) [97] from ia.below b324 (Nat.le_refl _))
  have IB : Hid (isBytes w34 (.slice ba (sBytes (strOf [98])).length bc) [98]) := (show isBytes w34 (.slice ba (sBytes (strOf [98])).length bc) [98] from ib.below b324 (Nat.le_refl _))
  have IX : Hid (isBytes w34 (.slice xa [(97 : Int)].length xc) [97]) := (show isBytes w34 (.slice xa [(97 : Int)].length xc) [97] from i32.below b324 (Nat.le_refl _))
  clear B32 b33 b34 s33 s34 p33 p34 b324 ia ib i32
  go_upto_region 9 with fail
  go_wp2_with (first | (refine wpList_convert_run rfl _ _ _ rfl rfl cv33 ?_))
  rw [← hw34]
  clear hw34
  refine X35.mono ?_
  rintro e w35 ⟨v35, rfl, n35, b35⟩
  obtain ⟨za, zc, rfl, _⟩ := n35.is.slice
  have cv35 := conv8 w35 _ _ n35.is
  rw [show strOf [2, 0, 1, 2, 97, 98] = ⟨#[2, 0, 1, 2, 97, 98]⟩ from by decide +kernel] at cv35
  have B35 : Below w10.heap.size w10 w35 := B34.out.trans (b35.mono B34.out.size)
  have lds : ∀ i, i < 32 → w35.cell? ⟨w6.heap.size, 0 + i, none⟩ = some (arrV q i) := fun i hi => by rw [Nat.zero_add]; exact (B35.row r10 (by have := Z10.out; omega)).cell hi
  have ldt : ∀ i, i < 32 → w35.cell? ⟨w6.heap.size + 1, 0 + i, none⟩ = some (arrV q i) := fun i hi => by rw [Nat.zero_add]; exact (B35.row r10t' (by have := Z10.out; omega)).cell hi
  have heq : ∀ wz : World, (Op.equalIn 10000 23 (.agg (rowV 32 (arrV q))) (.agg (rowV 32 (arrV q)))).run Tryd.prog wz = .ok true wz := fun wz => by
    have := run_eq_sums wz 9998 hqs hqs
    simpa [sumV] using this
  have k35 : bookAt w35 (Gr (Gr (fun j => j = w.heap.size) w2 w3) w5 w6) w.heap.size [(q, strOf [1, 1, 1, 97])] 2 := bookAt.below K10.out B35 (Nat.le_refl _)
  have IA2 : Hid (isBytes w35 (.slice aa (sBytes (strOf [97])).length ac) [97]) := (show isBytes w35 (.slice aa (sBytes (strOf [97])).length ac) [97] from isBytes.below IA.out b35 (Nat.le_refl _))
  have IB2 : Hid (isBytes w35 (.slice ba (sBytes (strOf [98])).length bc) [98]) := (show isBytes w35 (.slice ba (sBytes (strOf [98])).length bc) [98] from isBytes.below IB.out b35 (Nat.le_refl _))
  have IX2 : Hid (isBytes w35 (.slice xa [(97 : Int)].length xc) [97]) := (show isBytes w35 (.slice xa [(97 : Int)].length xc) [97] from isBytes.below IX.out b35 (Nat.le_refl _))
  have X36 := calls_any _ w.heap.size _ 2 w35 k35
  have X37 := all_any _ w.heap.size _ 2 w35 k35 (by simp) (fun x hx => by
    have : x = (q, strOf [1, 1, 1, 97]) := by simpa using hx
    rw [this, strOf_size]; decide)
  have HB35 : Hid (Below w10.heap.size w10 w35) := (show Below w10.heap.size w10 w35 from B35)
  clear X35 n35 b35 B35 k35 IA IB IX B34 cv33
  go_wp2_with (first | (refine wpList_convert_run rfl _ _ _ rfl rfl cv35 ?_) | (refine wpList_load_w 23 (.tmp 2) rfl rfl w6.heap.size 0 32 (arrV q) rfl _ Tryd.underlying23 rfl hi32' lds ?_) | (refine wpList_load_w 23 (.tmp 3) rfl rfl (w6.heap.size + 1) 0 32 (arrV q) rfl _ Tryd.underlying23 rfl hi32' ldt ?_))
  refine X36.mono ?_
  rintro e w' ⟨rfl, hw⟩
  obtain rfl := hw.symm
  clear hw X36 lds ldt heq cv35
  go_wp2_with fail
  refine X37.mono ?_
  rintro e w37 ⟨v37, rfl, m37, b37⟩
  obtain ⟨ya, yc, rfl, _, _⟩ := m37.parts.open
  have l97 : (sBytes (strOf [97])).length = 1 := by decide +kernel
  have l98 : (sBytes (strOf [98])).length = 1 := by decide +kernel
  have cvx := conv8 w37 _ _ (isBytes.below IX2.out b37 (Nat.le_refl _))
  have cva := conv8 w37 _ _ (isBytes.below IA2.out b37 (Nat.le_refl _))
  have cvb := conv8 w37 _ _ (isBytes.below IB2.out b37 (Nat.le_refl _))
  simp only [l97, l98, List.length_cons, List.length_nil, Nat.zero_add] at cvx cva cvb ⊢
  rw [show strOf [97] = ⟨#[97]⟩ from by decide +kernel] at cvx cva
  rw [show strOf [98] = ⟨#[98]⟩ from by decide +kernel] at cvb
  have hlen : (textL [(q, strOf [1, 1, 1, 97])]).length = 1 := rfl
  have HF : Hid (Below w.heap.size w w37) := (show Below w.heap.size w w37 from HB10.out.trans ((HB35.out.mono HB10.out.size).trans (b37.mono (Nat.le_trans HB10.out.size HB35.out.size))))
  clear m37 b37 X37 IX2 IA2 IB2
  simp only [hlen]
  clear l97 l98 hlen
  go_wp2_with (first | (refine wpList_convert_run rfl _ _ _ rfl rfl cvx ?_) | (refine wpList_convert_run rfl _ _ _ rfl rfl cva ?_) | (refine wpList_convert_run rfl _ _ _ rfl rfl cvb ?_))
  go_ret
  exact ⟨rfl, HF.out⟩
end Go.Proofs.YtcfbaijibghcaaaDoor
