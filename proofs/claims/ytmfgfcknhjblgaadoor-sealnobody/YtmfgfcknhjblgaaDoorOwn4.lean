import Derived.Lib.SlBytesConst
import Derived.Laws.BitsLemmas
import Derived.Test.YtmfgfcknhjblgaaDoorRows
import Derived.WalkLawsBesides
import Derived.RegionTactic
import Derived.BigRegion
import Derived.Deep.QuietTactic
import Derived.BigQuiet
import Derived.Deep.Light
import Derived.Deep.Cut
import Derived.Deep.CutRange
import Derived.Test.YtmfgfcknhjblgaaDoorOwn1
import Derived.Test.YtmfgfcknhjblgaaDoorOwn2
import Derived.Test.YtmfgfcknhjblgaaDoorOwn3
set_option linter.unusedVariables false
set_option linter.unusedSimpArgs false
/- The chapter's examples. -/
namespace Go.Proofs.YtmfgfcknhjblgaaDoor
set_option linter.unusedSimpArgs false
set_option linter.unusedVariables false
open Go.RowKit Go.Deep

theorem bytes_ok {l : List Int} (h : l.all (fun b => decide (0 ≤ b) && decide (b ≤ 255)) = true) (i : Nat) : 0 ≤ l.getD i 0 ∧ l.getD i 0 ≤ 255 := by
  rw [List.getD_eq_getElem?_getD]
  cases e : l[i]? with
  | none => exact ⟨by simp, by simp⟩
  | some x =>
    have := List.all_eq_true.1 h x (List.mem_of_getElem? e)
    simpa using this
theorem zero_sum : ∀ w : World, (zeroValue 30).run Tryd.prog w = .ok (.agg (rowV 32 (fun _ => .int .u8 0))) w := fun w => by kernel_rfl
theorem strA_ne : strOf [97] ≠ strOf [98] := by decide
theorem nts1 (x : Nt) : addN [] x = [x] := rfl
theorem nts2 (q : List Int) : addN [(q, strOf [97])] (q, strOf [98]) = [(q, strOf [97]), (q, strOf [98])] := addN_out (by simp [strA_ne.symm])
theorem nts3 (q : List Int) : addN [(q, strOf [97]), (q, strOf [98])] (q, strOf [97]) = [(q, strOf [97]), (q, strOf [98])] := addN_in (by simp)
theorem nts4 (q : List Int) : firstAt [(q, strOf [97]), (q, strOf [98])] q = some 0 := by simp [firstAt, List.findIdx?_cons]
theorem nts5 (q : List Int) : foundB [(q, strOf [97]), (q, strOf [98])] q = [97] := by
  unfold foundB; rw [nts4]; show sBytes (strOf [97]) = [97]; decide +kernel
theorem nts6 (q : List Int) : clashGo [] [(q, strOf [97]), (q, strOf [98])] = some (strOf [97], strOf [98]) := by
  have e0 : firstAt [] q = none := rfl
  have e1 : firstAt [(q, strOf [97])] q = some 0 := by simp [firstAt, List.findIdx?_cons]
  have e2 : foundN [(q, strOf [97])] q = (q, strOf [97]) := by unfold foundN; rw [e1]; rfl
  rw [clashGo, if_neg (by rw [e0]; simp), nts1, clashGo]
  simp only [e1, e2]
  rw [if_pos ⟨rfl, fun h => strA_ne (Prod.mk.inj h).2⟩]
theorem pre_a : preB 1 1 (fun _ => [97]) = [1, 1, 1, 97] := by decide +kernel
theorem pre_ab : preB 2 2 (fun i => if i = 0 then [] else [97, 98]) = [2, 0, 1, 2, 97, 98] := by decide +kernel
theorem parts_one (w : World) (v : Value) (p : List Int) (h : isBytes w v p) : isParts (w.alloc (.cells #[v] 34)) (.slice (some ⟨w.heap.size, 0, none⟩) 1 1) 1 (fun _ => p) :=
  Or.inr ⟨w.heap.size, 0, 1, fun _ => v, rfl, by simp, by unfold maxLen; omega, fun i hi => by
    obtain rfl : i = 0 := by omega
    exact ⟨one_cell w _ _, Or.inl (h.below ((Below.refl _ _).alloc (Nat.le_refl _) _) (Nat.le_refl _))⟩⟩
/-- []byte of a constant. -/
theorem const_bytes (w : World) (C : Array Value) (l : List Int) (n : Nat) (hC : C = (l.map (Value.int .u8)).toArray) (hn : n = l.length) (hl : l.length ≤ 1000) (hb : ∀ i, 0 ≤ l.getD i 0 ∧ l.getD i 0 ≤ 255) :
    ∃ w', (convert 34 34 (.slice (some ⟨w.heap.size, 0, none⟩) n n)).run Tryd.prog (w.alloc (.cells C 5)) = .ok (.slice (some ⟨w.heap.size, 0, none⟩) n n) w' ∧ isBytes w' (.slice (some ⟨w.heap.size, 0, none⟩) n n) l ∧ Below w.heap.size w w' ∧ w'.heap.size = w.heap.size + 1 := by
  refine ⟨_, Go.Lib.run_convert_bytes_const w 34 5 C n n Tryd.underlying34 Tryd.underlying5, Or.inr ⟨w.heap.size, 0, n, by rw [hn], by omega, by unfold maxLen; omega, by simp, fun i hi => ?_, hb⟩, (Below.refl _ _).alloc (Nat.le_refl _) _, by simp⟩
  have h1 : (w.alloc (.cells C 5 (C.size, C.size + 1))).heap[w.heap.size]? = some (.cells C 5 (C.size, C.size + 1)) := blk_alloc_new _ _
  have h2 : C[i]? = some (.int .u8 (l.getD i 0)) := by rw [hC, List.getElem?_toArray]; exact getElem?_u8 hi
  rw [Nat.zero_add]
  unfold World.cell?
  simp only [h1]
  exact h2
/-- a book that Of is asked twice. -/
theorem Gr.ge {F : Nat → Prop} {w w' : World} {B : Nat} (h : ∀ j, F j → B ≤ j) (hB : B ≤ w.heap.size) : ∀ j, Gr F w w' j → B ≤ j := fun j hj => by
  rcases hj with hj | hj
  · exact h j hj
  · omega
set_option maxHeartbeats 4000000 in
set_option maxRecDepth 100000 in
theorem awake_any (w : World) (ht : tabIs w) : Calls Tryd.prog 22 #[] w fun e w' => e = .returned (.bool true) ∧ Below w.heap.size w w' := by
  have ht0 := ht.1
  have hz32 := zero_sum
  obtain ⟨q, hq⟩ : ∃ q, q = sumL [1, 1, 1, 97] := ⟨_, rfl⟩
  have hqs : isSum q := hq ▸ sumL_is _
  have HQ : Hid (q = sumL [1, 1, 1, 97]) := (show q = sumL [1, 1, 1, 97] from hq)
  clear hq
  -- the first book, and one part
  obtain ⟨w0, hw0⟩ : ∃ w0, w0 = w.alloc (.cells #[.pointer none] 64) := ⟨_, rfl⟩
  have s0 : w0.heap.size = w.heap.size + 1 := by rw [hw0]; simp
  have b0 : Below w.heap.size w w0 := by rw [hw0]; exact (Below.refl _ _).alloc (Nat.le_refl _) _
  have k0 : bookAt w0 (fun j => j = w.heap.size) w.heap.size [] 0 := bookAt.new w w0 w.heap.size (by
    rw [hw0]; exact rowIs_new w _ _ 1 _ rfl (fun i hi => by
      obtain rfl : i = 0 := by omega
      rfl))
  obtain ⟨w1, cv1, p1, b1, s1⟩ := const_bytes w0 #[.int .u8 97] [97] 1 rfl rfl (by simp) (bytes_ok (by decide))
  obtain ⟨w2, hw2⟩ : ∃ w2, w2 = w1.alloc (.cells #[.slice (some ⟨w0.heap.size, 0, none⟩) 1 1] 34) := ⟨_, rfl⟩
  have b2 : Below w1.heap.size w1 w2 := by rw [hw2]; exact (Below.refl _ _).alloc (Nat.le_refl _) _
  have p2 := parts_one w1 _ [97] p1
  rw [← hw2] at p2
  have s2 : w2.heap.size = w1.heap.size + 1 := by rw [hw2]; simp
  have b02 : Below w0.heap.size w0 w2 := b1.trans (b2.mono (by omega))
  have X := of_any _ w.heap.size [] 0 1 1 _ (fun _ => [97]) w2 (k0.below b02 (Nat.le_refl _)) p2.any (fun i hi => by
    have : i = 0 ∨ i = 1 := by omega
    rcases this with rfl | rfl <;> decide +kernel) (ht.below (b0.trans (b02.mono (by omega))) ht0) (by omega) (by decide) ⟨by omega, by omega⟩
  rw [pre_a, ← HQ.out, nts1] at X
  have S0 : Hid (w0.heap.size = w.heap.size + 1) := (show w0.heap.size = w.heap.size + 1 from s0)
  have S2 : Hid (w2.heap.size = w.heap.size + 3) := (show w2.heap.size = w.heap.size + 3 by omega)
  clear s0 s1 s2
  unfold sumV at X
  go_enter Tryd.func22, Tryd.ntmps22
  go_upto_region 2 with fail
  rw [← hw0]
  clear hw0
  go_wp2_with (first | (refine wpList_convert_run rfl _ _ _ rfl rfl cv1 ?_))
  rw [← hw2]
  clear hw2
  refine X.mono ?_
  rintro e w3 ⟨rfl, k3, f3⟩
  have s0 := S0.out
  have s2 := S2.out
  have g1 : ∀ j, (fun j => j = w.heap.size) j → w.heap.size ≤ j := fun j hj => Nat.le_of_eq hj.symm
  have g3 : ∀ j, Gr (fun j => j = w.heap.size) w2 w3 j → w.heap.size ≤ j := Gr.ge g1 (by omega)
  have B3 : Below w.heap.size w w3 := (b0.trans (b02.mono (by omega))).trans (f3.below g1 (by omega))
  clear X b0 b02 b1 b2 p1 p2 k0 cv1 f3 s0 s2 S0 S2
  obtain ⟨w4, cv4, p4, b4, s4⟩ := const_bytes w3 #[.int .u8 97] [97] 1 rfl rfl (by simp) (bytes_ok (by decide))
  obtain ⟨w5, hw5⟩ : ∃ w5, w5 = w4.alloc (.cells #[.slice (some ⟨w3.heap.size, 0, none⟩) 1 1] 34) := ⟨_, rfl⟩
  have b5 : Below w4.heap.size w4 w5 := by rw [hw5]; exact (Below.refl _ _).alloc (Nat.le_refl _) _
  have p5 := parts_one w4 _ [97] p4
  rw [← hw5] at p5
  have s5 : w5.heap.size = w4.heap.size + 1 := by rw [hw5]; simp
  have b35 : Below w3.heap.size w3 w5 := b4.trans (b5.mono (by omega))
  have hs3 := B3.size
  have hs35 := b35.size
  have X := of_any _ w.heap.size _ _ 1 1 _ (fun _ => [97]) w5 (k3.below b35 (Nat.le_refl _)) p5.any (fun i hi => by
    have : i = 0 ∨ i = 1 := by omega
    rcases this with rfl | rfl <;> decide +kernel) (ht.below (B3.trans (b35.mono hs3)) ht0) (fun h => by have := g3 0 h; omega) (by simp) ⟨by omega, by omega⟩
  rw [pre_a, ← HQ.out, addN_in (List.mem_singleton.2 rfl)] at X
  unfold sumV at X
  have HB3 : Hid (Below w.heap.size w w5) := (show Below w.heap.size w w5 from B3.trans (b35.mono hs3))
  have HG3 : Hid (∀ j, Gr (fun j => j = w.heap.size) w2 w3 j → w.heap.size ≤ j) := (show ∀ j, Gr (fun j => j = w.heap.size) w2 w3 j → w.heap.size ≤ j from g3)
  clear B3 b35 b4 b5 s4 s5 p4 p5 k3 hs3 hs35 g1 g3
  go_wp2_with (first | (refine wpList_convert_run rfl _ _ _ rfl rfl cv4 ?_))
  rw [← hw5]
  clear hw5
  refine X.mono ?_
  rintro e w6 ⟨rfl, k6, f6⟩
  have hs5 := HB3.out.size
  have g6 : ∀ j, Gr (Gr (fun j => j = w.heap.size) w2 w3) w5 w6 j → w.heap.size ≤ j := Gr.ge HG3.out (by omega)
  have B6 : Below w.heap.size w w6 := HB3.out.trans (f6.below HG3.out (by omega))
  have hs6 := B6.size
  clear X cv4 f6 hs5
  have rz1 := rowIs_box w6 30 32 (fun _ => .int .u8 0)
  have rz2 := rowIs_box (w6.alloc (.cells (rowV 32 (fun _ => .int .u8 0)) 30)) 30 32 (fun _ => .int .u8 0)
  have rz1' := World.rowIs.alloc rz1 (.cells (rowV 32 (fun _ => .int .u8 0)) 30)
  have zz1 : (w6.alloc (.cells (rowV 32 (fun _ => .int .u8 0)) 30)).heap.size = w6.heap.size + 1 := by simp
  have zz2 : ((w6.alloc (.cells (rowV 32 (fun _ => .int .u8 0)) 30)).alloc (.cells (rowV 32 (fun _ => .int .u8 0)) 30)).heap.size = w6.heap.size + 2 := by simp
  rw [zz1] at rz2
  have bz : Below w6.heap.size w6 ((w6.alloc (.cells (rowV 32 (fun _ => .int .u8 0)) 30)).alloc (.cells (rowV 32 (fun _ => .int .u8 0)) 30)) := ((Below.refl _ _).alloc (Nat.le_refl _) _).alloc (by simp) _
  have B6' : Hid (Below w.heap.size w w6) := (show Below w.heap.size w w6 from B6)
  have K6 : Hid (bookAt w6 (Gr (Gr (fun j => j = w.heap.size) w2 w3) w5 w6) w.heap.size [(q, strOf [1, 1, 1, 97])] (0 + 1 + 1)) := (show bookAt w6 (Gr (Gr (fun j => j = w.heap.size) w2 w3) w5 w6) w.heap.size [(q, strOf [1, 1, 1, 97])] (0 + 1 + 1) from k6)
  have ZZ2 : Hid _ := zz2
  clear B6 k6 rz1 zz1 zz2
  go_upto_region 3 with (first | (refine wpList_store_row rfl 30 (.tmp 2) (.tmp 16) rfl rfl w6.heap.size 0 32 (arrV q) rfl rfl hi32' (fun _ _ => rfl) _ _ _ rz1' (by omega) ?_; intro w9 r9 hz9 hb9) | (refine wpList_store_row rfl 30 (.tmp 3) (.tmp 21) rfl rfl (w6.heap.size + 1) 0 32 (arrV q) rfl rfl hi32' (fun _ _ => rfl) _ _ _ (But.row hb9 rz2 (by rw [ZZ2.out]; omega) (by omega)) (by omega) ?_; intro w10 r10t hz10 hb10))
  have hz9' : w9.heap.size = w6.heap.size + 2 := hz9.trans ZZ2.out
  have hz10' : w10.heap.size = w6.heap.size + 2 := hz10.trans hz9'
  have r10 : w10.rowIs w6.heap.size 30 32 (arrV q) := (hb10.row r9 (by omega) (by omega)).congr fun i hi => by rw [if_pos (by omega), Nat.sub_zero]
  have r10t' : w10.rowIs (w6.heap.size + 1) 30 32 (arrV q) := r10t.congr fun i hi => by rw [if_pos (by omega), Nat.sub_zero]
  have b610 : Below w6.heap.size w6 w10 := (bz.trans ((hb9.mono (by rw [ZZ2.out]; omega)).below (Nat.le_refl _))).trans ((hb10.mono (by omega)).below (by omega))
  have K10 : Hid (bookAt w10 (Gr (Gr (fun j => j = w.heap.size) w2 w3) w5 w6) w.heap.size [(q, strOf [1, 1, 1, 97])] 2) := (show bookAt w10 (Gr (Gr (fun j => j = w.heap.size) w2 w3) w5 w6) w.heap.size [(q, strOf [1, 1, 1, 97])] 2 from bookAt.below K6.out b610 (Nat.le_refl _))
  have HB10 : Hid (Below w.heap.size w w10) := (show Below w.heap.size w w10 from B6'.out.trans (b610.mono hs6))
  have Z10 : Hid (w10.heap.size = w6.heap.size + 2) := (show w10.heap.size = w6.heap.size + 2 from hz10')
  clear hb9 hb10 hz9 hz10 hz9' r9 r10t b610 bz rz1' rz2 K6 B6' ZZ2
  -- the second book
  obtain ⟨w11, hw11⟩ : ∃ w11, w11 = w10.alloc (.cells #[.pointer none] 64) := ⟨_, rfl⟩
  have B11 : Below w10.heap.size w10 w11 := by rw [hw11]; exact (Below.refl _ _).alloc (Nat.le_refl _) _
  have k11 : bookAt w11 (fun j => j = w10.heap.size) w10.heap.size [] 0 := bookAt.new w10 w11 w10.heap.size (by
    rw [hw11]; exact rowIs_new w10 _ _ 1 _ rfl (fun i hi => by
      obtain rfl : i = 0 := by omega
      rfl))
  have g11 : ∀ j, (fun j => j = w10.heap.size) j → w10.heap.size ≤ j := fun j hj => Nat.le_of_eq hj.symm
  clear hz10'
  go_upto_region 4 with fail
  rw [← hw11]
  clear hw11
  obtain ⟨w20a, cv20, p20, b20, s20⟩ := const_bytes w11 #[.int .u8 97] [97] 1 rfl rfl (by simp) (bytes_ok (by decide))
  have X20 := note_any (fun j => j = w10.heap.size) w10.heap.size [] 0 q [97] _ w20a (k11.below b20 (Nat.le_refl _)) hqs (Or.inl p20) (fun j hj hf => by
    have h1 : w11.heap.size = j := by simpa [Value.ownBlock] using hj
    have h2 := k11.2.1 j hf
    omega) (by simp)
  rw [nts1] at X20
  unfold sumV at X20
  have ld20 : ∀ i, i < 32 → w11.cell? ⟨w6.heap.size, 0 + i, none⟩ = some (arrV q i) := fun i hi => by rw [Nat.zero_add]; have := Z10.out; exact (B11.row r10 (by omega)).cell hi
  have HB11 : Hid (Below w10.heap.size w10 w11) := (show Below w10.heap.size w10 w11 from B11)
  have HK11 : Hid (bookAt w11 (fun j => j = w10.heap.size) w10.heap.size [] 0) := (show bookAt w11 (fun j => j = w10.heap.size) w10.heap.size [] 0 from k11)
  have HF20 : Hid (Below w11.heap.size w11 w20a) := (show Below w11.heap.size w11 w20a from b20)
  have HS20 : Hid (w20a.heap.size = w11.heap.size + 1) := (show w20a.heap.size = w11.heap.size + 1 from s20)
  clear B11 k11 b20 s20 p20
  go_wp2_with (first | (refine wpList_load_seg rfl 30 (.tmp 2) rfl w6.heap.size 0 32 (arrV q) rfl _ Tryd.underlying30 rfl hi32' ld20 ?_) | (refine wpList_convert_run rfl _ _ _ rfl rfl cv20 ?_))
  refine X20.mono ?_
  rintro e w20b ⟨rfl, k20b, f20⟩
  clear X20 cv20 ld20
  have g20 : ∀ j, Gr (fun j => j = w10.heap.size) w20a w20b j → w10.heap.size ≤ j := Gr.ge g11 (by have := HS20.out; have := HB11.out.size; omega)
  have B20 : Below w10.heap.size w10 w20b := HB11.out.trans ((HF20.out.mono HB11.out.size).trans (f20.below g11 (by have := HS20.out; have := HB11.out.size; omega)))
  clear f20
  go_upto_region 5 with fail
  obtain ⟨w21a, cv21, p21, b21, s21⟩ := const_bytes w20b #[.int .u8 98] [98] 1 rfl rfl (by simp) (bytes_ok (by decide))
  have X21 := note_any (Gr (fun j => j = w10.heap.size) w20a w20b) w10.heap.size [(q, strOf [97])] 0 q [98] _ w21a (k20b.below b21 (Nat.le_refl _)) hqs (Or.inl p21) (fun j hj hf => by
    have h1 : w20b.heap.size = j := by simpa [Value.ownBlock] using hj
    have h2 := k20b.2.1 j hf
    omega) (by simp)
  rw [nts2] at X21
  unfold sumV at X21
  have ld21 : ∀ i, i < 32 → w20b.cell? ⟨w6.heap.size, 0 + i, none⟩ = some (arrV q i) := fun i hi => by rw [Nat.zero_add]; have := Z10.out; exact (B20.row r10 (by omega)).cell hi
  have HB20 : Hid (Below w10.heap.size w10 w20b) := (show Below w10.heap.size w10 w20b from B20)
  have HK20 : Hid (bookAt w20b (Gr (fun j => j = w10.heap.size) w20a w20b) w10.heap.size [(q, strOf [97])] 0) := (show bookAt w20b (Gr (fun j => j = w10.heap.size) w20a w20b) w10.heap.size [(q, strOf [97])] 0 from k20b)
  have HF21 : Hid (Below w20b.heap.size w20b w21a) := (show Below w20b.heap.size w20b w21a from b21)
  have HS21 : Hid (w21a.heap.size = w20b.heap.size + 1) := (show w21a.heap.size = w20b.heap.size + 1 from s21)
  clear B20 k20b b21 s21 p21
  go_wp2_with (first | (refine wpList_load_seg rfl 30 (.tmp 2) rfl w6.heap.size 0 32 (arrV q) rfl _ Tryd.underlying30 rfl hi32' ld21 ?_) | (refine wpList_convert_run rfl _ _ _ rfl rfl cv21 ?_))
  refine X21.mono ?_
  rintro e w21b ⟨rfl, k21b, f21⟩
  clear X21 cv21 ld21
  have g21 : ∀ j, Gr (Gr (fun j => j = w10.heap.size) w20a w20b) w21a w21b j → w10.heap.size ≤ j := Gr.ge g20 (by have := HS21.out; have := HB20.out.size; omega)
  have B21 : Below w10.heap.size w10 w21b := HB20.out.trans ((HF21.out.mono HB20.out.size).trans (f21.below g20 (by have := HS21.out; have := HB20.out.size; omega)))
  clear f21
  go_upto_region 6 with fail
  obtain ⟨w22a, cv22, p22, b22, s22⟩ := const_bytes w21b #[.int .u8 97] [97] 1 rfl rfl (by simp) (bytes_ok (by decide))
  have X22 := note_any (Gr (Gr (fun j => j = w10.heap.size) w20a w20b) w21a w21b) w10.heap.size [(q, strOf [97]), (q, strOf [98])] 0 q [97] _ w22a (k21b.below b22 (Nat.le_refl _)) hqs (Or.inl p22) (fun j hj hf => by
    have h1 : w21b.heap.size = j := by simpa [Value.ownBlock] using hj
    have h2 := k21b.2.1 j hf
    omega) (by simp)
  rw [nts3] at X22
  unfold sumV at X22
  have ld22 : ∀ i, i < 32 → w21b.cell? ⟨w6.heap.size, 0 + i, none⟩ = some (arrV q i) := fun i hi => by rw [Nat.zero_add]; have := Z10.out; exact (B21.row r10 (by omega)).cell hi
  have HB21 : Hid (Below w10.heap.size w10 w21b) := (show Below w10.heap.size w10 w21b from B21)
  have HK21 : Hid (bookAt w21b (Gr (Gr (fun j => j = w10.heap.size) w20a w20b) w21a w21b) w10.heap.size [(q, strOf [97]), (q, strOf [98])] 0) := (show bookAt w21b (Gr (Gr (fun j => j = w10.heap.size) w20a w20b) w21a w21b) w10.heap.size [(q, strOf [97]), (q, strOf [98])] 0 from k21b)
  have HF22 : Hid (Below w21b.heap.size w21b w22a) := (show Below w21b.heap.size w21b w22a from b22)
  have HS22 : Hid (w22a.heap.size = w21b.heap.size + 1) := (show w22a.heap.size = w21b.heap.size + 1 from s22)
  clear B21 k21b b22 s22 p22
  go_wp2_with (first | (refine wpList_load_seg rfl 30 (.tmp 2) rfl w6.heap.size 0 32 (arrV q) rfl _ Tryd.underlying30 rfl hi32' ld22 ?_) | (refine wpList_convert_run rfl _ _ _ rfl rfl cv22 ?_))
  refine X22.mono ?_
  rintro e w22b ⟨rfl, k22b, f22⟩
  clear X22 cv22 ld22
  have g22 : ∀ j, Gr (Gr (Gr (fun j => j = w10.heap.size) w20a w20b) w21a w21b) w22a w22b j → w10.heap.size ≤ j := Gr.ge g21 (by have := HS22.out; have := HB21.out.size; omega)
  have B22 : Below w10.heap.size w10 w22b := HB21.out.trans ((HF22.out.mono HB21.out.size).trans (f22.below g21 (by have := HS22.out; have := HB21.out.size; omega)))
  clear f22
  go_upto_region 7 with fail
  have hts : ∀ x ∈ ([(q, strOf [97]), (q, strOf [98])] : List Nt), x.2.size ≤ 1000000000 := fun x hx => by
    simp only [List.mem_cons, List.not_mem_nil, or_false] at hx
    rcases hx with rfl | rfl <;> (rw [strOf_size]; decide)
  have X30 := findB_any _ w10.heap.size _ 0 q w22b k22b hqs hts
  rw [nts4, nts5] at X30
  unfold sumV at X30
  have ld30 : ∀ i, i < 32 → w22b.cell? ⟨w6.heap.size, 0 + i, none⟩ = some (arrV q i) := fun i hi => by rw [Nat.zero_add]; exact (B22.row r10 (by have := Z10.out; omega)).cell hi
  have HB22 : Hid (Below w10.heap.size w10 w22b) := (show Below w10.heap.size w10 w22b from B22)
  have HK22 : Hid (bookAt w22b (Gr (Gr (Gr (fun j => j = w10.heap.size) w20a w20b) w21a w21b) w22a w22b) w10.heap.size [(q, strOf [97]), (q, strOf [98])] 0) := (show bookAt w22b (Gr (Gr (Gr (fun j => j = w10.heap.size) w20a w20b) w21a w21b) w22a w22b) w10.heap.size [(q, strOf [97]), (q, strOf [98])] 0 from k22b)
  clear B22 k22b
  go_wp2_with (first | (refine wpList_load_seg rfl 30 (.tmp 2) rfl w6.heap.size 0 32 (arrV q) rfl _ Tryd.underlying30 rfl hi32' ld30 ?_))
  refine X30.mono ?_
  rintro e w30 ⟨vx, rfl, ix, _, b30⟩
  obtain ⟨xa, xc, rfl, _⟩ := ix.slice
  have B30 : Below w10.heap.size w10 w30 := HB22.out.trans (b30.mono HB22.out.size)
  have k30 : bookAt w30 (Gr (Gr (Gr (fun j => j = w10.heap.size) w20a w20b) w21a w21b) w22a w22b) w10.heap.size [(q, strOf [97]), (q, strOf [98])] 0 := bookAt.below HK22.out b30 (Nat.le_refl _)
  clear X30 ld30 b30 HB22 HK22
  have H30 : Hid (isBytes w30 (.slice xa [(97 : Int)].length xc) [97]) := (show isBytes w30 (.slice xa [(97 : Int)].length xc) [97] from ix)
  clear ix
  -- Clash
  obtain ⟨w31, hw31⟩ : ∃ w31, w31 = w30.alloc (.cells #[.pointer (some ⟨w10.heap.size, 0, none⟩)] 52) := ⟨_, rfl⟩
  have b31 : Below w30.heap.size w30 w31 := by rw [hw31]; exact (Below.refl _ _).alloc (Nat.le_refl _) _
  have s31 : w31.heap.size = w30.heap.size + 1 := by rw [hw31]; simp
  have bk : isBooks w31 (.slice (some ⟨w30.heap.size, 0, none⟩) 1 1) 1 (fun _ => [(q, strOf [97]), (q, strOf [98])]) := Or.inr ⟨w30.heap.size, 0, 1, fun _ => .pointer (some ⟨w10.heap.size, 0, none⟩), rfl, by omega, by unfold maxLen; omega, fun i hi => by
    obtain rfl : i = 0 := by omega
    exact ⟨by rw [hw31]; exact one_cell w30 _ _, Or.inr ⟨w10.heap.size, _, 0, rfl, k30.below b31 (Nat.le_refl _)⟩⟩⟩
  have X32 := clash_any 1 _ _ w31 bk (by simp [joinF]) (fun i _ => hts)
  rw [show joinF (fun _ => [(q, strOf [97]), (q, strOf [98])]) 0 1 = [(q, strOf [97]), (q, strOf [98])] from rfl, nts6] at X32
  have HB31 : Hid (Below w10.heap.size w10 w31) := (show Below w10.heap.size w10 w31 from B30.trans (b31.mono B30.size))
  have H31 : Hid (isBytes w31 (.slice xa [(97 : Int)].length xc) [97]) := (show isBytes w31 (.slice xa [(97 : Int)].length xc) [97] from isBytes.below H30.out b31 (Nat.le_refl _))
  clear B30 b31 s31 bk k30 H30 hts
  go_upto_region 8 with fail
  go_wp2_with fail
  rw [← hw31]
  clear hw31
  refine X32.mono ?_
  rintro e w32 ⟨va, vb, fb, rfl, ⟨ia, ib, _, _, rfl⟩, b32⟩
  obtain ⟨aa, ac, rfl, _⟩ := ia.slice
  obtain ⟨ba, bc, rfl, _⟩ := ib.slice
  rw [show sBytes (strOf [97]) = [97] from by decide +kernel] at ia
  rw [show sBytes (strOf [98]) = [98] from by decide +kernel] at ib
  have B32 : Below w10.heap.size w10 w32 := HB31.out.trans (b32.mono HB31.out.size)
  have i32 := isBytes.below H31.out b32 (Nat.le_refl _)
  clear X32 b32 HB31 H31
  -- Preimage
  obtain ⟨w33, cv33, p33, b33, s33⟩ := const_bytes w32 #[.int .u8 97, .int .u8 98] [97, 98] 2 rfl rfl (by simp) (bytes_ok (by decide))
  obtain ⟨w34, hw34⟩ : ∃ w34, w34 = w33.alloc (.cells #[.slice none 0 0, .slice (some ⟨w32.heap.size, 0, none⟩) 2 2] 34) := ⟨_, rfl⟩
  have b34 : Below w33.heap.size w33 w34 := by rw [hw34]; exact (Below.refl _ _).alloc (Nat.le_refl _) _
  have s34 : w34.heap.size = w33.heap.size + 1 := by rw [hw34]; simp
  have p34 : isParts w34 (.slice (some ⟨w33.heap.size, 0, none⟩) 2 2) 2 (fun i => if i = 0 then [] else [97, 98]) := by
    have hr : w34.rowIs w33.heap.size 34 2 (fun i => if i = 0 then .slice none 0 0 else .slice (some ⟨w32.heap.size, 0, none⟩) 2 2) := by
      rw [hw34]; exact rowIs_new w33 _ _ 2 _ rfl (fun i hi => by
        have : i = 0 ∨ i = 1 := by omega
        rcases this with rfl | rfl <;> rfl)
    refine Or.inr ⟨w33.heap.size, 0, 2, _, rfl, by omega, by unfold maxLen; omega, fun i hi => ⟨by rw [Nat.zero_add]; exact hr.cell hi, ?_⟩⟩
    have : i = 0 ∨ i = 1 := by omega
    rcases this with rfl | rfl
    · exact Or.inl (Or.inl ⟨rfl, rfl⟩)
    · exact Or.inl (p33.below b34 (Nat.le_refl _))
  have X35 := pre_any 2 2 _ _ w34 p34.any (fun i hi => by
    have : i = 0 ∨ i = 1 ∨ i = 2 := by omega
    rcases this with rfl | rfl | rfl <;> decide +kernel)
  rw [pre_ab] at X35
  have b324 : Below w32.heap.size w32 w34 := b33.trans (b34.mono (by omega))
  have B34 : Hid (Below w10.heap.size w10 w34) := (show Below w10.heap.size w10 w34 from B32.trans (b324.mono B32.size))
  have IA : Hid (isBytes w34 (.slice aa (sBytes (strOf [97])).length ac) [97]) := (show isBytes w34 (.slice aa (sBytes (strOf [97])).length ac) [97] from ia.below b324 (Nat.le_refl _))
  have IB : Hid (isBytes w34 (.slice ba (sBytes (strOf [98])).length bc) [98]) := (show isBytes w34 (.slice ba (sBytes (strOf [98])).length bc) [98] from ib.below b324 (Nat.le_refl _))
  have IX : Hid (isBytes w34 (.slice xa [(97 : Int)].length xc) [97]) := (show isBytes w34 (.slice xa [(97 : Int)].length xc) [97] from i32.below b324 (Nat.le_refl _))
  clear B32 b33 b34 s33 s34 p33 p34 b324 ia ib i32
  go_upto_region 9 with fail
  go_wp2_with (first | (refine wpList_convert_run rfl _ _ _ rfl rfl cv33 ?_))
  rw [← hw34]
  clear hw34
  refine X35.mono ?_
  rintro e w35 ⟨v35, rfl, n35, b35⟩
  obtain ⟨za, zc, rfl, _⟩ := n35.is.slice
  have cv35 := conv8 w35 _ _ n35.is
  rw [show strOf [2, 0, 1, 2, 97, 98] = ⟨#[2, 0, 1, 2, 97, 98]⟩ from by decide +kernel] at cv35
  have B35 : Below w10.heap.size w10 w35 := B34.out.trans (b35.mono B34.out.size)
  have lds : ∀ i, i < 32 → w35.cell? ⟨w6.heap.size, 0 + i, none⟩ = some (arrV q i) := fun i hi => by rw [Nat.zero_add]; exact (B35.row r10 (by have := Z10.out; omega)).cell hi
  have ldt : ∀ i, i < 32 → w35.cell? ⟨w6.heap.size + 1, 0 + i, none⟩ = some (arrV q i) := fun i hi => by rw [Nat.zero_add]; exact (B35.row r10t' (by have := Z10.out; omega)).cell hi
  have heq : ∀ wz : World, (Op.equalIn 10000 30 (.agg (rowV 32 (arrV q))) (.agg (rowV 32 (arrV q)))).run Tryd.prog wz = .ok true wz := fun wz => by
    have := run_eq_sums wz 9998 hqs hqs
    simpa [sumV] using this
  have k35 : bookAt w35 (Gr (Gr (fun j => j = w.heap.size) w2 w3) w5 w6) w.heap.size [(q, strOf [1, 1, 1, 97])] 2 := bookAt.below K10.out B35 (Nat.le_refl _)
  have IA2 : Hid (isBytes w35 (.slice aa (sBytes (strOf [97])).length ac) [97]) := (show isBytes w35 (.slice aa (sBytes (strOf [97])).length ac) [97] from isBytes.below IA.out b35 (Nat.le_refl _))
  have IB2 : Hid (isBytes w35 (.slice ba (sBytes (strOf [98])).length bc) [98]) := (show isBytes w35 (.slice ba (sBytes (strOf [98])).length bc) [98] from isBytes.below IB.out b35 (Nat.le_refl _))
  have IX2 : Hid (isBytes w35 (.slice xa [(97 : Int)].length xc) [97]) := (show isBytes w35 (.slice xa [(97 : Int)].length xc) [97] from isBytes.below IX.out b35 (Nat.le_refl _))
  have X36 := calls_any _ w.heap.size _ 2 w35 k35
  have X37 := all_any _ w.heap.size _ 2 w35 k35 (by simp) (fun x hx => by
    have : x = (q, strOf [1, 1, 1, 97]) := by simpa using hx
    rw [this, strOf_size]; decide)
  have HB35 : Hid (Below w10.heap.size w10 w35) := (show Below w10.heap.size w10 w35 from B35)
  clear X35 n35 b35 B35 k35 IA IB IX B34 cv33
  go_wp2_with (first | (refine wpList_convert_run rfl _ _ _ rfl rfl cv35 ?_) | (refine wpList_load_w 30 (.tmp 2) rfl rfl w6.heap.size 0 32 (arrV q) rfl _ Tryd.underlying30 rfl hi32' lds ?_) | (refine wpList_load_w 30 (.tmp 3) rfl rfl (w6.heap.size + 1) 0 32 (arrV q) rfl _ Tryd.underlying30 rfl hi32' ldt ?_))
  refine X36.mono ?_
  rintro e w' ⟨rfl, hw⟩
  obtain rfl := hw.symm
  clear hw X36 lds ldt heq cv35
  go_wp2_with fail
  refine X37.mono ?_
  rintro e w37 ⟨v37, rfl, m37, b37⟩
  obtain ⟨ya, yc, rfl, _, _⟩ := m37.parts.open
  have l97 : (sBytes (strOf [97])).length = 1 := by decide +kernel
  have l98 : (sBytes (strOf [98])).length = 1 := by decide +kernel
  have cvx := conv8 w37 _ _ (isBytes.below IX2.out b37 (Nat.le_refl _))
  have cva := conv8 w37 _ _ (isBytes.below IA2.out b37 (Nat.le_refl _))
  have cvb := conv8 w37 _ _ (isBytes.below IB2.out b37 (Nat.le_refl _))
  simp only [l97, l98, List.length_cons, List.length_nil, Nat.zero_add] at cvx cva cvb ⊢
  rw [show strOf [97] = ⟨#[97]⟩ from by decide +kernel] at cvx cva
  rw [show strOf [98] = ⟨#[98]⟩ from by decide +kernel] at cvb
  have hlen : (textL [(q, strOf [1, 1, 1, 97])]).length = 1 := rfl
  have HF : Hid (Below w.heap.size w w37) := (show Below w.heap.size w w37 from HB10.out.trans ((HB35.out.mono HB10.out.size).trans (b37.mono (Nat.le_trans HB10.out.size HB35.out.size))))
  clear m37 b37 X37 IX2 IA2 IB2
  simp only [hlen]
  clear l97 l98 hlen
  go_wp2_with (first | (refine wpList_convert_run rfl _ _ _ rfl rfl cvx ?_) | (refine wpList_convert_run rfl _ _ _ rfl rfl cva ?_) | (refine wpList_convert_run rfl _ _ _ rfl rfl cvb ?_))
  go_ret
  exact ⟨rfl, HF.out⟩
end Go.Proofs.YtmfgfcknhjblgaaDoor

/- The laws' own helpers: heavy, alike. -/
namespace Go.Proofs.YtmfgfcknhjblgaaDoor
set_option linter.unusedSimpArgs false
set_option linter.unusedVariables false
open Go.RowKit Go.Deep

/-- an act. -/
structure AR where
  what : Int
  kind : Int
  n : Nat
  ps : Nat → List Int
  sum : List Int
  bytes : List Int
def actV (d k : Int) (pv bv : Value) (q : List Int) (j : Nat) : Value := if j = 0 then .int .i64 d else if j = 1 then .int .i64 k else if j = 2 then pv else if j < 35 then arrV q (j - 3) else bv
def actAt (w : World) (b o : Nat) (x : AR) : Prop :=
  ∃ pv bv, (∀ j, j < 36 → w.cell? ⟨b, o + j, none⟩ = some (actV x.what x.kind pv bv x.sum j)) ∧ anyParts w pv x.n x.ps ∧ anyBytes w bv x.bytes ∧ isSum x.sum
/-- v is a slice of acts. -/
def isActs (w : World) (v : Value) (n : Nat) (acts : Nat → AR) : Prop :=
  (v = .slice none 0 0 ∧ n = 0) ∨ ∃ qb qo cap : Nat, v = .slice (some ⟨qb, qo, none⟩) n cap ∧ qb < w.heap.size ∧ n ≤ cap ∧ cap ≤ maxLen ∧ ∀ i, i < n → actAt w qb (qo + i * 36) (acts i)
theorem actAt.below {w w' : World} {B b o : Nat} {x : AR} (h : actAt w b o x) (hb : Below B w w') (hB : w.heap.size ≤ B) (hl : b < w.heap.size) : actAt w' b o x := by
  obtain ⟨pv, bv, h1, h2, h3, h4⟩ := h
  exact ⟨pv, bv, fun j hj => by rw [hb.cell (p := ⟨b, o + j, none⟩) (Nat.lt_of_lt_of_le hl hB)]; exact h1 j hj, h2.below hb hB, h3.below hb hB, h4⟩
theorem isActs.below {w w' : World} {B : Nat} {v : Value} {n : Nat} {acts : Nat → AR} (h : isActs w v n acts) (hb : Below B w w') (hB : w.heap.size ≤ B) : isActs w' v n acts := by
  rcases h with h | ⟨qb, qo, cap, h1, h2, h3, h4, h5⟩
  · exact Or.inl h
  · exact Or.inr ⟨qb, qo, cap, h1, Nat.lt_of_lt_of_le h2 hb.size, h3, h4, fun i hi => (h5 i hi).below hb hB h2⟩
theorem isActs.open {w : World} {v : Value} {n : Nat} {acts : Nat → AR} (h : isActs w v n acts) : ∃ a cap, v = .slice a n cap ∧ n ≤ cap ∧ cap ≤ maxLen ∧ ∀ i, i < n → ∃ qb qo, a = some ⟨qb, qo, none⟩ ∧ qb < w.heap.size ∧ actAt w qb (qo + i * 36) (acts i) := by
  rcases h with ⟨rfl, rfl⟩ | ⟨qb, qo, cap, rfl, h2, h3, h4, h5⟩
  · exact ⟨_, _, rfl, Nat.le_refl _, Nat.zero_le _, fun k hk => by omega⟩
  · exact ⟨_, _, rfl, h3, h4, fun k hk => ⟨qb, qo, rfl, h2, h5 k hk⟩⟩
/-- how many bytes acts have. -/
def wtA (acts : Nat → AR) : Nat → Nat
  | 0 => 0
  | k + 1 => wtA acts k + (acts k).bytes.length + (flatTo (acts k).ps (acts k).n).length
theorem wtA_mono (acts : Nat → AR) : ∀ n i, i ≤ n → wtA acts i ≤ wtA acts n
  | 0, i, h => by obtain rfl : i = 0 := by omega
                  exact Nat.le_refl _
  | n + 1, i, h => by
    by_cases e : i = n + 1
    · subst e; exact Nat.le_refl _
    · have := wtA_mono acts n i (by omega)
      rw [wtA]; omega
theorem wtA_one (acts : Nat → AR) (n i : Nat) (h : i < n) : (acts i).bytes.length + (flatTo (acts i).ps (acts i).n).length ≤ wtA acts n := by
  have := wtA_mono acts n (i + 1) h
  rw [wtA] at this; omega
def lightA (r : Bool) (n : Nat) (acts : Nat → AR) : Prop := r = false → n ≤ 200 ∧ (∀ i, i < n → (acts i).n ≤ 500) ∧ wtA acts n ≤ 60000
def heavyPost (w : World) (n : Nat) (acts : Nat → AR) (e : Ending) (w' : World) : Prop := ∃ r : Bool, e = .returned (.bool r) ∧ w' = w ∧ lightA r n acts
set_option maxHeartbeats 2000000 in
set_option maxRecDepth 100000 in
theorem heavy_any (n : Nat) (v : Value) (acts : Nat → AR) (w : World) (h : isActs w v n acts) :
    Calls Tryd.prog 21 #[v] w fun e w' => heavyPost w n acts e w' := by
  obtain ⟨a, cap, rfl, hc, hm, hact⟩ := h.open
  unfold maxLen at hm
  have q0 : (n : Int) ≤ 9223372036854775807 := by omega
  clear h
  by_cases h200 : 200 < n
  · have q1 : (200 : Int) < (n : Int) := by omega
    go_enter Tryd.func21, Tryd.ntmps21
    go_wp2
    go_ret
    exact ⟨_, rfl, rfl, fun h => by cases h⟩
  · have q1 : (n : Int) ≤ 200 := by omega
    have q1' : ¬ (200 : Int) < (n : Int) := by omega
    go_enter Tryd.func21, Tryd.ntmps21
    go_wp2
    go_loopw [3, 4] (fun z i wr => wr = w ∧ ∃ k : Nat, k ≤ n ∧ i = .int .i64 k ∧ z = .int .i64 (60000 - (wtA acts k : Int)) ∧ wtA acts k ≤ 60000 ∧ ∀ j, j < k → (acts j).n ≤ 500) (fun _ i _ => n - (intOf i).toNat)
    case atStart => exact ⟨rfl, 0, by omega, rfl, rfl, by simp [wtA], fun j hj => by omega⟩
    case round =>
      obtain ⟨hw, k, hk, rfl, rfl, hwt, h500⟩ := hrel
      obtain rfl := hw.symm
      clear hw
      have H5 : Hid (∀ j, j < k → (acts j).n ≤ 500) := (show ∀ j, j < k → (acts j).n ≤ 500 from h500)
      clear h500
      by_cases hlt : k < n
      · obtain ⟨qb, qo, rfl, hqb, pv, bv, hcell, hpv, hbv, hsum⟩ := hact k hlt
        have p0 : (0 : Int) ≤ (k : Int) := by omega
        have p1 : (k : Int) < (n : Int) := by omega
        obtain ⟨pa, pc, rfl, hpm, hpart⟩ := hpv.open
        obtain ⟨ba, bc, rfl, hbm⟩ := hbv.slice
        have c2 : w.cell? ⟨qb, qo + k * 36 + 2, none⟩ = some (.slice pa (acts k).n pc) := hcell 2 (by omega)
        have c35 : w.cell? ⟨qb, qo + k * 36 + 35, none⟩ = some (.slice ba (acts k).bytes.length bc) := hcell 35 (by omega)
        obtain ⟨T, hT⟩ : ∃ T, T = wtA acts k := ⟨_, rfl⟩
        obtain ⟨bl, hbl⟩ : ∃ bl, bl = (acts k).bytes.length := ⟨_, rfl⟩
        obtain ⟨pn, hpn⟩ : ∃ pn, pn = (acts k).n := ⟨_, rfl⟩
        rw [← hT] at hwt ⊢
        rw [← hbl] at c35 hbm
        rw [← hpn] at c2 hpart hpm
        unfold maxLen at hbm hpm
        have HT : Hid (T = wtA acts k) := (show T = wtA acts k from hT)
        have HL : Hid (bl = (acts k).bytes.length) := (show bl = (acts k).bytes.length from hbl)
        have HN : Hid (pn = (acts k).n) := (show pn = (acts k).n from hpn)
        have HP : Hid _ := hpart
        have i1 : (bl : Int) ≤ 9223372036854775807 := by omega
        have i2 : (pn : Int) ≤ 9223372036854775807 := by omega
        have i3 : (T : Int) ≤ 60000 := by omega
        have i4 : (0 : Int) ≤ (bl : Int) := by omega
        have i5 : (0 : Int) ≤ (T : Int) := by omega
        clear hT hbl hpn hcell hpv hbv hpart hact
        by_cases hpn5 : 500 < pn
        · have i6 : (500 : Int) < (pn : Int) := by omega
          go_wp2
          go_ret
          exact ⟨_, rfl, rfl, fun h => by cases h⟩
        · have i6 : ¬ (500 : Int) < (pn : Int) := by omega
          have i7 : (60000 : Int) - (T : Int) - (bl : Int) ≤ 60000 := by omega
          have i8 : (-9223372036854775807 : Int) ≤ (60000 : Int) - (T : Int) - (bl : Int) := by omega
          obtain ⟨ps, hps⟩ : ∃ ps, ps = (acts k).ps := ⟨_, rfl⟩
          rw [← hps] at HP
          have HPS : Hid (ps = (acts k).ps) := (show ps = (acts k).ps from hps)
          clear hps hbm hpm
          go_wp2
          go_loopw [3, 5] (fun z i wr => wr = w ∧ ∃ m : Nat, m ≤ pn ∧ i = .int .i64 m ∧ z = .int .i64 (60000 - (T : Int) - (bl : Int) - ((flatTo ps m).length : Int)) ∧ (-9223372036854775807 : Int) ≤ 60000 - (T : Int) - (bl : Int) - ((flatTo ps m).length : Int)) (fun _ i _ => pn - (intOf i).toNat)
          case atStart => exact ⟨rfl, 0, by omega, rfl, by simp [flatTo], by simp [flatTo]; omega⟩
          case round =>
            obtain ⟨hw, m, hm2, rfl, rfl, hlow⟩ := hrel
            obtain rfl := hw.symm
            clear hw
            have j0 : (0 : Int) ≤ (m : Int) := by omega
            by_cases hlt2 : m < pn
            · obtain ⟨pb, po, u, rfl, hpb, hpu, hu⟩ := HP.out m hlt2
              obtain ⟨ua, uc, rfl, hul⟩ := hu.slice
              have hfl : (flatTo ps (m + 1)).length = (flatTo ps m).length + (ps m).length := by rw [flatTo, List.length_append]
              have HFL : Hid _ := hfl
              clear hfl hu
              obtain ⟨fl, hf⟩ : ∃ fl, fl = (flatTo ps m).length := ⟨_, rfl⟩
              obtain ⟨ul, hul2⟩ : ∃ ul, ul = (ps m).length := ⟨_, rfl⟩
              rw [← hf] at hlow ⊢
              rw [← hul2] at hul hpu
              have HF : Hid (fl = (flatTo ps m).length) := (show fl = (flatTo ps m).length from hf)
              have HU : Hid (ul = (ps m).length) := (show ul = (ps m).length from hul2)
              clear hf hul2
              unfold maxLen at hul
              have j1 : (m : Int) < (pn : Int) := by omega
              have j2 : (ul : Int) ≤ 9223372036854775807 := by omega
              by_cases hge : 0 ≤ 60000 - (T : Int) - (bl : Int) - (fl : Int)
              · have j3 : (-9223372036854775807 : Int) ≤ 60000 - (T : Int) - (bl : Int) - (fl : Int) - (ul : Int) := by omega
                have j4 : 60000 - (T : Int) - (bl : Int) - (fl : Int) ≤ 60000 := by omega
                clear hul hlow
                go_wp2
                go_light
                refine ⟨⟨trivial, m + 1, by omega, by go_num, ?_, ?_⟩, by simp [intOf]; omega⟩
                · rw [HFL.out, ← HF.out, ← HU.out]; congr 1; omega
                · rw [HFL.out, ← HF.out, ← HU.out]; omega
              · have j3 : 60000 - (T : Int) - (bl : Int) - (fl : Int) < 0 := by omega
                clear hul
                go_wp2
                go_ret
                exact ⟨_, rfl, rfl, fun h => by cases h⟩
            · obtain rfl : m = pn := by omega
              have j1 : ¬ (m : Int) < (m : Int) := by omega
              obtain ⟨fl, hf⟩ : ∃ fl, fl = (flatTo ps m).length := ⟨_, rfl⟩
              rw [← hf] at hlow ⊢
              have HF : Hid (fl = (flatTo ps m).length) := (show fl = (flatTo ps m).length from hf)
              clear hf
              by_cases hge : 0 ≤ 60000 - (T : Int) - (bl : Int) - (fl : Int)
              · have j3 : ¬ 60000 - (T : Int) - (bl : Int) - (fl : Int) < 0 := by omega
                have hw1 : wtA acts (k + 1) = T + bl + fl := by
                  rw [wtA, ← HT.out, ← HL.out, ← HPS.out, ← HN.out, ← HF.out]
                have HW : Hid _ := hw1
                clear hw1
                go_wp2
                go_light
                refine ⟨⟨trivial, k + 1, by omega, by go_num, ?_, ?_, fun j hj => ?_⟩, by simp [intOf]; omega⟩
                · rw [HW.out]; congr 1; omega
                · rw [HW.out]; omega
                · by_cases e : j < k
                  · exact H5.out j e
                  · obtain rfl : j = k := by omega
                    rw [← HN.out]; omega
              · have j3 : 60000 - (T : Int) - (bl : Int) - (fl : Int) < 0 := by omega
                go_wp2
                go_ret
                exact ⟨_, rfl, rfl, fun h => by cases h⟩
      · obtain rfl : k = n := by omega
        have p1 : ¬ (k : Int) < (k : Int) := by omega
        go_wp2
        go_ret
        exact ⟨_, rfl, rfl, fun _ => ⟨by omega, H5.out, hwt⟩⟩
end Go.Proofs.YtmfgfcknhjblgaaDoor

/- Acts that a law makes. -/
namespace Go.Proofs.YtmfgfcknhjblgaaDoor
set_option linter.unusedSimpArgs false
set_option linter.unusedVariables false
open Go.RowKit Go.Deep

theorem i64_and255 (n : Int) : bits .and .i64 n 255 = n % 256 := by
  have h255 : (BitVec.ofInt 64 255).toNat = 2 ^ 8 - 1 := by decide
  have key : (BitVec.ofInt 64 n &&& BitVec.ofInt 64 255).toNat = (n % ((2 ^ 64 : Nat) : Int)).toNat % 2 ^ 8 := by
    rw [BitVec.toNat_and, BitVec.toNat_ofInt, h255, Nat.and_two_pow_sub_one_eq_mod]
  show IntKind.i64.wrap ((BitVec.ofInt 64 n &&& BitVec.ofInt 64 255).toNat : Nat) = n % 256
  rw [key, IntKind.wrap_i64]
  omega
theorem i64_and1 (n : Int) : bits .and .i64 n 1 = n % 2 := by
  have h1 : (BitVec.ofInt 64 1).toNat = 2 ^ 1 - 1 := by decide
  have key : (BitVec.ofInt 64 n &&& BitVec.ofInt 64 1).toNat = (n % ((2 ^ 64 : Nat) : Int)).toNat % 2 ^ 1 := by
    rw [BitVec.toNat_and, BitVec.toNat_ofInt, h1, Nat.and_two_pow_sub_one_eq_mod]
  show IntKind.i64.wrap ((BitVec.ofInt 64 n &&& BitVec.ofInt 64 1).toNat : Nat) = n % 2
  rw [key, IntKind.wrap_i64]
  omega
section
variable {P : Program}
theorem wpList_run {ops : Array Oper} {rest : List Oper} {o : Oper} {a : Act} {w w' : World} {Q : Exit → Act → World → Prop} {v : Value} (hgd : o.guard = none) (hr : (execOp a.eval o).run P w = .ok (.value v) w') (h : wpList P ops Q rest (a.put o.dst v) w') : wpList P ops Q (o :: rest) a w :=
  wpList_plain hgd fun _ hK => wp_of_run hr (hK _ _ h)
theorem exec_build1 {o : Oper} {ev : Operand → Value} {w w' : World} {v : Value} (t : TypeId) (i : Nat) (x : Operand) (a : Value) (ho : o.op = .build t #[(i, x)]) (hx : ev x = a)
    (hr : (Instr.build t #[(i, a)]).run P w = .ok v w') : (execOp ev o).run P w = .ok (.value v) w' := by
  unfold execOp
  simp only [ho, List.map_toArray, List.map_cons, List.map_nil, hx, Sem.run_bind, hr, Result.andThen_ok, Sem.run_pure]
theorem exec_bslice1 {o : Oper} {ev : Operand → Value} {w w' : World} {v : Value} (t : TypeId) (n i : Nat) (x : Operand) (a : Value) (ho : o.op = .buildSlice t n #[(i, x)]) (hx : ev x = a)
    (hr : (Instr.buildSlice t n #[(i, a)]).run P w = .ok v w') : (execOp ev o).run P w = .ok (.value v) w' := by
  unfold execOp
  simp only [ho, List.map_toArray, List.map_cons, List.map_nil, hx, Sem.run_bind, hr, Result.andThen_ok, Sem.run_pure]
theorem exec_bslice2 {o : Oper} {ev : Operand → Value} {w w' : World} {v : Value} (t : TypeId) (n i j : Nat) (x y : Operand) (a b : Value) (ho : o.op = .buildSlice t n #[(i, x), (j, y)]) (hx : ev x = a) (hy : ev y = b)
    (hr : (Instr.buildSlice t n #[(i, a), (j, b)]).run P w = .ok v w') : (execOp ev o).run P w = .ok (.value v) w' := by
  unfold execOp
  simp only [ho, List.map_toArray, List.map_cons, List.map_nil, hx, hy, Sem.run_bind, hr, Result.andThen_ok, Sem.run_pure]
end
def zq : List Int := List.replicate 32 0
theorem zq_sum : isSum zq := zeroN_sum
theorem build_act (a : Option Addr) (n c : Nat) (w : World) : (Instr.build 49 #[(2, .slice a n c)]).run Tryd.prog w = .ok (.agg (rowV 36 (actV 0 0 (.slice a n c) (.slice none 0 0) zq))) w := by
  show (_ : Result Value) = _
  kernel_rfl
theorem build_acts (f g : Nat → Value) (w : World) : (Instr.buildSlice 51 2 #[(0, .agg (rowV 36 f)), (1, .agg (rowV 36 g))]).run Tryd.prog w = .ok (.slice (some ⟨w.heap.size, 0, none⟩) 2 2) (w.alloc (.cells (rowV 72 (fun j => if j < 36 then f j else g (j - 36))) 49)) := by
  show (_ : Result Value) = _
  kernel_rfl
/-- an act of parts alone. -/
def partsA (n : Nat) (ps : Nat → List Int) : AR := ⟨0, 0, n, ps, zq, []⟩
theorem two_acts (w : World) (v u : Value) (n m : Nat) (ps qs : Nat → List Int) (hv : isParts w v n ps) (hu : isParts w u m qs) :
    isActs (w.alloc (.cells (rowV 72 (fun j => if j < 36 then actV 0 0 v (.slice none 0 0) zq j else actV 0 0 u (.slice none 0 0) zq (j - 36))) 49)) (.slice (some ⟨w.heap.size, 0, none⟩) 2 2) 2 (fun i => if i = 0 then partsA n ps else partsA m qs) := by
  have hb : Below w.heap.size w (w.alloc (.cells (rowV 72 (fun j => if j < 36 then actV 0 0 v (.slice none 0 0) zq j else actV 0 0 u (.slice none 0 0) zq (j - 36))) 49)) := (Below.refl _ _).alloc (Nat.le_refl _) _
  have hr := rowIs_box w 49 72 (fun j => if j < 36 then actV 0 0 v (.slice none 0 0) zq j else actV 0 0 u (.slice none 0 0) zq (j - 36))
  refine Or.inr ⟨w.heap.size, 0, 2, rfl, by simp, Nat.le_refl _, by unfold maxLen; omega, fun i hi => ?_⟩
  have : i = 0 ∨ i = 1 := by omega
  rcases this with rfl | rfl
  · refine ⟨v, .slice none 0 0, fun j hj => ?_, (hv.below hb (Nat.le_refl _)).any, Or.inl (Or.inl ⟨rfl, rfl⟩), zq_sum⟩
    rw [show 0 + 0 * 36 + j = j by omega, hr.cell (show j < 72 by omega), if_pos hj]; rfl
  · refine ⟨u, .slice none 0 0, fun j hj => ?_, (hu.below hb (Nat.le_refl _)).any, Or.inl (Or.inl ⟨rfl, rfl⟩), zq_sum⟩
    rw [show 0 + 1 * 36 + j = 36 + j by omega, hr.cell (show 36 + j < 72 by omega), if_neg (by omega), show 36 + j - 36 = j by omega]; rfl
theorem build_act0 (w : World) : (Instr.buildSlice 51 0 #[]).run Tryd.prog w = .ok (.slice (some ⟨w.heap.size, 0, none⟩) 0 0) (w.alloc (.cells #[] 49)) := by
  show (_ : Result Value) = _
  kernel_rfl
theorem exec_bslice0 {P : Program} {o : Oper} {ev : Operand → Value} {w w' : World} {v : Value} (t : TypeId) (n : Nat) (ho : o.op = .buildSlice t n #[])
    (hr : (Instr.buildSlice t n #[]).run P w = .ok v w') : (execOp ev o).run P w = .ok (.value v) w' := by
  unfold execOp
  simp only [ho, List.map_toArray, List.map_cons, List.map_nil, Sem.run_bind, hr, Result.andThen_ok, Sem.run_pure]
theorem build_act1 (f : Nat → Value) (w : World) : (Instr.buildSlice 51 1 #[(0, .agg (rowV 36 f))]).run Tryd.prog w = .ok (.slice (some ⟨w.heap.size, 0, none⟩) 1 1) (w.alloc (.cells (rowV 36 f) 49)) := by
  show (_ : Result Value) = _
  kernel_rfl
end Go.Proofs.YtmfgfcknhjblgaaDoor

/- How long preimages are. Plain mathematics. -/
namespace Go.Proofs.YtmfgfcknhjblgaaDoor
set_option linter.unusedSimpArgs false
set_option linter.unusedVariables false
open Go.RowKit Go.Deep

theorem str_beq (s t : ByteArray) : (s.toList == t.toList) = decide (s = t) := by
  rw [Bool.eq_iff_iff, beq_iff_eq, decide_eq_true_iff, ByteArray.toList_eq, ByteArray.toList_eq]
  exact ⟨fun h => ByteArray.ext (Array.toList_inj.1 h), fun h => by rw [h]⟩
theorem numB_le (x : Int) : (numB x).length ≤ 9 := by rw [numB_length]; have := szI_le x; omega
theorem blobs_le (ps : Nat → List Int) : ∀ n, (flatTo (blobsB ps) n).length ≤ 9 * n + (flatTo ps n).length
  | 0 => by simp [flatTo]
  | n + 1 => by
    have := blobs_le ps n
    have h9 := numB_le ((ps n).length : Int)
    rw [flatTo, flatTo, List.length_append, List.length_append, show blobsB ps n = numB (ps n).length ++ ps n from rfl, List.length_append]
    omega
theorem part_le (ps : Nat → List Int) (n j : Nat) (h : j < n) : (ps j).length ≤ (flatTo ps n).length := by
  have := flatTo_mono ps n (j + 1) h
  rw [flatTo, List.length_append] at this; omega
end Go.Proofs.YtmfgfcknhjblgaaDoor

namespace Go.Proofs.YtmfgfcknhjblgaaDoor
open Go.RowKit Go.Deep

theorem pow_step (k : Nat) : 2 * (2 ^ k % 4294967296 : Int) % 4294967296 = 2 ^ (k + 1) % 4294967296 := by
  rw [Int.pow_succ]; omega
set_option maxHeartbeats 1000000 in
theorem power_any (n : Nat) (hn : n ≤ 64) (w : World) :
    Calls Tryd.prog 42 #[.int .i64 n] w fun e w' => e = .returned (.int .u32 (2 ^ n % 4294967296)) ∧ w' = w := by
  go_enter Tryd.func42, Tryd.ntmps42
  go_wp2
  go_loop [3, 4] (fun x i => ∃ k : Nat, k ≤ n ∧ i = .int .i64 k ∧ x = .int .u32 (2 ^ k % 4294967296)) (fun _ i => n - (intOf i).toNat)
  case atStart => exact ⟨0, by omega, rfl, rfl⟩
  case round =>
    obtain ⟨k, hk, rfl, rfl⟩ := hrel
    by_cases hlt : k < n
    · have HS : Hid _ := pow_step k
      have p0 : (0 : Int) ≤ 2 ^ k % 4294967296 := by omega
      have p1 : (2 ^ k % 4294967296 : Int) < 4294967296 := by omega
      revert HS p0 p1
      generalize (2 ^ k % 4294967296 : Int) = x
      intro HS p0 p1
      go_wp2
      go_round
      case rel => exact ⟨k + 1, by omega, by go_num, by rw [← HS.out]⟩
      case measure => simp [intOf]; omega
    · obtain rfl : k = n := by omega
      go_wp2
      go_ret
      exact ⟨rfl, rfl⟩

theorem pow_small (n : Nat) (h : n < 32) : (2 ^ n % 4294967296 : Int) = 2 ^ n := by
  have h1 : (2 : Int) ^ n < 2 ^ 32 := by
    have : (2 : Nat) ^ n < 2 ^ 32 := Nat.pow_lt_pow_right (by omega) h
    exact_mod_cast this
  have h0 : (0 : Int) ≤ 2 ^ n := Int.pow_nonneg (by omega)
  omega
/-- a word turned to the right, as the document's answer has it. -/
def turnR (x : Int) (n : Nat) : Int := (x / 2 ^ n + x % 2 ^ n * 2 ^ (32 - n) % 4294967296) % 4294967296
set_option maxHeartbeats 1000000 in
set_option maxRecDepth 100000 in
theorem rturn_nat (x : Int) (hx0 : 0 ≤ x) (hx1 : x < 4294967296) (n : Nat) (h0 : 0 < n) (h1 : n < 32) (w : World) :
    Calls Tryd.prog 57 #[.int .u32 x, .int .i64 n] w fun e w' => e = .returned (.int .u32 (turnR x n)) ∧ w' = w.drew := by
  have P1 := power_any n (by omega)
  have P2 := power_any (32 - n) (by omega)
  rw [pow_small n h1] at P1
  rw [pow_small (32 - n) (by omega)] at P2
  have hT : turnR x n = (x / 2 ^ n + x % 2 ^ n * 2 ^ (32 - n) % 4294967296) % 4294967296 := rfl
  rw [hT]; clear hT
  have e32 : ((32 - n : Nat) : Int) = 32 - (n : Int) := by omega
  rw [e32] at P2
  clear e32
  have a0 : (1 : Int) ≤ 2 ^ n := by have := Nat.pow_pos (n := n) (show 0 < 2 by omega); exact_mod_cast this
  have b0 : (1 : Int) ≤ 2 ^ (32 - n) := by have := Nat.pow_pos (n := 32 - n) (show 0 < 2 by omega); exact_mod_cast this
  have a1 : (2 : Int) ^ n < 4294967296 := by have := pow_small n h1; omega
  have b1 : (2 : Int) ^ (32 - n) < 4294967296 := by have := pow_small (32 - n) (by omega); omega
  revert P1 P2 a0 a1 b0 b1
  generalize (2 : Int) ^ n = a
  generalize (2 : Int) ^ (32 - n) = b
  intro P1 P2 a0 b0 a1 b1
  have q1 : IntKind.u32.wrap (x.tdiv a) = x / a := IntWalk.u32_quo _ _ (by omega)
  have q2 : x.tmod a = x % a := Int.tmod_eq_emod_of_nonneg hx0
  have qz : ¬ a = 0 := by omega
  have qw : IntKind.i64.wrap (32 - (n : Int)) = 32 - (n : Int) := IntWalk.i64_in _ (by omega)
  go_enter Tryd.func57, Tryd.ntmps57
  go_wp2
  refine wp_region_noPanic ?_
  refine wp_region_held_drew (S := fun _ => True) (by kernel_rfl) trivial (fun hHeld => ?_)
  refine take_op (i := 0) (v := ?v0) rfl (by kernel_rfl) (by kernel_rfl) (by kernel_rfl) (fun _ _ _ h => h) rfl hHeld ?y0 ?r0
  case y0 => (intro wz hz; go_simp; first | done | with_reducible rfl)
  try simp only [Act.put, List.setIfInBounds_toArray, List.set_cons_zero, List.set_cons_succ]
  refine take_op (i := 1) (v := ?v1) rfl (by kernel_rfl) (by kernel_rfl) (by kernel_rfl) (fun _ _ _ h => h) rfl hHeld ?y1 ?r1
  case y1 => (intro wz hz; go_simp; first | done | with_reducible rfl)
  try simp only [Act.put, List.setIfInBounds_toArray, List.set_cons_zero, List.set_cons_succ]
  refine take_op (i := 4) (v := ?v4) rfl (by kernel_rfl) (by kernel_rfl) (by kernel_rfl) (fun _ _ _ h => h) rfl hHeld ?y4 ?r4
  case y4 => (intro wz hz; go_simp; first | done | with_reducible rfl)
  try simp only [Act.put, List.setIfInBounds_toArray, List.set_cons_zero, List.set_cons_succ]
  refine take_op (i := 5) (v := ?v5) rfl (by kernel_rfl) (by kernel_rfl) (by kernel_rfl) (fun _ _ _ h => h) rfl hHeld ?y5 ?r5
  case y5 => (intro wz hz; go_simp; first | done | with_reducible rfl)
  try simp only [Act.put, List.setIfInBounds_toArray, List.set_cons_zero, List.set_cons_succ]
  refine take_op (i := 8) (v := ?v8) rfl (by kernel_rfl) (by kernel_rfl) (by kernel_rfl) (fun _ _ _ h => h) rfl hHeld ?y8 ?r8
  case y8 => (intro wz hz; go_simp; first | done | with_reducible rfl)
  try simp only [Act.put, List.setIfInBounds_toArray, List.set_cons_zero, List.set_cons_succ]
  refine take_op (i := 9) (v := ?v9) rfl (by kernel_rfl) (by kernel_rfl) (by kernel_rfl) (fun _ _ _ h => h) rfl hHeld ?y9 ?r9
  case y9 => (intro wz hz; go_simp; first | done | with_reducible rfl)
  try simp only [Act.put, List.setIfInBounds_toArray, List.set_cons_zero, List.set_cons_succ]
  refine take_one (i := 2) rfl (by kernel_rfl) rfl (fun K hK => ?_)
  go_simp
  refine (P1 _).mono ?_
  rintro e w' ⟨rfl, hww⟩
  obtain rfl := hww.symm
  clear hww
  refine hK.out _ _ trivial (fun hHeld => ?_)
  clear hK K
  try simp only [Act.put, List.setIfInBounds_toArray, List.set_cons_zero, List.set_cons_succ]
  refine take_op (i := 3) (v := ?v3) rfl (by kernel_rfl) (by kernel_rfl) (by kernel_rfl) (fun _ _ _ h => h) rfl hHeld ?y3 ?r3
  case y3 => (intro wz hz; go_simp; first | done | with_reducible rfl)
  try simp only [Act.put, List.setIfInBounds_toArray, List.set_cons_zero, List.set_cons_succ]
  refine take_one (i := 6) rfl (by kernel_rfl) rfl (fun K hK => ?_)
  go_simp
  refine (P1 _).mono ?_
  rintro e w' ⟨rfl, hww⟩
  obtain rfl := hww.symm
  clear hww
  refine hK.out _ _ trivial (fun hHeld => ?_)
  clear hK K
  try simp only [Act.put, List.setIfInBounds_toArray, List.set_cons_zero, List.set_cons_succ]
  refine take_op (i := 7) (v := ?v7) rfl (by kernel_rfl) (by kernel_rfl) (by kernel_rfl) (fun _ _ _ h => h) rfl hHeld ?y7 ?r7
  case y7 => (intro wz hz; go_simp; first | done | with_reducible rfl)
  try simp only [Act.put, List.setIfInBounds_toArray, List.set_cons_zero, List.set_cons_succ]
  refine take_one (i := 10) rfl (by kernel_rfl) rfl (fun K hK => ?_)
  go_simp
  refine (P2 _).mono ?_
  rintro e w' ⟨rfl, hww⟩
  obtain rfl := hww.symm
  clear hww
  refine hK.out _ _ trivial (fun hHeld => ?_)
  clear hK K
  try simp only [Act.put, List.setIfInBounds_toArray, List.set_cons_zero, List.set_cons_succ]
  refine take_op (i := 11) (v := ?v11) rfl (by kernel_rfl) (by kernel_rfl) (by kernel_rfl) (fun _ _ _ h => h) rfl hHeld ?y11 ?r11
  case y11 => (intro wz hz; go_simp; first | done | with_reducible rfl)
  try simp only [Act.put, List.setIfInBounds_toArray, List.set_cons_zero, List.set_cons_succ]
  refine take_op (i := 12) (v := ?v12) rfl (by kernel_rfl) (by kernel_rfl) (by kernel_rfl) (fun _ _ _ h => h) rfl hHeld ?y12 ?r12
  case y12 => (intro wz hz; go_simp; first | done | with_reducible rfl)
  try simp only [Act.put, List.setIfInBounds_toArray, List.set_cons_zero, List.set_cons_succ]
  refine take_op (i := 13) (v := ?v13) rfl (by kernel_rfl) (by kernel_rfl) (by kernel_rfl) (fun _ _ _ h => h) rfl hHeld ?y13 ?r13
  case y13 => (intro wz hz; go_simp; first | done | with_reducible rfl)
  try simp only [Act.put, List.setIfInBounds_toArray, List.set_cons_zero, List.set_cons_succ]
  refine wpAnyH_done (by kernel_rfl) ?_ _
  refine NoPanic.normal ?_
  clear hHeld
  go_wp2
  go_ret
  exact ⟨rfl, rfl⟩

theorem rot_turn (x : Int) (hx0 : 0 ≤ x) (hx1 : x < 4294967296) (n : Nat) (h0 : 0 < n) (h1 : n < 32) : turnR x n = rotI x n := by
  obtain ⟨X, rfl⟩ := Int.eq_ofNat_of_zero_le hx0
  have hM : (4294967296 : Nat) = 2 ^ n * 2 ^ (32 - n) := by rw [← Nat.pow_add, show n + (32 - n) = 32 by omega]
  have hX : X < 4294967296 := by omega
  have hpn : 0 < 2 ^ n := Nat.pow_pos (by omega)
  have hpm : 0 < 2 ^ (32 - n) := Nat.pow_pos (by omega)
  have hmul : X * 2 ^ (32 - n) % 4294967296 = X % 2 ^ n * 2 ^ (32 - n) := by rw [hM, Nat.mul_mod_mul_right]
  have hlow : X / 2 ^ n < 2 ^ (32 - n) := by rw [Nat.div_lt_iff_lt_mul hpn, Nat.mul_comm, ← hM]; exact hX
  have hhigh : X % 2 ^ n * 2 ^ (32 - n) ≤ (2 ^ n - 1) * 2 ^ (32 - n) := Nat.mul_le_mul_right _ (by have := Nat.mod_lt X hpn; omega)
  have hsub : (2 ^ n - 1) * 2 ^ (32 - n) + 2 ^ (32 - n) = 4294967296 := by rw [hM, Nat.sub_mul, Nat.one_mul]; have : 2 ^ (32 - n) ≤ 2 ^ n * 2 ^ (32 - n) := Nat.le_mul_of_pos_left _ hpn; omega
  have e1 : rotI (X : Int) n = ((X % 2 ^ n * 2 ^ (32 - n) + X / 2 ^ n : Nat) : Int) := by
    unfold rotI
    have c1 : (X : Int) * 2 ^ (32 - n) % 4294967296 = ((X * 2 ^ (32 - n) % 4294967296 : Nat) : Int) := by rw [Int.natCast_emod, Int.natCast_mul, Int.natCast_pow]; rfl
    have c2 : (X : Int) / 2 ^ n = ((X / 2 ^ n : Nat) : Int) := by push_cast; rfl
    rw [c1, c2, hmul, u32_or_nat _ _ (by omega) (by omega), nat_join (32 - n) _ _ (Nat.mul_mod_left _ _) hlow]
  have e2 : turnR (X : Int) n = ((X % 2 ^ n * 2 ^ (32 - n) + X / 2 ^ n : Nat) : Int) := by
    unfold turnR
    have c1 : (X : Int) % 2 ^ n * 2 ^ (32 - n) = ((X % 2 ^ n * 2 ^ (32 - n) : Nat) : Int) := by push_cast; rfl
    have c2 : (X : Int) / 2 ^ n = ((X / 2 ^ n : Nat) : Int) := by push_cast; rfl
    rw [c1, c2]
    generalize X % 2 ^ n * 2 ^ (32 - n) = A at *
    generalize X / 2 ^ n = B at *
    generalize (2 ^ n - 1) * 2 ^ (32 - n) = C at *
    generalize 2 ^ (32 - n) = D at *
    omega
  rw [e1, e2]
theorem rturn_any (x : Int) (n : Int) (hx0 : 0 ≤ x) (hx1 : x < 4294967296) (h0 : 0 < n) (h1 : n < 32) (w : World) :
    Calls Tryd.prog 57 #[.int .u32 x, .int .i64 n] w fun e w' => e = .returned (.int .u32 (rotI x n.toNat)) ∧ w' = w.drew := by
  obtain ⟨m, rfl⟩ := Int.eq_ofNat_of_zero_le (show 0 ≤ n by omega)
  rw [Int.toNat_natCast, ← rot_turn x hx0 hx1 m (by omega) (by omega)]
  exact rturn_nat x hx0 hx1 m (by omega) (by omega) w
set_option maxHeartbeats 1000000 in
theorem three_any (a b c : Int) (w : World) :
    Calls Tryd.prog 56 #[.int .u32 a, .int .u32 b, .int .u32 c] w fun e w' => e = .returned (.int .u32 (bits .xor .u32 (bits .xor .u32 a b) c)) ∧ w' = w := by
  go_enter Tryd.func56, Tryd.ntmps56
  go_wp2
  go_ret
  exact ⟨rfl, rfl⟩
set_option maxHeartbeats 2000000 in
set_option maxRecDepth 100000 in
theorem constants_any (w : World) :
    Calls Tryd.prog 55 #[] w fun e w' => e = .returned (.slice (some ⟨w.heap.size, 0, none⟩) 64 64) ∧ w' = w.alloc (.cells (rowV 64 fun i => .int .u32 (kAt i)) 38) := by
  have hk : ∀ c : Array Value, c = (rowV 64 fun i => .int .u32 (kAt i)) → w.alloc (.cells c 38) = w.alloc (.cells (rowV 64 fun i => .int .u32 (kAt i)) 38) := fun c h => by rw [h]
  have HK : Hid _ := hk
  clear hk
  go_enter Tryd.func55, Tryd.ntmps55
  go_wp2
  go_ret
  exact ⟨rfl, HK.out _ (by kernel_rfl)⟩
end Go.Proofs.YtmfgfcknhjblgaaDoor

namespace Go.Proofs.YtmfgfcknhjblgaaDoor
open Go.RowKit Go.Deep

/-- a word of bytes, byte by byte. -/
def hornerI (f : Nat → Int) (k : Nat) : Nat → Int
  | 0 => 0
  | j + 1 => (256 * hornerI f k j % 4294967296 + f (4 * k + j) % 4294967296) % 4294967296
theorem or_add (i : Nat) (a b : Int) (ha0 : 0 ≤ a) (ha1 : a < 4294967296) (hb0 : 0 ≤ b) (hb1 : b < 2 ^ i) (hi : i < 32) (ham : a % 2 ^ i = 0) : bits .or .u32 a b = a + b := by
  obtain ⟨A, rfl⟩ := Int.eq_ofNat_of_zero_le ha0
  obtain ⟨B, rfl⟩ := Int.eq_ofNat_of_zero_le hb0
  have hB : B < 2 ^ i := by exact_mod_cast hb1
  have hp : 2 ^ i ≤ 2 ^ 31 := Nat.pow_le_pow_right (by omega) (by omega)
  have hA : A % 2 ^ i = 0 := by exact_mod_cast ham
  rw [u32_or_nat _ _ (by omega) (by omega), nat_join i A B hA hB]; rfl
theorem wFirst_horner (f : Nat → Int) (hf : ∀ i, 0 ≤ f i ∧ f i ≤ 255) (k : Nat) : wFirst f k = hornerI f k 4 := by
  have h0 := hf (4 * k)
  have h1 := hf (4 * k + 1)
  have h2 := hf (4 * k + 2)
  have h3 := hf (4 * k + 3)
  simp only [hornerI, wFirst, Nat.add_zero]
  generalize f (4 * k) = a at *
  generalize f (4 * k + 1) = b at *
  generalize f (4 * k + 2) = c at *
  generalize f (4 * k + 3) = d at *
  have e1 : a % 4294967296 * 16777216 % 4294967296 = a * 16777216 := by omega
  have e2 : b % 4294967296 * 65536 % 4294967296 = b * 65536 := by omega
  have e3 : c % 4294967296 * 256 % 4294967296 = c * 256 := by omega
  have e4 : d % 4294967296 = d := by omega
  have o1 : bits .or .u32 (a * 16777216) (b * 65536) = a * 16777216 + b * 65536 := or_add 24 _ _ (by omega) (by omega) (by omega) (by omega) (by omega) (by omega)
  have o2 : bits .or .u32 (a * 16777216 + b * 65536) (c * 256) = a * 16777216 + b * 65536 + c * 256 := or_add 16 _ _ (by omega) (by omega) (by omega) (by omega) (by omega) (by omega)
  have o3 : bits .or .u32 (a * 16777216 + b * 65536 + c * 256) d = a * 16777216 + b * 65536 + c * 256 + d := or_add 8 _ _ (by omega) (by omega) (by omega) (by omega) (by omega) (by omega)
  rw [e1, e2, e3, e4, o1, o2, o3]
  omega

theorem sched_cell {w : World} {g : Nat} (f : Nat → Int) (k i : Nat) (hi : i < k) (h : ∀ j u, ((wTo f k).map (Value.int .u32))[j]? = some u → w.cell? ⟨g, j, none⟩ = some u) : w.cell? ⟨g, i, none⟩ = some (.int .u32 (wAt f k i)) := by
  refine h i _ ?_
  have hl := wTo_length f k
  rw [List.getElem?_map, List.getElem?_eq_getElem (by omega), wAt, List.getD_eq_getElem?_getD, List.getElem?_eq_getElem (by omega)]; rfl
theorem bits_range (op : BinOp) (x y : Int) : 0 ≤ bits op .u32 x y ∧ bits op .u32 x y < 4294967296 := by
  unfold bits
  simp only [IntKind.wrap_u32']
  omega
theorem wFirst_range (f : Nat → Int) (k : Nat) : 0 ≤ wFirst f k ∧ wFirst f k < 4294967296 := bits_range _ _ _
theorem wAt_range (f : Nat → Int) : ∀ k j, 0 ≤ wAt f k j ∧ wAt f k j < 4294967296
  | 0, j => by rw [wAt_zero]; omega
  | k + 1, j => by
    rw [wAt_succ]
    by_cases h : j = k
    · rw [if_pos h]
      by_cases h2 : k < 16
      · rw [if_pos h2]; exact wFirst_range f k
      · rw [if_neg h2, wNext_at]; omega
    · rw [if_neg h]; exact wAt_range f k j
theorem one_cellW (w : World) (x : Value) (j : Nat) (u : Value) (hu : ([x] : List Value)[j]? = some u) : (w.alloc (.cells #[x] 38)).cell? ⟨w.heap.size, 0 + j, none⟩ = some u := by
  have hb : (w.alloc (.cells #[x] 38)).heap[w.heap.size]? = some (.cells #[x] 38) := blk_alloc_new _ _
  rw [cell_of_row _ _ _ _ _ _ hb, Nat.zero_add]
  simpa using hu
set_option maxHeartbeats 2000000 in
set_option maxRecDepth 100000 in
theorem sched_any (f : Nat → Int) (hf : ∀ i, 0 ≤ f i ∧ f i ≤ 255) (sb so cap : Nat) (w : World) (hsb : sb < w.heap.size) (hc : ∀ i, i < 64 → w.cell? ⟨sb, so + i, none⟩ = some (.int .u8 (f i))) :
    Calls Tryd.prog 54 #[.slice (some ⟨sb, so, none⟩) 64 cap] w fun e w' => ∃ v, e = .returned v ∧ owns w' w.heap.size 38 v ((wTo f 64).map (Value.int .u32)) ∧ Below w.heap.size w w' := by
  have hiW : (Tryd.prog.info? 38).map (fun i => (i.zero, i.size, i.bytes)) = some (some (.int .u32 0), 1, 4) := by kernel_rfl
  go_enter Tryd.func54, Tryd.ntmps54
  go_wp2
  go_loopw [3, 4] (fun v i wr => ∃ k : Nat, k ≤ 16 ∧ i = .int .i64 k ∧ owns wr w.heap.size 38 v ((wTo f k).map (Value.int .u32)) ∧ Below w.heap.size w wr) (fun _ i _ => 16 - (intOf i).toNat)
  case atStart => exact ⟨0, by omega, rfl, owns_nil _ _ _, Below.refl _ _⟩
  case round =>
    obtain ⟨k, hk, rfl, ho, hb⟩ := hrel
    by_cases hlt : k < 16
    · go_wp2
      go_loopw [5, 6] (fun x i wq => ∃ j : Nat, j ≤ 4 ∧ i = .int .i64 j ∧ x = .int .u32 (hornerI f k j) ∧ wq = wr) (fun _ i _ => 4 - (intOf i).toNat)
      case atStart => exact ⟨0, by omega, rfl, rfl, rfl⟩
      case round =>
        obtain ⟨j, hj, rfl, rfl, rfl⟩ := hrel
        by_cases hltj : j < 4
        · have b0 : (0 : Int) ≤ 4 * (k : Int) + (j : Int) := by omega
          have b1 : 4 * (k : Int) + (j : Int) < 64 := by omega
          have c0 := hc (4 * k + j) (by omega)
          rw [← hb.cell (p := ⟨sb, so + (4 * k + j), none⟩) hsb] at c0
          go_wp2
          go_light
          exact ⟨⟨j + 1, by omega, by go_num, rfl, trivial⟩, by simp [intOf]; omega⟩
        · obtain rfl : j = 4 := by omega
          have hw1 := wFirst_horner f hf k
          have hlk : ((wTo f k).map (Value.int .u32)).length = k := by rw [List.length_map, wTo_length]
          obtain ⟨g, cp, w2, hr, ho2, hg2, hat, hlt2⟩ := run_append (P := Tryd.prog) (wr.alloc (.cells #[.int .u32 (hornerI f k 4)] 38)) 81 81 w.heap.size 38 (.int .u32 0) 4 Tryd.underlying81 hiW rfl u3 _ (ho.alloc _) wr.heap.size 0 1 1 [.int .u32 (hornerI f k 4)] rfl (fun j u hu => one_cellW wr _ j u hu) (fun u hu => by rw [List.mem_singleton.1 hu]; rfl) (by omega) (by rw [hlk]; unfold maxLen; omega) (by rw [hlk]; omega) (by have := hb.size; simp; omega)
          have hB2 : Below w.heap.size w w2 := (hb.alloc hb.size _).grown hg2 (by have := hb.size; simp; omega) (fun j hj => (ho.block j hj).1)
          rw [hlk] at hr ho2
          have HW : Hid _ := hw1
          have HO : Hid _ := ho2
          clear hw1 ho2 hlk hat hlt2 hg2
          go_wp2_with (first | (at_builtin; refine wpList_append_run rfl _ _ _ rfl rfl rfl hr ?_))
          clear hr ho
          go_wp2
          go_roundw
          case rel => exact ⟨k + 1, by omega, by go_num, by rw [wTo, if_pos hlt, HW.out, List.map_append]; exact HO.out, hB2⟩
          case measure => simp [intOf]; omega
    · obtain rfl : k = 16 := by omega
      clear hlt hk
      go_wp2
      simp only [show ((16 : Nat) : Int) = 16 from rfl]
      go_loopw [3, 7] (fun v i wr => ∃ k : Nat, 16 ≤ k ∧ k ≤ 64 ∧ i = .int .i64 k ∧ owns wr w.heap.size 38 v ((wTo f k).map (Value.int .u32)) ∧ Below w.heap.size w wr) (fun _ i _ => 64 - (intOf i).toNat)
      case atStart => exact ⟨16, by omega, by omega, rfl, ho, hb⟩
      case round =>
        clear ho hb
        obtain ⟨k, hk0, hk, rfl, ho, hb⟩ := hrel
        have hlk : ((wTo f k).map (Value.int .u32)).length = k := by rw [List.length_map, wTo_length]
        obtain ⟨g, cp, hv, hg0, hg1, hc1, hm1, hcell, hfz⟩ := ho.shape (by rw [hlk]; omega)
        rw [hlk] at hv hc1
        subst hv
        unfold maxLen at hm1
        by_cases hlt : k < 64
        · have d0 := sched_cell f k (k - 15) (by omega) hcell
          have d1 := sched_cell f k (k - 2) (by omega) hcell
          have d2 := sched_cell f k (k - 16) (by omega) hcell
          have d3 := sched_cell f k (k - 7) (by omega) hcell
          have n0 := wAt_range f k (k - 15)
          have n1 := wAt_range f k (k - 2)
          have g0 : (15 : Int) ≤ (k : Int) := by omega
          have g1 : (2 : Int) ≤ (k : Int) := by omega
          have g2 : (16 : Int) ≤ (k : Int) := by omega
          have g3 : (7 : Int) ≤ (k : Int) := by omega
          have g4 : (k : Int) < 64 := by omega
          have HN : Hid _ := wNext_at f k
          have e0 : (0 : Int) ≤ wAt f k (k - 15) ∧ wAt f k (k - 15) < 4294967296 := n0
          clear hcell hfz
          go_wp2
          go_quiet (fail)
          go_wp2_with fail
          refine (rturn_any _ _ n0.1 n0.2 (by decide) (by decide) _).mono ?_
          rintro e wa ⟨rfl, rfl⟩
          go_wp2_with fail
          refine (rturn_any _ _ n0.1 n0.2 (by decide) (by decide) _).mono ?_
          rintro e wa ⟨rfl, rfl⟩
          go_wp2_with fail
          refine (three_any _ _ _ _).mono ?_
          rintro e wa ⟨rfl, rfl⟩
          go_wp2_with fail
          refine (rturn_any _ _ n1.1 n1.2 (by decide) (by decide) _).mono ?_
          rintro e wa ⟨rfl, rfl⟩
          go_wp2_with fail
          refine (rturn_any _ _ n1.1 n1.2 (by decide) (by decide) _).mono ?_
          rintro e wa ⟨rfl, rfl⟩
          go_wp2_with fail
          refine (three_any _ _ _ _).mono ?_
          rintro e wa ⟨rfl, rfl⟩
          simp only [show (7 : Int).toNat = 7 from rfl, show (18 : Int).toNat = 18 from rfl, show (17 : Int).toNat = 17 from rfl, show (19 : Int).toNat = 19 from rfl]
          go_wp2_with fail
          have ho' : owns (wr.drewN (nq + 1 + 1 + 1 + 1)).drew w.heap.size 38 (.slice (some ⟨g, 0, none⟩) k cp) ((wTo f k).map (Value.int .u32)) := ho
          have hb' : Below w.heap.size w (wr.drewN (nq + 1 + 1 + 1 + 1)).drew := (hb.drewN _).drew
          have d2' : (wr.drewN (nq + 1 + 1 + 1 + 1)).drew.cell? ⟨g, k - 16, none⟩ = some (.int .u32 (wAt f k (k - 16))) := d2
          have d3' : (wr.drewN (nq + 1 + 1 + 1 + 1)).drew.cell? ⟨g, k - 7, none⟩ = some (.int .u32 (wAt f k (k - 7))) := d3
          have i16 : IntKind.i64.wrap ((k : Int) - 16) = (k : Int) - 16 := IntWalk.i64_in _ (by omega)
          have i7 : IntKind.i64.wrap ((k : Int) - 7) = (k : Int) - 7 := IntWalk.i64_in _ (by omega)
          have l16 : (k : Int) - 16 < (k : Int) := by omega
          have l7 : (k : Int) - 7 < (k : Int) := by omega
          have t16 : ((k : Int) - 16).toNat = k - 16 := by omega
          have t7 : ((k : Int) - 7).toNat = k - 7 := by omega
          have hX : IntKind.u32.wrap (IntKind.u32.wrap (IntKind.u32.wrap (wAt f k (k - 16) + bits .xor .u32 (bits .xor .u32 (rotI (wAt f k (k - 15)) 7) (rotI (wAt f k (k - 15)) 18)) (wAt f k (k - 15) / 8)) + wAt f k (k - 7)) + bits .xor .u32 (bits .xor .u32 (rotI (wAt f k (k - 2)) 17) (rotI (wAt f k (k - 2)) 19)) (wAt f k (k - 2) / 1024)) = wNext (wTo f k) k := by
            rw [HN.out]; simp only [IntKind.wrap_u32']
          have HX : Hid _ := hX
          clear hX HN
          clear d0 d1 d2 d3 ho hb
          refine wp_region_noPanic ?_
          refine wp_region_held_drew (S := fun _ => True) (by kernel_rfl) trivial (fun hHeld => ?_)
          generalize (wr.drewN (nq + 1 + 1 + 1 + 1)).drew = wy at *
          obtain ⟨g', cp', w2, hr, ho2, hg2, hat, hlt2⟩ := run_append (P := Tryd.prog) (wy.alloc (.cells #[.int .u32 (wNext (wTo f k) k)] 38)) 81 81 w.heap.size 38 (.int .u32 0) 4 Tryd.underlying81 hiW rfl _ _ (ho'.alloc _) wy.heap.size 0 1 1 [.int .u32 (wNext (wTo f k) k)] rfl (fun j u hu => one_cellW wy _ j u hu) (fun u hu => by rw [List.mem_singleton.1 hu]; rfl) (by omega) (by rw [hlk]; unfold maxLen; omega) (by rw [hlk]; omega) (by have := hb'.size; simp; omega)
          have hB2 : Below w.heap.size w w2 := (hb'.alloc hb'.size _).grown hg2 (by have := hb'.size; simp; omega) (fun j hj => (ho'.block j hj).1)
          rw [hlk] at hr ho2
          have HO : Hid _ := ho2
          have HB : Hid _ := hB2
          clear ho2 hB2 hat hlt2 hg2 ho' hb'
          refine take_op (i := 0) (v := ?v0) rfl (by kernel_rfl) (by kernel_rfl) (by kernel_rfl) (fun _ _ _ h => h) rfl hHeld ?y0 ?r0
          case y0 => (intro wz hz; go_simp; first | done | with_reducible rfl)
          try simp only [Act.put, List.setIfInBounds_toArray, List.set_cons_zero, List.set_cons_succ]
          refine take_op (i := 1) (v := ?v1) rfl (by kernel_rfl) (by kernel_rfl) (by kernel_rfl) (fun _ _ _ h => h) rfl hHeld ?y1 ?r1
          case y1 => (intro wz hz; go_simp; first | done | with_reducible rfl)
          try simp only [Act.put, List.setIfInBounds_toArray, List.set_cons_zero, List.set_cons_succ]
          refine take_op (i := 2) (v := ?v2) rfl (by kernel_rfl) (by kernel_rfl) (by kernel_rfl) (fun _ _ _ h => h) rfl hHeld ?y2 ?r2
          case y2 => (intro wz hz; go_simp; first | done | with_reducible rfl)
          try simp only [Act.put, List.setIfInBounds_toArray, List.set_cons_zero, List.set_cons_succ]
          refine take_op (i := 3) (v := ?v3) rfl (by kernel_rfl) (by kernel_rfl) (by kernel_rfl) (fun _ _ _ h => h) rfl hHeld ?y3 ?r3
          case y3 => (intro wz hz; go_simp; first | done | with_reducible rfl)
          try simp only [Act.put, List.setIfInBounds_toArray, List.set_cons_zero, List.set_cons_succ]
          refine take_op (i := 4) (v := ?v4) rfl (by kernel_rfl) (by kernel_rfl) (by kernel_rfl) (fun _ _ _ h => h) rfl hHeld ?y4 ?r4
          case y4 => (intro wz hz; go_simp; first | done | with_reducible rfl)
          try simp only [Act.put, List.setIfInBounds_toArray, List.set_cons_zero, List.set_cons_succ]
          refine take_op (i := 6) (v := ?v6) rfl (by kernel_rfl) (by kernel_rfl) (by kernel_rfl) (fun _ _ _ h => h) rfl hHeld ?y6 ?r6
          case y6 => (intro wz hz; go_simp; first | done | with_reducible rfl)
          try simp only [Act.put, List.setIfInBounds_toArray, List.set_cons_zero, List.set_cons_succ]
          refine take_op (i := 8) (v := ?v8) rfl (by kernel_rfl) (by kernel_rfl) (by kernel_rfl) (fun _ _ _ h => h) rfl hHeld ?y8 ?r8
          case y8 => (intro wz hz; go_simp; first | done | with_reducible rfl)
          try simp only [Act.put, List.setIfInBounds_toArray, List.set_cons_zero, List.set_cons_succ]
          refine take_op (i := 9) (v := ?v9) rfl (by kernel_rfl) (by kernel_rfl) (by kernel_rfl) (fun _ _ _ h => h) rfl hHeld ?y9 ?r9
          case y9 => (intro wz hz; go_simp; first | done | with_reducible rfl)
          try simp only [Act.put, List.setIfInBounds_toArray, List.set_cons_zero, List.set_cons_succ]
          refine take_op (i := 10) (v := ?v10) rfl (by kernel_rfl) (by kernel_rfl) (by kernel_rfl) (fun _ _ _ h => h) rfl hHeld ?y10 ?r10
          case y10 => (intro wz hz; go_simp; first | done | with_reducible rfl)
          try simp only [Act.put, List.setIfInBounds_toArray, List.set_cons_zero, List.set_cons_succ]
          refine take_op (i := 11) (v := ?v11) rfl (by kernel_rfl) (by kernel_rfl) (by kernel_rfl) (fun _ _ _ h => h) rfl hHeld ?y11 ?r11
          case y11 => (intro wz hz; go_simp; first | done | with_reducible rfl)
          try simp only [Act.put, List.setIfInBounds_toArray, List.set_cons_zero, List.set_cons_succ]
          refine take_op (i := 14) (v := ?v14) rfl (by kernel_rfl) (by kernel_rfl) (by kernel_rfl) (fun _ _ _ h => h) rfl hHeld ?y14 ?r14
          case y14 => (intro wz hz; go_simp; first | done | with_reducible rfl)
          try simp only [Act.put, List.setIfInBounds_toArray, List.set_cons_zero, List.set_cons_succ]
          refine take_two (i := 5) (j := 12) (u := ?vu) (v := ?vv) rfl rfl (by kernel_rfl) rfl rfl trivial ?yu ?yv ?ru ?rv
          case yu => (go_simp; first | done | with_reducible rfl)
          case yv => (go_simp; first | done | with_reducible rfl)
          case ru =>
            try simp only [Act.put, List.setIfInBounds_toArray, List.set_cons_zero, List.set_cons_succ]
            refine take_op (i := 7) (v := ?va7) rfl (by kernel_rfl) (by kernel_rfl) (by kernel_rfl) (fun _ _ _ h => h) rfl hHeld ?ya7 ?ra7
            case ya7 => (intro wz hz; go_simp; first | done | with_reducible rfl)
            try simp only [Act.put, List.setIfInBounds_toArray, List.set_cons_zero, List.set_cons_succ]
            refine take_run (i := 12) (v := ?va12) (w' := wy) rfl (by kernel_rfl) rfl ?ya12 trivial ?ra12
            case ya12 => (go_simp; first | done | with_reducible rfl)
            try simp only [Act.put, List.setIfInBounds_toArray, List.set_cons_zero, List.set_cons_succ]
            refine take_op (i := 13) (v := ?va13) rfl (by kernel_rfl) (by kernel_rfl) (by kernel_rfl) (fun _ _ _ h => h) rfl hHeld ?ya13 ?ra13
            case ya13 => (intro wz hz; go_simp; first | done | with_reducible rfl)
            try simp only [Act.put, List.setIfInBounds_toArray, List.set_cons_zero, List.set_cons_succ]
            refine take_op (i := 15) (v := ?va15) rfl (by kernel_rfl) (by kernel_rfl) (by kernel_rfl) (fun _ _ _ h => h) rfl hHeld ?ya15 ?ra15
            case ya15 => (intro wz hz; go_simp; first | done | with_reducible rfl)
            try simp only [Act.put, List.setIfInBounds_toArray, List.set_cons_zero, List.set_cons_succ]
            refine take_one (i := 16) rfl (by kernel_rfl) rfl (fun K hK => ?_)
            go_simp
            refine hK.out _ _ trivial (fun hHeld => ?_)
            clear hK K
            try simp only [Act.put, List.setIfInBounds_toArray, List.set_cons_zero, List.set_cons_succ]
            rw [HX.out]
            refine take_one (i := 17) rfl (by kernel_rfl) rfl (fun K hK => ?_)
            refine wp_append_run _ _ _ rfl rfl rfl hr ?_
            refine hK.out _ _ trivial (fun hHeld => ?_)
            clear hK K hr d2' d3'
            try simp only [Act.put, List.setIfInBounds_toArray, List.set_cons_zero, List.set_cons_succ]
            refine take_op (i := 18) (v := ?va18) rfl (by kernel_rfl) (by kernel_rfl) (by kernel_rfl) (fun _ _ _ h => h) rfl hHeld ?ya18 ?ra18
            case ya18 => (intro wz hz; go_simp; first | done | with_reducible rfl)
            try simp only [Act.put, List.setIfInBounds_toArray, List.set_cons_zero, List.set_cons_succ]
            refine wpAnyH_done (by kernel_rfl) ?_ _
            refine NoPanic.normal ?_
            clear hHeld
            go_wp2
            go_light
            exact ⟨⟨k + 1, by omega, by omega, by go_num, by rw [wTo, if_neg (by omega), List.map_append]; exact HO.out, HB.out⟩, by simp [intOf]; omega⟩
          case rv =>
            try simp only [Act.put, List.setIfInBounds_toArray, List.set_cons_zero, List.set_cons_succ]
            refine take_run (i := 5) (v := ?vb5) (w' := wy) rfl (by kernel_rfl) rfl ?yb5 trivial ?rb5
            case yb5 => (go_simp; first | done | with_reducible rfl)
            try simp only [Act.put, List.setIfInBounds_toArray, List.set_cons_zero, List.set_cons_succ]
            refine take_op (i := 7) (v := ?vb7) rfl (by kernel_rfl) (by kernel_rfl) (by kernel_rfl) (fun _ _ _ h => h) rfl hHeld ?yb7 ?rb7
            case yb7 => (intro wz hz; go_simp; first | done | with_reducible rfl)
            try simp only [Act.put, List.setIfInBounds_toArray, List.set_cons_zero, List.set_cons_succ]
            refine take_op (i := 13) (v := ?vb13) rfl (by kernel_rfl) (by kernel_rfl) (by kernel_rfl) (fun _ _ _ h => h) rfl hHeld ?yb13 ?rb13
            case yb13 => (intro wz hz; go_simp; first | done | with_reducible rfl)
            try simp only [Act.put, List.setIfInBounds_toArray, List.set_cons_zero, List.set_cons_succ]
            refine take_op (i := 15) (v := ?vb15) rfl (by kernel_rfl) (by kernel_rfl) (by kernel_rfl) (fun _ _ _ h => h) rfl hHeld ?yb15 ?rb15
            case yb15 => (intro wz hz; go_simp; first | done | with_reducible rfl)
            try simp only [Act.put, List.setIfInBounds_toArray, List.set_cons_zero, List.set_cons_succ]
            refine take_one (i := 16) rfl (by kernel_rfl) rfl (fun K hK => ?_)
            go_simp
            refine hK.out _ _ trivial (fun hHeld => ?_)
            clear hK K
            try simp only [Act.put, List.setIfInBounds_toArray, List.set_cons_zero, List.set_cons_succ]
            rw [HX.out]
            refine take_one (i := 17) rfl (by kernel_rfl) rfl (fun K hK => ?_)
            refine wp_append_run _ _ _ rfl rfl rfl hr ?_
            refine hK.out _ _ trivial (fun hHeld => ?_)
            clear hK K hr d2' d3'
            try simp only [Act.put, List.setIfInBounds_toArray, List.set_cons_zero, List.set_cons_succ]
            refine take_op (i := 18) (v := ?vb18) rfl (by kernel_rfl) (by kernel_rfl) (by kernel_rfl) (fun _ _ _ h => h) rfl hHeld ?yb18 ?rb18
            case yb18 => (intro wz hz; go_simp; first | done | with_reducible rfl)
            try simp only [Act.put, List.setIfInBounds_toArray, List.set_cons_zero, List.set_cons_succ]
            refine wpAnyH_done (by kernel_rfl) ?_ _
            refine NoPanic.normal ?_
            clear hHeld
            go_wp2
            go_light
            exact ⟨⟨k + 1, by omega, by omega, by go_num, by rw [wTo, if_neg (by omega), List.map_append]; exact HO.out, HB.out⟩, by simp [intOf]; omega⟩
        · obtain rfl : k = 64 := by omega
          clear hcell hfz
          go_wp2
          go_ret
          exact ⟨_, rfl, ho, hb⟩
end Go.Proofs.YtmfgfcknhjblgaaDoor

/- The document's Ch and Maj are the program's. Plain mathematics. -/
namespace Go.Proofs.YtmfgfcknhjblgaaDoor
set_option linter.unusedSimpArgs false

def bv (x : Int) : BitVec 32 := BitVec.ofInt 32 x
theorem bits_bv_and (x y : Int) : bits .and .u32 x y = ((bv x &&& bv y).toNat : Int) := by
  show IntKind.u32.wrap ((BitVec.ofInt 32 x &&& BitVec.ofInt 32 y).toNat : Int) = _
  rw [IntKind.wrap_u32']
  have := (BitVec.ofInt 32 x &&& BitVec.ofInt 32 y).isLt
  unfold bv; omega
theorem bits_bv_or (x y : Int) : bits .or .u32 x y = ((bv x ||| bv y).toNat : Int) := by
  show IntKind.u32.wrap ((BitVec.ofInt 32 x ||| BitVec.ofInt 32 y).toNat : Int) = _
  rw [IntKind.wrap_u32']
  have := (BitVec.ofInt 32 x ||| BitVec.ofInt 32 y).isLt
  unfold bv; omega
theorem bits_bv_xor (x y : Int) : bits .xor .u32 x y = ((bv x ^^^ bv y).toNat : Int) := by
  show IntKind.u32.wrap ((BitVec.ofInt 32 x ^^^ BitVec.ofInt 32 y).toNat : Int) = _
  rw [IntKind.wrap_u32']
  have := (BitVec.ofInt 32 x ^^^ BitVec.ofInt 32 y).isLt
  unfold bv; omega
theorem bv_nat (a : BitVec 32) : bv (a.toNat : Int) = a := by unfold bv; simp
/-- e & f | (not e) & g. -/
theorem ch_same (e f g : Int) : bits .or .u32 (bits .and .u32 e f) (bits .and .u32 (bits .xor .u32 4294967295 e) g) = bits .xor .u32 (bits .and .u32 e f) (bits .and .u32 (notI e) g) := by
  have hn : notI e = bits .xor .u32 4294967295 e := rfl
  rw [hn]
  simp only [bits_bv_and, bits_bv_or, bits_bv_xor, bv_nat]
  congr 2
  have h1 : bv 4294967295 = BitVec.allOnes 32 := by decide
  rw [h1]
  generalize bv e = a
  generalize bv f = b
  generalize bv g = c
  apply BitVec.eq_of_getLsbD_eq
  intro i hi
  simp only [BitVec.getLsbD_or, BitVec.getLsbD_and, BitVec.getLsbD_xor, BitVec.getLsbD_allOnes, hi, decide_true]
  cases a.getLsbD i <;> cases b.getLsbD i <;> cases c.getLsbD i <;> rfl
/-- a & b | a & c | b & c. -/
theorem maj_same (x y z : Int) : bits .or .u32 (bits .or .u32 (bits .and .u32 x y) (bits .and .u32 x z)) (bits .and .u32 y z) = bits .xor .u32 (bits .xor .u32 (bits .and .u32 x y) (bits .and .u32 x z)) (bits .and .u32 y z) := by
  simp only [bits_bv_and, bits_bv_or, bits_bv_xor, bv_nat]
  congr 2
  generalize bv x = a
  generalize bv y = b
  generalize bv z = c
  apply BitVec.eq_of_getLsbD_eq
  intro i hi
  simp only [BitVec.getLsbD_or, BitVec.getLsbD_and, BitVec.getLsbD_xor]
  cases a.getLsbD i <;> cases b.getLsbD i <;> cases c.getLsbD i <;> rfl
/-- the document's round is the program's. -/
theorem rndT_doc (s : S8) (k w : Int) : ((((s.h + bits .xor .u32 (bits .xor .u32 (rotI s.e 6) (rotI s.e 11)) (rotI s.e 25)) % 4294967296 + bits .or .u32 (bits .and .u32 s.e s.f) (bits .and .u32 (bits .xor .u32 4294967295 s.e) s.g)) % 4294967296 + k) % 4294967296 + w) % 4294967296 = rndT s k w := by
  rw [ch_same, rndT]
  omega
theorem rndU_doc (s : S8) : (bits .xor .u32 (bits .xor .u32 (rotI s.a 2) (rotI s.a 13)) (rotI s.a 22) + bits .or .u32 (bits .or .u32 (bits .and .u32 s.a s.b) (bits .and .u32 s.a s.c)) (bits .and .u32 s.b s.c)) % 4294967296 = rndU s := by
  rw [maj_same, rndU]
end Go.Proofs.YtmfgfcknhjblgaaDoor

/- The document's Block. -/
namespace Go.Proofs.YtmfgfcknhjblgaaDoor
set_option linter.unusedSimpArgs false
set_option linter.unusedVariables false
open Go.RowKit Go.Deep

/-- eight words as values. -/
def s8L (s : S8) : List Value := [.int .u32 s.a, .int .u32 s.b, .int .u32 s.c, .int .u32 s.d, .int .u32 s.e, .int .u32 s.f, .int .u32 s.g, .int .u32 s.h]
def okW (x : Int) : Prop := 0 ≤ x ∧ x < 4294967296
def okS (s : S8) : Prop := okW s.a ∧ okW s.b ∧ okW s.c ∧ okW s.d ∧ okW s.e ∧ okW s.f ∧ okW s.g ∧ okW s.h
theorem okS_rnd (s : S8) (k w : Int) (h : okS s) : okS (rnd s k w) := by
  obtain ⟨h1, h2, h3, h4, h5, h6, h7, h8⟩ := h
  exact ⟨by unfold okW rnd; simp only; omega, h1, h2, h3, by unfold okW rnd; simp only; omega, h5, h6, h7⟩
theorem hi32w : (Tryd.prog.info? 38).map (fun i => (i.zero, i.size, i.bytes)) = some (some (.int .u32 0), 1, 4) := by kernel_rfl
/-- append(v, u...), v of the call's own, u words somewhere. -/
theorem words_append_run (w : World) (B : Nat) (v : Value) (xs : List Value) (hv : owns w B 38 v xs) (sb so m c : Nat) (news : List Value) (hl : news.length = m) (hc : ∀ (j : Nat) (u : Value), news[j]? = some u → w.cell? ⟨sb, so + j, none⟩ = some u) (h1 : ∀ u ∈ news, u.oneCell' = true) (hm : 0 < m) (hs : xs.length + m ≤ 1000) (hB : B ≤ w.heap.size) :
    ∃ v' w', (Builtin.append_ #[81, 81] 81 #[v, .slice (some ⟨sb, so, none⟩) m c]).run Tryd.prog w = .ok v' w' ∧ owns w' B 38 v' (xs ++ news) ∧ w.grownBy w' v.ownBlock ∧ (v'.ownBlock = v.ownBlock ∨ v'.ownBlock = some w.heap.size) := by
  obtain ⟨g, cap, w', hr, ho, hg, hat, hlt⟩ := run_append (P := Tryd.prog) w 81 81 B 38 (.int .u32 0) 4 Tryd.underlying81 hi32w rfl v xs hv sb so m c news hl hc h1 hm (by unfold maxLen; omega) (by omega) hB
  refine ⟨_, w', hr, ho, hg, ?_⟩
  rcases hat with h | h
  · exact Or.inl h.symm
  · exact Or.inr (by rw [h]; rfl)
theorem run_slice_to7 (g cg : Nat) (h : 8 ≤ cg) (w : World) : (Instr.slice 81 (.slice (some ⟨g, 0, none⟩) 8 cg) none (some (.int .i64 7)) none).run Tryd.prog w = .ok (.slice (some ⟨g, 0, none⟩) 7 cg) w := by
  cases hq : Tryd.prog.info? 38 with
  | none => have := hi32w; simp [hq] at this
  | some i =>
    have hi : i.size = 1 := by have := hi32w; simp [hq] at this; exact this.2.1
    have h0 : (7 : Int) ≤ (cg : Int) := by omega
    have h1 : 7 ≤ cg := by omega
    simp [Instr.slice, Instr.sliceBounds, Instr.sliceBound, asIntOf, run_underlying Tryd.underlying81, sizeOf, typeInfo, hq, hi, h0, h1, Addr.add_mid]
theorem owns_row {w : World} {B e g n cap : Nat} {xs : List Value} (h : owns w B e (.slice (some ⟨g, 0, none⟩) n cap) xs) : ∃ F : Nat → Value, w.rowIs g e cap F ∧ (∀ (i : Nat) (u : Value), xs[i]? = some u → F i = u) ∧ n ≤ cap ∧ cap ≤ maxLen ∧ B ≤ g := by
  obtain ⟨hl, h | ⟨g', cap', cur, he, hB, hb, hc, hm, hs, ht⟩⟩ := h
  · cases h.1
  · have he' : g = g' ∧ n = xs.length ∧ cap = cap' := by simpa using he
    obtain ⟨rfl, rfl, rfl⟩ := he'
    refine ⟨fun i => cur.getD i undef, ⟨cur, hb, by omega, fun i hi => ?_⟩, fun i u hu => ?_, hc, hm, hB⟩
    · rw [Array.getElem?_eq_getElem (by omega)]; simp [Array.getD, show i < cur.size by omega]
    · rw [← ht, List.getElem?_take] at hu
      split at hu
      · rw [Array.getElem?_toList] at hu; simp [Array.getD_eq_getD_getElem?, hu]
      · cases hu
theorem owns_of_row {w : World} {B e g n cap : Nat} {F : Nat → Value} (h : w.rowIs g e cap F) (hn : n ≤ cap) (hm : cap ≤ maxLen) (hB : B ≤ g) : owns w B e (.slice (some ⟨g, 0, none⟩) n cap) ((List.range n).map F) := by
  obtain ⟨cur, hb, hs, hc⟩ := h
  refine ⟨by simp, Or.inr ⟨g, cap, cur, by simp, hB, hb, by simpa using hn, hm, by omega, ?_⟩⟩
  apply List.ext_getElem?
  intro i
  rw [List.getElem?_take]
  simp only [List.length_map, List.length_range, Nat.mul_one]
  by_cases hi : i < n
  · rw [if_pos hi, Array.getElem?_toList, hc i (by omega), List.getElem?_map, List.getElem?_range hi]; rfl
  · rw [if_neg hi, List.getElem?_eq_none (by simp; omega)]
/-- the eight words behind k rounds, and what is read besides. -/
def blkAt (w w3 wr : World) (g2 gk : Nat) (xv : Value) (f : Nat → Int) (s0 : S8) (k : Nat) : Prop :=
  owns wr w.heap.size 38 xv (s8L (rndTo (wAt f 64) s0 k)) ∧ (∀ j, xv.ownBlock = some j → j ≠ g2 ∧ j ≠ gk) ∧ (∀ i, i < 64 → wr.cell? ⟨g2, i, none⟩ = some (.int .u32 (wAt f 64 i))) ∧ (∀ i, i < 64 → wr.cell? ⟨gk, i, none⟩ = some (.int .u32 (kAt i))) ∧ Below w.heap.size w wr ∧ w3.heap.size ≤ wr.heap.size
theorem exec_bs0 {P : Program} {o : Oper} {ev : Operand → Value} {w w' : World} {v : Value} (t : TypeId) (n : Nat) (ho : o.op = .buildSlice t n #[])
    (hr : (Instr.buildSlice t n #[]).run P w = .ok v w') : (execOp ev o).run P w = .ok (.value v) w' := by
  unfold execOp
  simp only [ho, List.map_toArray, List.map_cons, List.map_nil, Sem.run_bind, hr, Result.andThen_ok, Sem.run_pure]
theorem okS_to (wd : Nat → Int) (s : S8) (h : okS s) : ∀ k, okS (rndTo wd s k)
  | 0 => h
  | k + 1 => okS_rnd _ _ _ (okS_to wd s h k)
set_option maxHeartbeats 4000000 in
set_option maxRecDepth 100000 in
theorem block_any (s0 : S8) (h0 : okS s0) (f : Nat → Int) (hf : ∀ i, 0 ≤ f i ∧ f i ≤ 255) (ob oo oc sb so cap : Nat) (w : World) (hob : ob < w.heap.size) (ho : ∀ (j : Nat) (u : Value), (s8L s0)[j]? = some u → w.cell? ⟨ob, oo + j, none⟩ = some u) (hsb : sb < w.heap.size) (hs : ∀ i, i < 64 → w.cell? ⟨sb, so + i, none⟩ = some (.int .u8 (f i))) :
    Calls Tryd.prog 41 #[.slice (some ⟨ob, oo, none⟩) 8 oc, .slice (some ⟨sb, so, none⟩) 64 cap] w fun e w' => ∃ v, e = .returned v ∧ owns w' w.heap.size 38 v ((List.range 8).map fun i => .int .u32 ((s0.at i + (rndTo (wAt f 64) s0 64).at i) % 4294967296)) ∧ Below w.heap.size w w' := by
  have hO : owns (w.alloc (.cells #[] 38)) w.heap.size 38 (.slice (some ⟨w.heap.size, 0, none⟩) 0 0) [] :=
    ⟨rfl, Or.inr ⟨w.heap.size, 0, #[], rfl, Nat.le_refl _, blk_alloc_new _ _, Nat.le_refl _, by unfold maxLen; omega, rfl, rfl⟩⟩
  have b0 : Below w.heap.size w (w.alloc (.cells #[] 38)) := (Below.refl _ _).alloc (Nat.le_refl _) _
  obtain ⟨v1, w1, r1, o1, g1, a1⟩ := words_append_run _ w.heap.size _ [] hO ob oo 8 oc (s8L s0) rfl (fun j u hu => (b0.cell (p := ⟨ob, oo + j, none⟩) hob).trans (ho j u hu)) (fun u hu => by
    simp only [s8L, List.mem_cons, List.not_mem_nil, or_false] at hu
    rcases hu with rfl | rfl | rfl | rfl | rfl | rfl | rfl | rfl <;> rfl) (by omega) (by simp) (by simp)
  have b1 : Below w.heap.size w w1 := b0.trans ⟨g1.os, g1.tape, g1.output, g1.size, fun k hk => g1.block k (by simp; omega) (fun e => by have := (hO.block k e.symm).1; omega)⟩
  obtain ⟨gx, cx, hv1, hgx, hgx1, _, _, _, _⟩ := o1.shape (by simp [s8L])
  have SC := sched_any f hf sb so cap w1 (Nat.lt_of_lt_of_le hsb b1.size) (fun i hi => (b1.cell (p := ⟨sb, so + i, none⟩) hsb).trans (hs i hi))
  subst hv1
  have O1 : Hid (owns w1 w.heap.size 38 (.slice (some ⟨gx, 0, none⟩) (([] : List Value) ++ s8L s0).length cx) ([] ++ s8L s0)) := (show owns w1 w.heap.size 38 (.slice (some ⟨gx, 0, none⟩) (([] : List Value) ++ s8L s0).length cx) ([] ++ s8L s0) from o1)
  have B1 : Hid (Below w.heap.size w w1) := (show Below w.heap.size w w1 from b1)
  have R1 : Hid ((Builtin.append_ #[81, 81] 81 #[.slice (some ⟨w.heap.size, 0, none⟩) 0 0, .slice (some ⟨ob, oo, none⟩) 8 oc]).run Tryd.prog (w.alloc (.cells #[] 38)) = .ok (.slice (some ⟨gx, 0, none⟩) (([] : List Value) ++ s8L s0).length cx) w1) := (show (Builtin.append_ #[81, 81] 81 #[.slice (some ⟨w.heap.size, 0, none⟩) 0 0, .slice (some ⟨ob, oo, none⟩) 8 oc]).run Tryd.prog (w.alloc (.cells #[] 38)) = .ok (.slice (some ⟨gx, 0, none⟩) (([] : List Value) ++ s8L s0).length cx) w1 from r1)
  clear hO b0 r1 o1 g1 a1 b1
  go_enter Tryd.func41, Tryd.ntmps41
  go_wp2_with (first | (at_builtin; refine wpList_append_run rfl (.tmp 15) (.tmp 16) _ rfl rfl rfl R1.out ?_; try simp only [Act.put, List.setIfInBounds_toArray, List.set_cons_zero, List.set_cons_succ]; clear R1))
  refine SC.mono ?_
  rintro e w2 ⟨v2, rfl, o2, b2⟩
  obtain ⟨g2, c2, rfl, hg2, hg2l, _, _, hc2, _⟩ := o2.shape (by simp [wTo_length])
  have KO := constants_any w2
  have l8 : (([] : List Value) ++ s8L s0).length = 8 := rfl
  have l64 : (List.map (Value.int IntKind.u32) (wTo f 64)).length = 64 := by simp [wTo_length]
  simp only [l8, l64]
  clear SC
  go_wp2_with fail
  refine KO.mono ?_
  rintro e w3 ⟨rfl, hw3⟩
  have rk : w3.rowIs w2.heap.size 38 64 (fun i => .int .u32 (kAt i)) := by rw [hw3]; exact rowIs_box w2 _ _ _
  have b3 : Below w2.heap.size w2 w3 := by rw [hw3]; exact (Below.refl _ _).alloc (Nat.le_refl _) _
  have BL : Hid (blkAt w w3 w3 g2 w2.heap.size (.slice (some ⟨gx, 0, none⟩) 8 cx) f s0 0) := (show blkAt w w3 w3 g2 w2.heap.size (.slice (some ⟨gx, 0, none⟩) 8 cx) f s0 0 from
    ⟨(owns.below O1.out b2 (Nat.le_refl _)).below b3 (Nat.le_refl _), fun j hj => by
      obtain rfl : gx = j := by simpa [Value.ownBlock] using hj
      exact ⟨by omega, by omega⟩, fun i hi => (b3.cell (p := ⟨g2, i, none⟩) hg2l).trans (sched_cell f 64 i hi hc2), fun i hi => rk.cell hi, (B1.out.trans (b2.mono B1.out.size)).trans (b3.mono (Nat.le_trans B1.out.size b2.size)), Nat.le_refl _⟩)
  have S3 : Hid (w3.heap.size = w2.heap.size + 1) := (show w3.heap.size = w2.heap.size + 1 by rw [hw3]; simp)
  clear KO rk b3 hw3 o2 hc2 b2 l8 l64
  go_wp2
  go_loopw [5, 8] (fun xv i wr => ∃ k : Nat, k ≤ 64 ∧ i = .int .i64 k ∧ blkAt w w3 wr g2 w2.heap.size xv f s0 k) (fun _ i _ => 64 - (intOf i).toNat)
  case atStart => exact ⟨0, by omega, rfl, BL.out⟩
  case round =>
    obtain ⟨k, hk, rfl, hox, hne, hcw, hck, hbw, hsz⟩ := hrel
    clear BL
    have s3 := S3.out
    by_cases hlt : k < 64
    · have p0 : (0 : Int) ≤ (k : Int) := by omega
      have p1 : (k : Int) < 64 := by omega
      obtain ⟨sx, hsx⟩ : ∃ sx, sx = rndTo (wAt f 64) s0 k := ⟨_, rfl⟩
      have hok : okS sx := hsx ▸ okS_to _ _ h0 k
      rw [← hsx] at hox
      have HSX : Hid (sx = rndTo (wAt f 64) s0 k) := (show sx = rndTo (wAt f 64) s0 k from hsx)
      clear hsx
      obtain ⟨g, cg, rfl, hgB, hgl, hcg, _, hcx, hfr⟩ := hox.shape (by simp [s8L])
      have CX : Hid (∀ wz, Below wr.heap.size wr wz → ∀ (i : Nat) (u : Value), (s8L sx)[i]? = some u → wz.cell? ⟨g, i, none⟩ = some u) := (show ∀ wz, Below wr.heap.size wr wz → ∀ (i : Nat) (u : Value), (s8L sx)[i]? = some u → wz.cell? ⟨g, i, none⟩ = some u from fun wz hz i u hu => (hz.cell (p := ⟨g, i, none⟩) hgl).trans (hcx i u hu))
      have CW : Hid (∀ wz, Below wr.heap.size wr wz → wz.cell? ⟨g2, k, none⟩ = some (.int .u32 (wAt f 64 k))) := (show ∀ wz, Below wr.heap.size wr wz → wz.cell? ⟨g2, k, none⟩ = some (.int .u32 (wAt f 64 k)) from fun wz hz => (hz.cell (p := ⟨g2, k, none⟩) (show g2 < wr.heap.size by omega)).trans (hcw k hlt))
      have CK : Hid (∀ wz, Below wr.heap.size wr wz → wz.cell? ⟨w2.heap.size, k, none⟩ = some (.int .u32 (kAt k))) := (show ∀ wz, Below wr.heap.size wr wz → wz.cell? ⟨w2.heap.size, k, none⟩ = some (.int .u32 (kAt k)) from fun wz hz => (hz.cell (p := ⟨w2.heap.size, k, none⟩) (show w2.heap.size < wr.heap.size by omega)).trans (hck k hlt))
      have l8 : (s8L sx).length = 8 := rfl
      rw [l8]
      have HCW : Hid (∀ i, i < 64 → wr.cell? ⟨g2, i, none⟩ = some (.int .u32 (wAt f 64 i))) := (show ∀ i, i < 64 → wr.cell? ⟨g2, i, none⟩ = some (.int .u32 (wAt f 64 i)) from hcw)
      have HCK : Hid (∀ i, i < 64 → wr.cell? ⟨w2.heap.size, i, none⟩ = some (.int .u32 (kAt i))) := (show ∀ i, i < 64 → wr.cell? ⟨w2.heap.size, i, none⟩ = some (.int .u32 (kAt i)) from hck)
      clear s3 l8 hcx hcw hck
      go_upto_region 6 with fail
      go_cut [5, 8, 9, 10] from 21 to 30 (fun x i a e wx => x = .slice (some ⟨g, 0, none⟩) 8 cg ∧ i = .int .i64 (k : Int) ∧ a = .int .u32 sx.a ∧ e = .int .u32 sx.e ∧ Below wr.heap.size wr wx)
      case first =>
        refine wp_region_noPanic ?_
        refine wp_region_held_drew (S := fun w' => Below wr.heap.size wr w') (by kernel_rfl) ((Below.refl _ _).drew) (fun hHeld => ?_)
        refine take_op (i := 0) (v := ?va0) rfl (by kernel_rfl) (by kernel_rfl) (by kernel_rfl) (fun _ _ _ h => h) rfl hHeld ?ya0 ?ra0
        case ya0 => (intro wz hz; go_simp; first | done | with_reducible rfl)
        try simp only [Act.put, List.setIfInBounds_toArray, List.set_cons_zero, List.set_cons_succ]
        refine take_op (i := 1) (v := ?va1) rfl (by kernel_rfl) (by kernel_rfl) (by kernel_rfl) (fun _ _ _ h => h) rfl hHeld ?ya1 ?ra1
        case ya1 => (intro wz hz; go_simp; first | done | with_reducible rfl)
        try simp only [Act.put, List.setIfInBounds_toArray, List.set_cons_zero, List.set_cons_succ]
        refine take_op (i := 2) (v := ?va2) rfl (by kernel_rfl) (by kernel_rfl) (by kernel_rfl) (fun _ _ _ h => h) rfl hHeld ?ya2 ?ra2
        case ya2 => (intro wz hz; have hcz := CX.out wz hz 0 _ rfl; go_simp; first | done | with_reducible rfl)
        try simp only [Act.put, List.setIfInBounds_toArray, List.set_cons_zero, List.set_cons_succ]
        refine take_op (i := 3) (v := ?va3) rfl (by kernel_rfl) (by kernel_rfl) (by kernel_rfl) (fun _ _ _ h => h) rfl hHeld ?ya3 ?ra3
        case ya3 => (intro wz hz; go_simp; first | done | with_reducible rfl)
        try simp only [Act.put, List.setIfInBounds_toArray, List.set_cons_zero, List.set_cons_succ]
        refine take_op (i := 4) (v := ?va4) rfl (by kernel_rfl) (by kernel_rfl) (by kernel_rfl) (fun _ _ _ h => h) rfl hHeld ?ya4 ?ra4
        case ya4 => (intro wz hz; go_simp; first | done | with_reducible rfl)
        try simp only [Act.put, List.setIfInBounds_toArray, List.set_cons_zero, List.set_cons_succ]
        refine take_op (i := 5) (v := ?va5) rfl (by kernel_rfl) (by kernel_rfl) (by kernel_rfl) (fun _ _ _ h => h) rfl hHeld ?ya5 ?ra5
        case ya5 => (intro wz hz; have hcz := CX.out wz hz 4 _ rfl; go_simp; first | done | with_reducible rfl)
        try simp only [Act.put, List.setIfInBounds_toArray, List.set_cons_zero, List.set_cons_succ]
        refine take_op (i := 6) (v := ?va6) rfl (by kernel_rfl) (by kernel_rfl) (by kernel_rfl) (fun _ _ _ h => h) rfl hHeld ?ya6 ?ra6
        case ya6 => (intro wz hz; go_simp; first | done | with_reducible rfl)
        try simp only [Act.put, List.setIfInBounds_toArray, List.set_cons_zero, List.set_cons_succ]
        refine take_op (i := 7) (v := ?va7) rfl (by kernel_rfl) (by kernel_rfl) (by kernel_rfl) (fun _ _ _ h => h) rfl hHeld ?ya7 ?ra7
        case ya7 => (intro wz hz; go_simp; first | done | with_reducible rfl)
        try simp only [Act.put, List.setIfInBounds_toArray, List.set_cons_zero, List.set_cons_succ]
        refine wpAnyH_done (by kernel_rfl) ?_ _
        refine NoPanic.normal ?_
        have HB2 : Hid (Below wr.heap.size wr _) := hHeld
        clear hHeld
        go_wp2_with fail
        go_meet
        case rel => exact ⟨rfl, rfl, rfl, rfl, HB2.out⟩
      case rest =>
        obtain ⟨rfl, rfl, rfl, rfl, hb6⟩ := hcut
        have HB6 : Hid (Below wr.heap.size wr wc) := (show Below wr.heap.size wr wc from hb6)
        clear hb6
        have oke : okW sx.e := hok.2.2.2.2.1
        have oka : okW sx.a := hok.1
        unfold okW at oke oka
        go_upto_region 7 with fail
        go_cut [5, 8, 9, 10, 11] from 21 to 64 (fun x i a e t wx => x = .slice (some ⟨g, 0, none⟩) 8 cg ∧ i = .int .i64 (k : Int) ∧ a = .int .u32 sx.a ∧ e = .int .u32 sx.e ∧ t = .int .u32 (rndT sx (kAt k) (wAt f 64 k)) ∧ Below wr.heap.size wr wx)
        case first =>
          refine wp_region_noPanic ?_
          refine wp_region_held_drew (S := fun w' => Below wr.heap.size wr w') (by kernel_rfl) (HB6.out.drew) (fun hHeld => ?_)
          refine take_op (i := 0) (v := ?vb0) rfl (by kernel_rfl) (by kernel_rfl) (by kernel_rfl) (fun _ _ _ h => h) rfl hHeld ?yb0 ?rb0
          case yb0 => (intro wz hz; go_simp; first | done | with_reducible rfl)
          try simp only [Act.put, List.setIfInBounds_toArray, List.set_cons_zero, List.set_cons_succ]
          refine take_op (i := 1) (v := ?vb1) rfl (by kernel_rfl) (by kernel_rfl) (by kernel_rfl) (fun _ _ _ h => h) rfl hHeld ?yb1 ?rb1
          case yb1 => (intro wz hz; go_simp; first | done | with_reducible rfl)
          try simp only [Act.put, List.setIfInBounds_toArray, List.set_cons_zero, List.set_cons_succ]
          refine take_op (i := 2) (v := ?vb2) rfl (by kernel_rfl) (by kernel_rfl) (by kernel_rfl) (fun _ _ _ h => h) rfl hHeld ?yb2 ?rb2
          case yb2 => (intro wz hz; have hcz := CX.out wz hz 7 _ rfl; go_simp; first | done | with_reducible rfl)
          try simp only [Act.put, List.setIfInBounds_toArray, List.set_cons_zero, List.set_cons_succ]
          refine take_op (i := 3) (v := ?vb3) rfl (by kernel_rfl) (by kernel_rfl) (by kernel_rfl) (fun _ _ _ h => h) rfl hHeld ?yb3 ?rb3
          case yb3 => (intro wz hz; go_simp; first | done | with_reducible rfl)
          try simp only [Act.put, List.setIfInBounds_toArray, List.set_cons_zero, List.set_cons_succ]
          refine take_op (i := 5) (v := ?vb5) rfl (by kernel_rfl) (by kernel_rfl) (by kernel_rfl) (fun _ _ _ h => h) rfl hHeld ?yb5 ?rb5
          case yb5 => (intro wz hz; go_simp; first | done | with_reducible rfl)
          try simp only [Act.put, List.setIfInBounds_toArray, List.set_cons_zero, List.set_cons_succ]
          refine take_op (i := 7) (v := ?vb7) rfl (by kernel_rfl) (by kernel_rfl) (by kernel_rfl) (fun _ _ _ h => h) rfl hHeld ?yb7 ?rb7
          case yb7 => (intro wz hz; go_simp; first | done | with_reducible rfl)
          try simp only [Act.put, List.setIfInBounds_toArray, List.set_cons_zero, List.set_cons_succ]
          refine take_op (i := 11) (v := ?vb11) rfl (by kernel_rfl) (by kernel_rfl) (by kernel_rfl) (fun _ _ _ h => h) rfl hHeld ?yb11 ?rb11
          case yb11 => (intro wz hz; go_simp; first | done | with_reducible rfl)
          try simp only [Act.put, List.setIfInBounds_toArray, List.set_cons_zero, List.set_cons_succ]
          refine take_op (i := 12) (v := ?vb12) rfl (by kernel_rfl) (by kernel_rfl) (by kernel_rfl) (fun _ _ _ h => h) rfl hHeld ?yb12 ?rb12
          case yb12 => (intro wz hz; go_simp; first | done | with_reducible rfl)
          try simp only [Act.put, List.setIfInBounds_toArray, List.set_cons_zero, List.set_cons_succ]
          refine take_op (i := 13) (v := ?vb13) rfl (by kernel_rfl) (by kernel_rfl) (by kernel_rfl) (fun _ _ _ h => h) rfl hHeld ?yb13 ?rb13
          case yb13 => (intro wz hz; go_simp; first | done | with_reducible rfl)
          try simp only [Act.put, List.setIfInBounds_toArray, List.set_cons_zero, List.set_cons_succ]
          refine take_op (i := 14) (v := ?vb14) rfl (by kernel_rfl) (by kernel_rfl) (by kernel_rfl) (fun _ _ _ h => h) rfl hHeld ?yb14 ?rb14
          case yb14 => (intro wz hz; have hcz := CX.out wz hz 5 _ rfl; go_simp; first | done | with_reducible rfl)
          try simp only [Act.put, List.setIfInBounds_toArray, List.set_cons_zero, List.set_cons_succ]
          refine take_op (i := 15) (v := ?vb15) rfl (by kernel_rfl) (by kernel_rfl) (by kernel_rfl) (fun _ _ _ h => h) rfl hHeld ?yb15 ?rb15
          case yb15 => (intro wz hz; go_simp; first | done | with_reducible rfl)
          try simp only [Act.put, List.setIfInBounds_toArray, List.set_cons_zero, List.set_cons_succ]
          refine take_op (i := 16) (v := ?vb16) rfl (by kernel_rfl) (by kernel_rfl) (by kernel_rfl) (fun _ _ _ h => h) rfl hHeld ?yb16 ?rb16
          case yb16 => (intro wz hz; go_simp; first | done | with_reducible rfl)
          try simp only [Act.put, List.setIfInBounds_toArray, List.set_cons_zero, List.set_cons_succ]
          refine take_op (i := 17) (v := ?vb17) rfl (by kernel_rfl) (by kernel_rfl) (by kernel_rfl) (fun _ _ _ h => h) rfl hHeld ?yb17 ?rb17
          case yb17 => (intro wz hz; go_simp; first | done | with_reducible rfl)
          try simp only [Act.put, List.setIfInBounds_toArray, List.set_cons_zero, List.set_cons_succ]
          refine take_op (i := 18) (v := ?vb18) rfl (by kernel_rfl) (by kernel_rfl) (by kernel_rfl) (fun _ _ _ h => h) rfl hHeld ?yb18 ?rb18
          case yb18 => (intro wz hz; go_simp; first | done | with_reducible rfl)
          try simp only [Act.put, List.setIfInBounds_toArray, List.set_cons_zero, List.set_cons_succ]
          refine take_op (i := 19) (v := ?vb19) rfl (by kernel_rfl) (by kernel_rfl) (by kernel_rfl) (fun _ _ _ h => h) rfl hHeld ?yb19 ?rb19
          case yb19 => (intro wz hz; go_simp; first | done | with_reducible rfl)
          try simp only [Act.put, List.setIfInBounds_toArray, List.set_cons_zero, List.set_cons_succ]
          refine take_op (i := 20) (v := ?vb20) rfl (by kernel_rfl) (by kernel_rfl) (by kernel_rfl) (fun _ _ _ h => h) rfl hHeld ?yb20 ?rb20
          case yb20 => (intro wz hz; have hcz := CX.out wz hz 6 _ rfl; go_simp; first | done | with_reducible rfl)
          try simp only [Act.put, List.setIfInBounds_toArray, List.set_cons_zero, List.set_cons_succ]
          refine take_op (i := 21) (v := ?vb21) rfl (by kernel_rfl) (by kernel_rfl) (by kernel_rfl) (fun _ _ _ h => h) rfl hHeld ?yb21 ?rb21
          case yb21 => (intro wz hz; go_simp; first | done | with_reducible rfl)
          try simp only [Act.put, List.setIfInBounds_toArray, List.set_cons_zero, List.set_cons_succ]
          refine take_op (i := 22) (v := ?vb22) rfl (by kernel_rfl) (by kernel_rfl) (by kernel_rfl) (fun _ _ _ h => h) rfl hHeld ?yb22 ?rb22
          case yb22 => (intro wz hz; go_simp; first | done | with_reducible rfl)
          try simp only [Act.put, List.setIfInBounds_toArray, List.set_cons_zero, List.set_cons_succ]
          refine take_op (i := 24) (v := ?vb24) rfl (by kernel_rfl) (by kernel_rfl) (by kernel_rfl) (fun _ _ _ h => h) rfl hHeld ?yb24 ?rb24
          case yb24 => (intro wz hz; go_simp; first | done | with_reducible rfl)
          try simp only [Act.put, List.setIfInBounds_toArray, List.set_cons_zero, List.set_cons_succ]
          refine take_op (i := 25) (v := ?vb25) rfl (by kernel_rfl) (by kernel_rfl) (by kernel_rfl) (fun _ _ _ h => h) rfl hHeld ?yb25 ?rb25
          case yb25 => (intro wz hz; go_simp; first | done | with_reducible rfl)
          try simp only [Act.put, List.setIfInBounds_toArray, List.set_cons_zero, List.set_cons_succ]
          refine take_op (i := 26) (v := ?vb26) rfl (by kernel_rfl) (by kernel_rfl) (by kernel_rfl) (fun _ _ _ h => h) rfl hHeld ?yb26 ?rb26
          case yb26 => (intro wz hz; go_simp; first | done | with_reducible rfl)
          try simp only [Act.put, List.setIfInBounds_toArray, List.set_cons_zero, List.set_cons_succ]
          refine take_op (i := 27) (v := ?vb27) rfl (by kernel_rfl) (by kernel_rfl) (by kernel_rfl) (fun _ _ _ h => h) rfl hHeld ?yb27 ?rb27
          case yb27 => (intro wz hz; have hcz := CK.out wz hz; go_simp; first | done | with_reducible rfl)
          try simp only [Act.put, List.setIfInBounds_toArray, List.set_cons_zero, List.set_cons_succ]
          refine take_op (i := 29) (v := ?vb29) rfl (by kernel_rfl) (by kernel_rfl) (by kernel_rfl) (fun _ _ _ h => h) rfl hHeld ?yb29 ?rb29
          case yb29 => (intro wz hz; go_simp; first | done | with_reducible rfl)
          try simp only [Act.put, List.setIfInBounds_toArray, List.set_cons_zero, List.set_cons_succ]
          refine take_op (i := 30) (v := ?vb30) rfl (by kernel_rfl) (by kernel_rfl) (by kernel_rfl) (fun _ _ _ h => h) rfl hHeld ?yb30 ?rb30
          case yb30 => (intro wz hz; go_simp; first | done | with_reducible rfl)
          try simp only [Act.put, List.setIfInBounds_toArray, List.set_cons_zero, List.set_cons_succ]
          refine take_op (i := 31) (v := ?vb31) rfl (by kernel_rfl) (by kernel_rfl) (by kernel_rfl) (fun _ _ _ h => h) rfl hHeld ?yb31 ?rb31
          case yb31 => (intro wz hz; go_simp; first | done | with_reducible rfl)
          try simp only [Act.put, List.setIfInBounds_toArray, List.set_cons_zero, List.set_cons_succ]
          refine take_op (i := 32) (v := ?vb32) rfl (by kernel_rfl) (by kernel_rfl) (by kernel_rfl) (fun _ _ _ h => h) rfl hHeld ?yb32 ?rb32
          case yb32 => (intro wz hz; have hcz := CW.out wz hz; go_simp; first | done | with_reducible rfl)
          try simp only [Act.put, List.setIfInBounds_toArray, List.set_cons_zero, List.set_cons_succ]
          refine take_one (i := 4) rfl (by kernel_rfl) rfl (fun K hK => ?_)
          go_simp
          refine Calls.mono (rturn_any sx.e 6 oke.1 oke.2 (by omega) (by omega) _) ?_
          rintro e w' ⟨rfl, rfl⟩
          simp only [Int.reduceToNat]
          refine hK.out _ _ hHeld.drew (fun hHeld => ?_)
          clear hK K
          try simp only [Act.put, List.setIfInBounds_toArray, List.set_cons_zero, List.set_cons_succ]
          refine take_one (i := 6) rfl (by kernel_rfl) rfl (fun K hK => ?_)
          go_simp
          refine Calls.mono (rturn_any sx.e 11 oke.1 oke.2 (by omega) (by omega) _) ?_
          rintro e w' ⟨rfl, rfl⟩
          simp only [Int.reduceToNat]
          refine hK.out _ _ hHeld.drew (fun hHeld => ?_)
          clear hK K
          try simp only [Act.put, List.setIfInBounds_toArray, List.set_cons_zero, List.set_cons_succ]
          refine take_one (i := 8) rfl (by kernel_rfl) rfl (fun K hK => ?_)
          go_simp
          refine Calls.mono (rturn_any sx.e 25 oke.1 oke.2 (by omega) (by omega) _) ?_
          rintro e w' ⟨rfl, rfl⟩
          simp only [Int.reduceToNat]
          refine hK.out _ _ hHeld.drew (fun hHeld => ?_)
          clear hK K
          try simp only [Act.put, List.setIfInBounds_toArray, List.set_cons_zero, List.set_cons_succ]
          refine take_one (i := 9) rfl (by kernel_rfl) rfl (fun K hK => ?_)
          go_simp
          refine Calls.mono (three_any _ _ _ _) ?_
          rintro e w' ⟨rfl, rfl⟩
          refine hK.out _ _ hHeld (fun hHeld => ?_)
          clear hK K
          try simp only [Act.put, List.setIfInBounds_toArray, List.set_cons_zero, List.set_cons_succ]
          refine take_op (i := 10) (v := ?vb10) rfl (by kernel_rfl) (by kernel_rfl) (by kernel_rfl) (fun _ _ _ h => h) rfl hHeld ?yb10 ?rb10
          case yb10 => (intro wz hz; go_simp; first | done | with_reducible rfl)
          try simp only [Act.put, List.setIfInBounds_toArray, List.set_cons_zero, List.set_cons_succ]
          refine take_op (i := 23) (v := ?vb23) rfl (by kernel_rfl) (by kernel_rfl) (by kernel_rfl) (fun _ _ _ h => h) rfl hHeld ?yb23 ?rb23
          case yb23 => (intro wz hz; go_simp; first | done | with_reducible rfl)
          try simp only [Act.put, List.setIfInBounds_toArray, List.set_cons_zero, List.set_cons_succ]
          refine take_op (i := 28) (v := ?vb28) rfl (by kernel_rfl) (by kernel_rfl) (by kernel_rfl) (fun _ _ _ h => h) rfl hHeld ?yb28 ?rb28
          case yb28 => (intro wz hz; go_simp; first | done | with_reducible rfl)
          try simp only [Act.put, List.setIfInBounds_toArray, List.set_cons_zero, List.set_cons_succ]
          refine take_op (i := 33) (v := ?vb33) rfl (by kernel_rfl) (by kernel_rfl) (by kernel_rfl) (fun _ _ _ h => h) rfl hHeld ?yb33 ?rb33
          case yb33 => (intro wz hz; go_simp; first | done | with_reducible rfl)
          try simp only [Act.put, List.setIfInBounds_toArray, List.set_cons_zero, List.set_cons_succ]
          refine take_op (i := 34) (v := ?vb34) rfl (by kernel_rfl) (by kernel_rfl) (by kernel_rfl) (fun _ _ _ h => h) rfl hHeld ?yb34 ?rb34
          case yb34 => (intro wz hz; go_simp; first | done | with_reducible rfl)
          try simp only [Act.put, List.setIfInBounds_toArray, List.set_cons_zero, List.set_cons_succ]
          refine wpAnyH_done (by kernel_rfl) ?_ _
          refine NoPanic.normal ?_
          have HB7 : Hid (Below wr.heap.size wr _) := hHeld
          clear hHeld
          go_wp2_with fail
          go_meet
          case rel => exact ⟨rfl, rfl, rfl, rfl, congrArg (Value.int IntKind.u32) (rndT_doc sx (kAt k) (wAt f 64 k)), HB7.out⟩
        case rest =>
          obtain ⟨rfl, rfl, rfl, rfl, rfl, hb7⟩ := hcut
          have HB7 : Hid (Below wr.heap.size wr wc) := (show Below wr.heap.size wr wc from hb7)
          clear hb7 HB6
          obtain ⟨tt, htt⟩ : ∃ tt, tt = rndT sx (kAt k) (wAt f 64 k) := ⟨_, rfl⟩
          rw [← htt]
          have HTT : Hid (tt = rndT sx (kAt k) (wAt f 64 k)) := (show tt = rndT sx (kAt k) (wAt f 64 k) from htt)
          clear htt
          go_upto_region 8 with fail
          go_cut [5, 8, 9, 10, 11, 12] from 21 to 83 (fun x i a e t y wx => x = .slice (some ⟨g, 0, none⟩) 8 cg ∧ i = .int .i64 (k : Int) ∧ a = .int .u32 sx.a ∧ e = .int .u32 sx.e ∧ t = .int .u32 tt ∧ y = .int .u32 (bits .or .u32 (bits .or .u32 (bits .and .u32 sx.a sx.b) (bits .and .u32 sx.a sx.c)) (bits .and .u32 sx.b sx.c)) ∧ Below wr.heap.size wr wx)
          case first =>
            refine wp_region_noPanic ?_
            refine wp_region_held_drew (S := fun w' => Below wr.heap.size wr w') (by kernel_rfl) (HB7.out.drew) (fun hHeld => ?_)
            refine take_op (i := 0) (v := ?vc0) rfl (by kernel_rfl) (by kernel_rfl) (by kernel_rfl) (fun _ _ _ h => h) rfl hHeld ?yc0 ?rc0
            case yc0 => (intro wz hz; go_simp; first | done | with_reducible rfl)
            try simp only [Act.put, List.setIfInBounds_toArray, List.set_cons_zero, List.set_cons_succ]
            refine take_op (i := 1) (v := ?vc1) rfl (by kernel_rfl) (by kernel_rfl) (by kernel_rfl) (fun _ _ _ h => h) rfl hHeld ?yc1 ?rc1
            case yc1 => (intro wz hz; go_simp; first | done | with_reducible rfl)
            try simp only [Act.put, List.setIfInBounds_toArray, List.set_cons_zero, List.set_cons_succ]
            refine take_op (i := 2) (v := ?vc2) rfl (by kernel_rfl) (by kernel_rfl) (by kernel_rfl) (fun _ _ _ h => h) rfl hHeld ?yc2 ?rc2
            case yc2 => (intro wz hz; go_simp; first | done | with_reducible rfl)
            try simp only [Act.put, List.setIfInBounds_toArray, List.set_cons_zero, List.set_cons_succ]
            refine take_op (i := 3) (v := ?vc3) rfl (by kernel_rfl) (by kernel_rfl) (by kernel_rfl) (fun _ _ _ h => h) rfl hHeld ?yc3 ?rc3
            case yc3 => (intro wz hz; have hcz := CX.out wz hz 1 _ rfl; go_simp; first | done | with_reducible rfl)
            try simp only [Act.put, List.setIfInBounds_toArray, List.set_cons_zero, List.set_cons_succ]
            refine take_op (i := 4) (v := ?vc4) rfl (by kernel_rfl) (by kernel_rfl) (by kernel_rfl) (fun _ _ _ h => h) rfl hHeld ?yc4 ?rc4
            case yc4 => (intro wz hz; go_simp; first | done | with_reducible rfl)
            try simp only [Act.put, List.setIfInBounds_toArray, List.set_cons_zero, List.set_cons_succ]
            refine take_op (i := 5) (v := ?vc5) rfl (by kernel_rfl) (by kernel_rfl) (by kernel_rfl) (fun _ _ _ h => h) rfl hHeld ?yc5 ?rc5
            case yc5 => (intro wz hz; go_simp; first | done | with_reducible rfl)
            try simp only [Act.put, List.setIfInBounds_toArray, List.set_cons_zero, List.set_cons_succ]
            refine take_op (i := 6) (v := ?vc6) rfl (by kernel_rfl) (by kernel_rfl) (by kernel_rfl) (fun _ _ _ h => h) rfl hHeld ?yc6 ?rc6
            case yc6 => (intro wz hz; go_simp; first | done | with_reducible rfl)
            try simp only [Act.put, List.setIfInBounds_toArray, List.set_cons_zero, List.set_cons_succ]
            refine take_op (i := 7) (v := ?vc7) rfl (by kernel_rfl) (by kernel_rfl) (by kernel_rfl) (fun _ _ _ h => h) rfl hHeld ?yc7 ?rc7
            case yc7 => (intro wz hz; go_simp; first | done | with_reducible rfl)
            try simp only [Act.put, List.setIfInBounds_toArray, List.set_cons_zero, List.set_cons_succ]
            refine take_op (i := 8) (v := ?vc8) rfl (by kernel_rfl) (by kernel_rfl) (by kernel_rfl) (fun _ _ _ h => h) rfl hHeld ?yc8 ?rc8
            case yc8 => (intro wz hz; have hcz := CX.out wz hz 2 _ rfl; go_simp; first | done | with_reducible rfl)
            try simp only [Act.put, List.setIfInBounds_toArray, List.set_cons_zero, List.set_cons_succ]
            refine take_op (i := 9) (v := ?vc9) rfl (by kernel_rfl) (by kernel_rfl) (by kernel_rfl) (fun _ _ _ h => h) rfl hHeld ?yc9 ?rc9
            case yc9 => (intro wz hz; go_simp; first | done | with_reducible rfl)
            try simp only [Act.put, List.setIfInBounds_toArray, List.set_cons_zero, List.set_cons_succ]
            refine take_op (i := 10) (v := ?vc10) rfl (by kernel_rfl) (by kernel_rfl) (by kernel_rfl) (fun _ _ _ h => h) rfl hHeld ?yc10 ?rc10
            case yc10 => (intro wz hz; go_simp; first | done | with_reducible rfl)
            try simp only [Act.put, List.setIfInBounds_toArray, List.set_cons_zero, List.set_cons_succ]
            refine take_op (i := 11) (v := ?vc11) rfl (by kernel_rfl) (by kernel_rfl) (by kernel_rfl) (fun _ _ _ h => h) rfl hHeld ?yc11 ?rc11
            case yc11 => (intro wz hz; go_simp; first | done | with_reducible rfl)
            try simp only [Act.put, List.setIfInBounds_toArray, List.set_cons_zero, List.set_cons_succ]
            refine take_op (i := 12) (v := ?vc12) rfl (by kernel_rfl) (by kernel_rfl) (by kernel_rfl) (fun _ _ _ h => h) rfl hHeld ?yc12 ?rc12
            case yc12 => (intro wz hz; go_simp; first | done | with_reducible rfl)
            try simp only [Act.put, List.setIfInBounds_toArray, List.set_cons_zero, List.set_cons_succ]
            refine take_op (i := 13) (v := ?vc13) rfl (by kernel_rfl) (by kernel_rfl) (by kernel_rfl) (fun _ _ _ h => h) rfl hHeld ?yc13 ?rc13
            case yc13 => (intro wz hz; have hcz := CX.out wz hz 1 _ rfl; go_simp; first | done | with_reducible rfl)
            try simp only [Act.put, List.setIfInBounds_toArray, List.set_cons_zero, List.set_cons_succ]
            refine take_op (i := 14) (v := ?vc14) rfl (by kernel_rfl) (by kernel_rfl) (by kernel_rfl) (fun _ _ _ h => h) rfl hHeld ?yc14 ?rc14
            case yc14 => (intro wz hz; go_simp; first | done | with_reducible rfl)
            try simp only [Act.put, List.setIfInBounds_toArray, List.set_cons_zero, List.set_cons_succ]
            refine take_op (i := 15) (v := ?vc15) rfl (by kernel_rfl) (by kernel_rfl) (by kernel_rfl) (fun _ _ _ h => h) rfl hHeld ?yc15 ?rc15
            case yc15 => (intro wz hz; go_simp; first | done | with_reducible rfl)
            try simp only [Act.put, List.setIfInBounds_toArray, List.set_cons_zero, List.set_cons_succ]
            refine take_op (i := 16) (v := ?vc16) rfl (by kernel_rfl) (by kernel_rfl) (by kernel_rfl) (fun _ _ _ h => h) rfl hHeld ?yc16 ?rc16
            case yc16 => (intro wz hz; have hcz := CX.out wz hz 2 _ rfl; go_simp; first | done | with_reducible rfl)
            try simp only [Act.put, List.setIfInBounds_toArray, List.set_cons_zero, List.set_cons_succ]
            refine take_op (i := 17) (v := ?vc17) rfl (by kernel_rfl) (by kernel_rfl) (by kernel_rfl) (fun _ _ _ h => h) rfl hHeld ?yc17 ?rc17
            case yc17 => (intro wz hz; go_simp; first | done | with_reducible rfl)
            try simp only [Act.put, List.setIfInBounds_toArray, List.set_cons_zero, List.set_cons_succ]
            refine take_op (i := 18) (v := ?vc18) rfl (by kernel_rfl) (by kernel_rfl) (by kernel_rfl) (fun _ _ _ h => h) rfl hHeld ?yc18 ?rc18
            case yc18 => (intro wz hz; go_simp; first | done | with_reducible rfl)
            try simp only [Act.put, List.setIfInBounds_toArray, List.set_cons_zero, List.set_cons_succ]
            refine take_op (i := 19) (v := ?vc19) rfl (by kernel_rfl) (by kernel_rfl) (by kernel_rfl) (fun _ _ _ h => h) rfl hHeld ?yc19 ?rc19
            case yc19 => (intro wz hz; go_simp; first | done | with_reducible rfl)
            try simp only [Act.put, List.setIfInBounds_toArray, List.set_cons_zero, List.set_cons_succ]
            refine wpAnyH_done (by kernel_rfl) ?_ _
            refine NoPanic.normal ?_
            have HB8 : Hid (Below wr.heap.size wr _) := hHeld
            clear hHeld
            go_wp2_with fail
            go_meet
            case rel => exact ⟨rfl, rfl, rfl, rfl, rfl, rfl, HB8.out⟩
          case rest =>
            obtain ⟨rfl, rfl, rfl, rfl, rfl, rfl, hb8⟩ := hcut
            have hb9 : Below wr.heap.size wr wc.drew.drew.drew := hb8.drew.drew.drew
            clear hb8 HB7
            go_wp2_with fail
            refine (rturn_any sx.a 2 oka.1 oka.2 (by omega) (by omega) _).mono ?_
            rintro e w' ⟨rfl, rfl⟩
            simp only [Int.reduceToNat]
            go_wp2_with fail
            refine (rturn_any sx.a 13 oka.1 oka.2 (by omega) (by omega) _).mono ?_
            rintro e w' ⟨rfl, rfl⟩
            simp only [Int.reduceToNat]
            go_wp2_with fail
            refine (rturn_any sx.a 22 oka.1 oka.2 (by omega) (by omega) _).mono ?_
            rintro e w' ⟨rfl, rfl⟩
            simp only [Int.reduceToNat]
            go_wp2_with fail
            refine (three_any _ _ _ _).mono ?_
            rintro e w' ⟨rfl, rfl⟩
            generalize wc.drew.drew.drew = w9 at hb9 ⊢
            have c3 : w9.cell? ⟨g, 3, none⟩ = some (.int .u32 sx.d) := CX.out w9 hb9 3 _ rfl
            have z3 : w9.frozen? ⟨g, 3, none⟩ = false := (World.frozen?_of_block (w := wr) (hb9.block g hgl)).trans (hfr 3)
            go_upto_region 11 with fail
            rw [rndU_doc sx]
            obtain ⟨w10, hw10⟩ : ∃ w10, w10 = w9.setCell ⟨g, 3, none⟩ (.int .u32 ((sx.d + tt) % 4294967296)) := ⟨_, rfl⟩
            have s10 : w10.heap.size = w9.heap.size := by rw [hw10]; exact nblk_setCell _ _ _
            have hoth : ∀ (j : Nat) (u : Value), j ≠ 3 → (s8L sx)[j]? = some u → w10.cell? ⟨g, j, none⟩ = some u := fun j u hj hu => by
              rw [hw10, World.cell?_setCell_other]
              · exact CX.out w9 hb9 j u hu
              · intro e; injection e with _ e; exact hj e.symm
            have c10 : ∀ (j : Nat) (u : Value), ([.int .u32 sx.a, .int .u32 sx.b, .int .u32 sx.c, .int .u32 ((sx.d + tt) % 4294967296), .int .u32 sx.e, .int .u32 sx.f, .int .u32 sx.g] : List Value)[j]? = some u → w10.cell? ⟨g, 0 + j, none⟩ = some u := fun j u hu => by
              rw [Nat.zero_add]
              match j, hu with
              | 0, hu => exact hoth 0 u (by omega) hu
              | 1, hu => exact hoth 1 u (by omega) hu
              | 2, hu => exact hoth 2 u (by omega) hu
              | 3, hu =>
                have : Value.int .u32 ((sx.d + tt) % 4294967296) = u := by simpa using hu
                rw [hw10, ← this]; exact World.cell?_setCell_same' _ _ _ (by rw [c3]; rfl)
              | 4, hu => exact hoth 4 u (by omega) hu
              | 5, hu => exact hoth 5 u (by omega) hu
              | 6, hu => exact hoth 6 u (by omega) hu
              | j + 7, hu => simp at hu
            have hng : g ≠ g2 ∧ g ≠ w2.heap.size := hne g rfl
            have hwr9 := hb9.size
            have hk10 : ∀ j, j < wr.heap.size → j ≠ g → w10.heap[j]? = wr.heap[j]? := fun j hj hjg => by
              rw [hw10]; exact (blk_setCell_other _ _ _ _ hjg).trans (hb9.block j hj)
            have hbw10 : Below w.heap.size w w10 := hbw.trans ⟨by rw [hw10]; exact hb9.os, by rw [hw10]; exact hb9.tape, by rw [hw10]; exact hb9.output, by omega, fun j hj => hk10 j (by have := hbw.size; omega) (by omega)⟩
            rw [← hw10]
            clear hw10 c3 z3 hoth
            have hO : owns (w10.alloc (.cells #[.int .u32 ((tt + rndU sx) % 4294967296)] 38)) w.heap.size 38 (.slice (some ⟨w10.heap.size, 0, none⟩) 1 1) [.int .u32 ((tt + rndU sx) % 4294967296)] :=
              ⟨rfl, Or.inr ⟨w10.heap.size, 1, _, rfl, by have := hbw10.size; omega, blk_alloc_new _ _, Nat.le_refl _, by unfold maxLen; omega, rfl, rfl⟩⟩
            have b11 : Below w10.heap.size w10 (w10.alloc (.cells #[.int .u32 ((tt + rndU sx) % 4294967296)] 38)) := (Below.refl _ _).alloc (Nat.le_refl _) _
            obtain ⟨v12, w12, r12, o12, g12, a12⟩ := words_append_run _ w.heap.size _ _ hO g 0 7 cg _ rfl (fun j u hu => (b11.cell (p := ⟨g, 0 + j, none⟩) (show g < w10.heap.size by omega)).trans (c10 j u hu)) (fun u hu => by
              simp only [List.mem_cons, List.not_mem_nil, or_false] at hu
              rcases hu with rfl | rfl | rfl | rfl | rfl | rfl | rfl <;> rfl) (by omega) (by simp) (by simp; have := hbw10.size; omega)
            have hsl : ∀ wz : World, (Instr.slice 81 (.slice (some ⟨g, 0, none⟩) 8 cg) none (some (.int .i64 7)) none).run Tryd.prog wz = .ok (.slice (some ⟨g, 0, none⟩) 7 cg) wz := fun wz => run_slice_to7 g cg (by have : (s8L sx).length ≤ cg := hcg; have l8 : (s8L sx).length = 8 := rfl; omega) wz
            have hk12 : ∀ j, j < w10.heap.size → w12.heap[j]? = w10.heap[j]? := fun j hj => (g12.block j (by simp; omega) (fun e => absurd e (by simp [Value.ownBlock]; omega))).trans (blk_alloc_lt _ _ _ hj)
            have s12 : w10.heap.size < w12.heap.size := by have := g12.size; simp at this; omega
            have BL : Hid (blkAt w w3 w12 g2 w2.heap.size v12 f s0 (k + 1)) := (show blkAt w w3 w12 g2 w2.heap.size v12 f s0 (k + 1) from by
              have s3 := S3.out
              have e1 : rndTo (wAt f 64) s0 (k + 1) = rnd sx (kAt k) (wAt f 64 k) := by rw [rndTo, ← HSX.out]
              rw [HTT.out] at o12
              refine ⟨by rw [e1]; exact o12, fun j hj => ?_, fun i hi => ?_, fun i hi => ?_, hbw10.trans ⟨g12.os, g12.tape, g12.output, by omega, fun j hj => hk12 j (by have := hbw10.size; omega)⟩, by omega⟩
              · have hj2 : w10.heap.size ≤ j := by
                  rcases a12 with h | h
                  · rw [hj] at h
                    have : j = w10.heap.size := by simpa [Value.ownBlock] using h
                    omega
                  · rw [hj] at h
                    have : j = w10.heap.size + 1 := by simpa using h
                    omega
                exact ⟨by omega, by omega⟩
              · rw [World.cell?_of_block (w := wr) ((hk12 g2 (by omega)).trans (hk10 g2 (by omega) (fun h => hng.1 h.symm)))]; exact HCW.out i hi
              · rw [World.cell?_of_block (w := wr) ((hk12 w2.heap.size (by omega)).trans (hk10 w2.heap.size (by omega) (fun h => hng.2 h.symm)))]; exact HCK.out i hi)
            have hv12 : ∃ g c, v12 = .slice (some ⟨g, 0, none⟩) 8 c := by
              obtain ⟨g, c, h, _⟩ := o12.shape (by simp)
              exact ⟨g, c, h⟩
            obtain ⟨g', c', rfl⟩ := hv12
            have R12 : Hid _ := r12
            clear hO b11 r12 o12 g12 a12 hk12 s12 c10 hng hk10 hbw10 s10
            go_wp2_with (first | (at_builtin; refine wpList_append_run rfl (.tmp 103) (.tmp 105) _ rfl rfl rfl R12.out ?_; try simp only [Act.put, List.setIfInBounds_toArray, List.set_cons_zero, List.set_cons_succ]; clear R12))
            go_light
            exact ⟨⟨k + 1, by omega, by go_num, BL.out⟩, by simp [intOf]; omega⟩
    · obtain rfl : k = 64 := by omega
      have p1 : ¬ ((64 : Nat) : Int) < 64 := by omega
      obtain ⟨S, hS⟩ : ∃ S, S = rndTo (wAt f 64) s0 64 := ⟨_, rfl⟩
      rw [← hS] at hox
      have HS : Hid (S = rndTo (wAt f 64) s0 64) := (show S = rndTo (wAt f 64) s0 64 from hS)
      clear hS
      obtain ⟨g, cg, rfl, hgB, hgl, hcg, _, hcx, hfr⟩ := hox.shape (by simp [s8L])
      have l8 : (s8L S).length = 8 := rfl
      rw [l8] at hox ⊢
      obtain ⟨F, hrow, hF, hn8, hmx, _⟩ := owns_row hox
      have hFi : ∀ i, i < 8 → F i = .int .u32 (S.at i) := fun i hi => by
        have : i = 0 ∨ i = 1 ∨ i = 2 ∨ i = 3 ∨ i = 4 ∨ i = 5 ∨ i = 6 ∨ i = 7 := by omega
        rcases this with rfl | rfl | rfl | rfl | rfl | rfl | rfl | rfl <;> exact hF _ _ rfl
      have hold : ∀ i, i < 8 → w.cell? ⟨ob, oo + i, none⟩ = some (.int .u32 (s0.at i)) := fun i hi => by
        have : i = 0 ∨ i = 1 ∨ i = 2 ∨ i = 3 ∨ i = 4 ∨ i = 5 ∨ i = 6 ∨ i = 7 := by omega
        rcases this with rfl | rfl | rfl | rfl | rfl | rfl | rfl | rfl <;> exact ho _ _ rfl
      have HR : Hid (wr.rowIs g 38 cg F) := (show wr.rowIs g 38 cg F from hrow)
      have HW : Hid (Below w.heap.size w wr) := (show Below w.heap.size w wr from hbw)
      clear hrow hbw hox hcx hfr hF s3 hcw hck hne hsz
      go_wp2
      go_loopw [14] (fun i wq => ∃ j : Nat, j ≤ 8 ∧ i = .int .i64 j ∧ wq.rowIs g 38 cg (fun i => if i < j then .int .u32 ((s0.at i + S.at i) % 4294967296) else F i) ∧ Below w.heap.size w wq) (fun i _ => 8 - (intOf i).toNat)
      case atStart => exact ⟨0, by omega, rfl, HR.out.congr (fun i _ => by rw [if_neg (by omega)]), HW.out⟩
      case round =>
        obtain ⟨j, hj, rfl, hrow, hbq⟩ := hrel
        clear HR HW
        have p0 : (0 : Int) ≤ (j : Int) := by omega
        by_cases hlt2 : j < 8
        · have p2 : (j : Int) < 8 := by omega
          have hjg : j < cg := by omega
          have cj : wr.cell? ⟨g, j, none⟩ = some (.int .u32 (S.at j)) := by rw [hrow.cell hjg, if_neg (by omega), hFi j hlt2]
          have zj := World.rowIs.frozen hrow j
          have oj : wr.cell? ⟨ob, oo + j, none⟩ = some (.int .u32 (s0.at j)) := (hbq.cell (p := ⟨ob, oo + j, none⟩) hob).trans (hold j hlt2)
          have cjd : wr.drew.cell? ⟨g, j, none⟩ = some (.int .u32 (S.at j)) := cj
          have zjd : wr.drew.frozen? ⟨g, j, none⟩ = false := zj
          have ojd : wr.drew.cell? ⟨ob, oo + j, none⟩ = some (.int .u32 (s0.at j)) := oj
          have p3 : (j : Int) < (cg : Int) := by omega
          have NX : Hid (∀ x : Int, x = (s0.at j + S.at j) % 4294967296 → (wr.drew.setCell ⟨g, j, none⟩ (.int .u32 x)).rowIs g 38 cg (fun i => if i < j + 1 then .int .u32 ((s0.at i + S.at i) % 4294967296) else F i) ∧ Below w.heap.size w (wr.drew.setCell ⟨g, j, none⟩ (.int .u32 x))) := (show ∀ x : Int, x = (s0.at j + S.at j) % 4294967296 → (wr.drew.setCell ⟨g, j, none⟩ (.int .u32 x)).rowIs g 38 cg (fun i => if i < j + 1 then .int .u32 ((s0.at i + S.at i) % 4294967296) else F i) ∧ Below w.heap.size w (wr.drew.setCell ⟨g, j, none⟩ (.int .u32 x)) from fun x hx => by
            refine ⟨(World.rowIs.set (w := wr.drew) hrow j _).congr fun i hi => ?_, hbq.drew.setCell hgB _⟩
            subst hx
            by_cases e : i = j
            · subst e; simp
            · by_cases e2 : i < j
              · rw [if_neg e, if_pos e2, if_pos (by omega)]
              · rw [if_neg e, if_neg e2, if_neg (by omega)])
          clear hrow cj zj oj hbq
          go_upto_region 15 with fail
          refine wp_region_noPanic ?_
          refine wp_region_held_drew (S := fun w' => True) (by kernel_rfl) trivial (fun hHeld => ?_)
          refine take_op (i := 0) (v := ?vz0) rfl (by kernel_rfl) (by kernel_rfl) (by kernel_rfl) (fun _ _ _ h => h) rfl hHeld ?yz0 ?rz0
          case yz0 => (intro wz hz; go_simp; first | done | with_reducible rfl)
          try simp only [Act.put, List.setIfInBounds_toArray, List.set_cons_zero, List.set_cons_succ]
          refine take_op (i := 1) (v := ?vz1) rfl (by kernel_rfl) (by kernel_rfl) (by kernel_rfl) (fun _ _ _ h => h) rfl hHeld ?yz1 ?rz1
          case yz1 => (intro wz hz; go_simp; first | done | with_reducible rfl)
          try simp only [Act.put, List.setIfInBounds_toArray, List.set_cons_zero, List.set_cons_succ]
          refine take_op (i := 2) (v := ?vz2) rfl (by kernel_rfl) (by kernel_rfl) (by kernel_rfl) (fun _ _ _ h => h) rfl hHeld ?yz2 ?rz2
          case yz2 => (intro wz hz; go_simp; first | done | with_reducible rfl)
          try simp only [Act.put, List.setIfInBounds_toArray, List.set_cons_zero, List.set_cons_succ]
          refine take_op (i := 3) (v := ?vz3) rfl (by kernel_rfl) (by kernel_rfl) (by kernel_rfl) (fun _ _ _ h => h) rfl hHeld ?yz3 ?rz3
          case yz3 => (intro wz hz; go_simp; first | done | with_reducible rfl)
          try simp only [Act.put, List.setIfInBounds_toArray, List.set_cons_zero, List.set_cons_succ]
          refine take_op (i := 4) (v := ?vz4) rfl (by kernel_rfl) (by kernel_rfl) (by kernel_rfl) (fun _ _ _ h => h) rfl hHeld ?yz4 ?rz4
          case yz4 => (intro wz hz; go_simp; first | done | with_reducible rfl)
          try simp only [Act.put, List.setIfInBounds_toArray, List.set_cons_zero, List.set_cons_succ]
          refine take_op (i := 6) (v := ?vz6) rfl (by kernel_rfl) (by kernel_rfl) (by kernel_rfl) (fun _ _ _ h => h) rfl hHeld ?yz6 ?rz6
          case yz6 => (intro wz hz; go_simp; first | done | with_reducible rfl)
          try simp only [Act.put, List.setIfInBounds_toArray, List.set_cons_zero, List.set_cons_succ]
          refine take_op (i := 7) (v := ?vz7) rfl (by kernel_rfl) (by kernel_rfl) (by kernel_rfl) (fun _ _ _ h => h) rfl hHeld ?yz7 ?rz7
          case yz7 => (intro wz hz; go_simp; first | done | with_reducible rfl)
          try simp only [Act.put, List.setIfInBounds_toArray, List.set_cons_zero, List.set_cons_succ]
          refine take_op (i := 8) (v := ?vz8) rfl (by kernel_rfl) (by kernel_rfl) (by kernel_rfl) (fun _ _ _ h => h) rfl hHeld ?yz8 ?rz8
          case yz8 => (intro wz hz; go_simp; first | done | with_reducible rfl)
          try simp only [Act.put, List.setIfInBounds_toArray, List.set_cons_zero, List.set_cons_succ]
          refine take_two (i := 5) (j := 9) (u := .int .u32 (S.at j)) (v := .int .u32 (s0.at j)) rfl rfl (by kernel_rfl) rfl rfl trivial (by go_simp; first | done | with_reducible rfl) (by go_simp; first | done | with_reducible rfl) ?_ ?_
          · try simp only [Act.put, List.setIfInBounds_toArray, List.set_cons_zero, List.set_cons_succ]
            refine take_run (i := 9) (v := .int .u32 (s0.at j)) rfl (by kernel_rfl) rfl (by go_simp; first | done | with_reducible rfl) trivial ?_
            try simp only [Act.put, List.setIfInBounds_toArray, List.set_cons_zero, List.set_cons_succ]
            refine take_op (i := 10) (v := ?vya10) rfl (by kernel_rfl) (by kernel_rfl) (by kernel_rfl) (fun _ _ _ h => h) rfl hHeld ?yya10 ?rya10
            case yya10 => (intro wz hz; go_simp; first | done | with_reducible rfl)
            try simp only [Act.put, List.setIfInBounds_toArray, List.set_cons_zero, List.set_cons_succ]
            refine take_op (i := 11) (v := ?vya11) rfl (by kernel_rfl) (by kernel_rfl) (by kernel_rfl) (fun _ _ _ h => h) rfl hHeld ?yya11 ?rya11
            case yya11 => (intro wz hz; go_simp; first | done | with_reducible rfl)
            try simp only [Act.put, List.setIfInBounds_toArray, List.set_cons_zero, List.set_cons_succ]
            refine take_one (i := 12) rfl (by kernel_rfl) rfl (fun K hK => ?_)
            go_simp
            refine hK.out _ _ trivial (fun hHeld => ?_)
            clear hK K hHeld
            try simp only [Act.put, List.setIfInBounds_toArray, List.set_cons_zero, List.set_cons_succ]
            refine wpAnyH_done (by kernel_rfl) ?_ _
            refine NoPanic.normal ?_
            go_wp2
            go_light
            exact ⟨⟨j + 1, by omega, by go_num, (NX.out _ (by rw [Int.add_comm])).1, (NX.out _ (by rw [Int.add_comm])).2⟩, by simp [intOf]; omega⟩
          · try simp only [Act.put, List.setIfInBounds_toArray, List.set_cons_zero, List.set_cons_succ]
            refine take_run (i := 5) (v := .int .u32 (S.at j)) rfl (by kernel_rfl) rfl (by go_simp; first | done | with_reducible rfl) trivial ?_
            try simp only [Act.put, List.setIfInBounds_toArray, List.set_cons_zero, List.set_cons_succ]
            refine take_op (i := 10) (v := ?vyb10) rfl (by kernel_rfl) (by kernel_rfl) (by kernel_rfl) (fun _ _ _ h => h) rfl hHeld ?yyb10 ?ryb10
            case yyb10 => (intro wz hz; go_simp; first | done | with_reducible rfl)
            try simp only [Act.put, List.setIfInBounds_toArray, List.set_cons_zero, List.set_cons_succ]
            refine take_op (i := 11) (v := ?vyb11) rfl (by kernel_rfl) (by kernel_rfl) (by kernel_rfl) (fun _ _ _ h => h) rfl hHeld ?yyb11 ?ryb11
            case yyb11 => (intro wz hz; go_simp; first | done | with_reducible rfl)
            try simp only [Act.put, List.setIfInBounds_toArray, List.set_cons_zero, List.set_cons_succ]
            refine take_one (i := 12) rfl (by kernel_rfl) rfl (fun K hK => ?_)
            go_simp
            refine hK.out _ _ trivial (fun hHeld => ?_)
            clear hK K hHeld
            try simp only [Act.put, List.setIfInBounds_toArray, List.set_cons_zero, List.set_cons_succ]
            refine wpAnyH_done (by kernel_rfl) ?_ _
            refine NoPanic.normal ?_
            go_wp2
            go_light
            exact ⟨⟨j + 1, by omega, by go_num, (NX.out _ (by rw [Int.add_comm])).1, (NX.out _ (by rw [Int.add_comm])).2⟩, by simp [intOf]; omega⟩
        · obtain rfl : j = 8 := by omega
          have p2 : ¬ ((8 : Nat) : Int) < 8 := by omega
          have OW : Hid (owns wr w.heap.size 38 (.slice (some ⟨g, 0, none⟩) 8 cg) ((List.range 8).map fun i => .int .u32 ((s0.at i + S.at i) % 4294967296))) := (show owns wr w.heap.size 38 (.slice (some ⟨g, 0, none⟩) 8 cg) ((List.range 8).map fun i => .int .u32 ((s0.at i + S.at i) % 4294967296)) from by
            have := owns_of_row (n := 8) hrow hn8 hmx hgB
            exact this)
          have HQ : Hid (Below w.heap.size w wr) := (show Below w.heap.size w wr from hbq)
          clear hrow hbq
          go_wp2
          go_ret
          exact ⟨_, rfl, by rw [← HS.out]; exact OW.out, HQ.out⟩
end Go.Proofs.YtmfgfcknhjblgaaDoor

/- The document's answer: All parts, one behind the other. -/
namespace Go.Proofs.YtmfgfcknhjblgaaDoor
set_option linter.unusedSimpArgs false
set_option linter.unusedVariables false
open Go.RowKit Go.Deep

set_option maxHeartbeats 1000000 in
theorem rall_any (n : Nat) (v : Value) (ps : Nat → List Int) (w : World) (hp : anyParts w v n ps) (hl : ∀ i, i ≤ n → (flatTo ps i).length ≤ 1000000000) :
    Calls Tryd.prog 18 #[v] w fun e w' => ∃ v', e = .returned v' ∧ newBytes w' w.heap.size v' (flatTo ps n) ∧ Below w.heap.size w w' := by
  obtain ⟨a, cap, rfl, hnm, hcell⟩ := hp.open
  clear hp
  have hn' : (n : Int) ≤ 9223372036854775807 := by unfold maxLen at hnm; omega
  go_enter Tryd.func18, Tryd.ntmps18
  go_wp2
  go_loopw [3, 4] (fun v i wr => ∃ k : Nat, k ≤ n ∧ i = .int .i64 k ∧ newBytes wr w.heap.size v (flatTo ps k) ∧ Below w.heap.size w wr) (fun _ i _ => n - (intOf i).toNat)
  case atStart => exact ⟨0, by omega, rfl, newBytes.nil _ _, Below.refl _ _⟩
  case round =>
    obtain ⟨k, hk, rfl, hown, hb⟩ := hrel
    have hsz := hb.size
    by_cases hlt : k < n
    · obtain ⟨qb, qo, u, rfl, hq, hc, hu⟩ := hcell k hlt
      have b0 : (0 : Int) ≤ (k : Int) := by omega
      have b1 : (k : Int) < (n : Int) := by omega
      have hlk := hl (k + 1) (by omega)
      rw [flatTo, List.length_append] at hlk
      rw [← hb.cell (p := ⟨qb, qo + k, none⟩) hq] at hc
      obtain ⟨r, w2, hr, ho2, hg2, _⟩ := any_append_run wr w.heap.size u3 u _ (ps k) hown (hu.below hb (Nat.le_refl _)) (by omega) hsz
      have hB2 : Below w.heap.size w w2 := hb.trans (below_grown hg2 (fun j hj => (hown.block j hj).1) hsz)
      obtain ⟨ua, uc, rfl, hum⟩ := hu.slice
      have HO : Hid _ := ho2
      clear hu hown ho2 hl hg2 hcell
      go_wp2_with (first | (at_builtin; refine wpList_append_run rfl _ _ _ rfl rfl rfl hr ?_))
      exact ⟨⟨k + 1, by omega, by simp, by rw [flatTo]; exact HO.out, hB2⟩, by simp only [intOf]; omega⟩
    · obtain rfl : k = n := by omega
      clear hl hcell
      have HO : Hid _ := hown
      clear hown
      go_wp2
      go_ret
      exact ⟨_, rfl, HO.out, hb⟩
end Go.Proofs.YtmfgfcknhjblgaaDoor
