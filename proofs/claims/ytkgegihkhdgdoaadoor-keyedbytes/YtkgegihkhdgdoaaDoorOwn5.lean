import Derived.Test.YtkgegihkhdgdoaaDoorOwn1
import Derived.Test.YtkgegihkhdgdoaaDoorOwn2
import Derived.Test.YtkgegihkhdgdoaaDoorOwn3
import Derived.Test.YtkgegihkhdgdoaaDoorOwn4
set_option linter.unusedVariables false
set_option linter.unusedSimpArgs false
/- keyed.says, of two spots, of none, of more. -/
namespace Go.Proofs.YtkgegihkhdgdoaaDoor
set_option linter.unusedSimpArgs false
set_option linter.unusedVariables false
open Go.RowKit Go.Deep

/-- a spot's cells. -/
def spG (at_ : Int) (kc vc pc : Value) : Nat → Value
  | 0 => .int .i64 at_
  | 1 => kc
  | 2 => vc
  | _ => pc
def spZ : Nat → Value := spG 0 (.slice none 0 0) (.slice none 0 0) (.slice none 0 0)
theorem zero_sp : ∀ w : World, (zeroValue 41).run Tryd.prog w = .ok (.agg (rowV 4 spZ)) w := fun w => by kernel_rfl
theorem hiSp : (Tryd.prog.info? 41).map (·.size) = some 4 := by kernel_rfl
theorem alSp (w : World) : (Instr.alloc 41 true (.tuple #[])).run Tryd.prog w = .ok (.pointer (some ⟨w.heap.size, 0, none⟩)) (w.alloc (.cells (rowV 4 spZ) 41)) := by
  show (_ : Result Value) = _
  kernel_rfl
theorem exec_allocSp {o : Oper} {ev : Operand → Value} {w : World} (ho : o.op = .alloc 41) :
    (execOp ev o).run Tryd.prog w = .ok (.value (.pointer (some ⟨w.heap.size, 0, none⟩))) (w.alloc (.cells (rowV 4 spZ) 41)) := by
  unfold execOp
  simp only [ho, Sem.run_bind, alSp, Result.andThen_ok, Sem.run_pure]
theorem spG_one (at_ : Int) (a b c : Option Addr) (i j k l m n : Nat) : ∀ t, t < 4 → (spG at_ (.slice a i j) (.slice b k l) (.slice c m n) t).oneCell' = true := fun t ht => by
  match t, ht with
  | 0, _ => rfl
  | 1, _ => rfl
  | 2, _ => rfl
  | 3, _ => rfl
/-- a spot is written into a box. -/
theorem sp_store (w : World) (b : Nat) (g : Nat → Value) {t : TypeId} {f : Nat → Value} (hr : w.rowIs b t 4 f) (h1 : ∀ i, i < 4 → (g i).oneCell' = true) :
    ∃ w', (storeVar 41 ⟨b, 0, none⟩ (.agg (rowV 4 g))).run Tryd.prog w = .ok () w' ∧ w'.rowIs b t 4 g ∧ w'.heap.size = w.heap.size ∧ But w.heap.size b w w' := by
  refine ⟨_, stowR_run w 41 b 0 4 g hiSp h1 (there_of_row hr (by omega)), (rowIs_splice hr).congr fun i hi => by rw [if_pos (by omega), Nat.sub_zero], size_setCells _ _ _ _, but_setCells _ _ (But.refl _ _ _)⟩
end Go.Proofs.YtkgegihkhdgdoaaDoor

/- keyed.spotBytes. -/
namespace Go.Proofs.YtkgegihkhdgdoaaDoor
set_option linter.unusedSimpArgs false
set_option linter.unusedVariables false
open Go.RowKit Go.Deep

/-- a number as 64 bits. -/
def u64I (z : Int) : Int := z % 18446744073709551616
theorem wrap_u64I (z : Int) : IntKind.wrap .u64 z = u64I z := by simp [IntKind.wrap, IntKind.bits, IntKind.signed, u64I]
theorem u64I_in (z : Int) : 0 ≤ u64I z ∧ u64I z < 18446744073709551616 := by unfold u64I; omega
def gP (s : Sp) (i : Nat) : List Int := s.path.getD i []
/-- a spot's bytes. -/
def spotB (s : Sp) : List Int := ((numB (u64I s.at_) ++ flatTo (blobsB (prPs s.pr)) 2) ++ numB (s.path.length : Int)) ++ flatTo (gP s) s.path.length
theorem sums_is {w : World} {v : Value} {s : Sp} (h : sumsAt w v s.path) : isSumsK w v s.path.length (gP s) := by
  obtain ⟨h1, a, cap, rfl, h3, h4, h5⟩ := h
  have hg : ∀ i (hi : i < s.path.length), gP s i = s.path[i] := fun i hi => by unfold gP; rw [List.getD_eq_getElem?_getD, List.getElem?_eq_getElem hi]; rfl
  refine ⟨fun i hi => ?_, a, cap, rfl, by omega, fun k hk => ?_⟩
  · have := h1 _ (List.getElem_mem hi)
    rw [hg i hi]; exact this
  · obtain ⟨g, o, rfl, hlt, hc⟩ := h5 (by omega)
    exact ⟨g, o, rfl, hlt, fun j hj => by rw [hg k hk]; exact hc k hk j hj⟩
theorem spotB_le (s : Sp) (h1 : s.pr.1.length + s.pr.2.length ≤ 1000000) (h2 : s.path.length ≤ 1000) (hp : ∀ q ∈ s.path, isSum q) : (spotB s).length ≤ 2000000 := by
  unfold spotB
  have e1 := numB_le (u64I s.at_)
  have e2 := numB_le (s.path.length : Int)
  have e3 := prPs_light s.pr h1 2 (Nat.le_refl _)
  have e4 : (flatTo (blobsB (prPs s.pr)) 2).length = (blobB s.pr.1).length + (blobB s.pr.2).length := by simp [flatTo, blobsB, prPs]
  have e5 := blobB_le s.pr.1
  have e6 := blobB_le s.pr.2
  have e7 := flatTo_32 (gP s) s.path.length (fun i hi => by
    unfold gP; rw [List.getD_eq_getElem?_getD, List.getElem?_eq_getElem hi]; exact (hp _ (List.getElem_mem hi)).1) s.path.length (Nat.le_refl _)
  simp only [List.length_append]
  omega
set_option maxHeartbeats 4000000 in
set_option maxRecDepth 100000 in
theorem kspotb_any (s : Sp) (kc vc pc : Value) (w : World) (k1 : anyBytes w kc s.pr.1) (k2 : anyBytes w vc s.pr.2) (k3 : sumsAt w pc s.path) (hin : inI64 s.at_) (h1 : s.pr.1.length + s.pr.2.length ≤ 1000000) (h2 : s.path.length ≤ 1000) :
    Calls Tryd.prog 54 #[.agg (rowV 4 (spG s.at_ kc vc pc))] w fun e w' => ∃ v, e = .returned v ∧ newBytes w' w.heap.size v (spotB s) ∧ Below w.heap.size w w' := by
  obtain ⟨w1, hw1⟩ : ∃ w1, w1 = w.alloc (.cells (rowV 4 (spG s.at_ kc vc pc)) 41) := ⟨_, rfl⟩
  have b1 : Below w.heap.size w w1 := by rw [hw1]; exact (Below.refl _ _).alloc (Nat.le_refl _) _
  have r1 : w1.rowIs w.heap.size 41 4 (spG s.at_ kc vc pc) := by rw [hw1]; exact rowIs_box _ _ _ _
  have FACT : Hid (∀ wz, Below w1.heap.size w1 wz → Below w.heap.size w wz ∧ wz.cell? ⟨w.heap.size, 0, none⟩ = some (.int .i64 s.at_) ∧ wz.cell? ⟨w.heap.size, 1, none⟩ = some kc ∧ wz.cell? ⟨w.heap.size, 2, none⟩ = some vc ∧ wz.cell? ⟨w.heap.size, 3, none⟩ = some pc ∧ anyBytes wz kc s.pr.1 ∧ anyBytes wz vc s.pr.2 ∧ sumsAt wz pc s.path) := (show _ from fun wz hz => by
    have hz' : Below w.heap.size w wz := b1.trans (hz.mono b1.size)
    have r := hz.row r1 r1.lt
    exact ⟨hz', r.cell (i := 0) (by omega), r.cell (i := 1) (by omega), r.cell (i := 2) (by omega), r.cell (i := 3) (by omega), k1.below hz' (Nat.le_refl _), k2.below hz' (Nat.le_refl _), k3.below hz' (Nat.le_refl _)⟩)
  obtain ⟨ka, kcap, rfl, _⟩ := k1.slice
  obtain ⟨va, vcap, rfl, _⟩ := k2.slice
  obtain ⟨pa, pcap, rfl⟩ : ∃ a c, pc = .slice a s.path.length c := by obtain ⟨_, a, c, e, _⟩ := k3; exact ⟨a, c, e⟩
  obtain ⟨x, hxe⟩ : ∃ x, x = u64I s.at_ := ⟨_, rfl⟩
  have hw : IntKind.wrap .u64 s.at_ = x := by rw [hxe]; exact wrap_u64I _
  have hxi : 0 ≤ x ∧ x < 18446744073709551616 := by rw [hxe]; exact u64I_in _
  have HXE : Hid (x = u64I s.at_) := hxe
  obtain ⟨w2, hw2⟩ : ∃ w2, w2 = w1.alloc (.cells #[.int .u64 x] 94) := ⟨_, rfl⟩
  have b2 : Below w1.heap.size w1 w2 := by rw [hw2]; exact (Below.refl _ _).alloc (Nat.le_refl _) _
  have X1 := num_any [] (.slice none 0 0) (.slice (some ⟨w1.heap.size, 0, none⟩) 1 1) 1 (fun _ => x) w2 (Or.inl ⟨rfl, rfl⟩) (by rw [hw2]; exact row_u64 w1 x) (fun i hi => hxi) (by simp)
  rw [show ([] : List Int) ++ flatTo (numsB fun _ => x) 1 = numB x by simp [flatTo, numsB]] at X1
  have H12 : Hid (Below w1.heap.size w1 w2) := (show _ from b2)
  have d0 := (FACT.out w1 (Below.refl _ _)).2.1
  have HSZ : Hid (s.pr.1.length + s.pr.2.length ≤ 1000000 ∧ s.path.length ≤ 1000 ∧ Below w.heap.size w w1) := (show _ ∧ _ ∧ _ from ⟨h1, h2, b1⟩)
  clear k1 k2 k3 b1 r1 b2 hxe hin h1 h2
  go_enter Tryd.func54, Tryd.ntmps54
  go_upto_region 1 with fail
  rw [← hw1]
  clear hw1
  go_wp2_with fail
  rw [← hw2]
  clear hw2
  refine X1.mono ?_
  rintro e w3 ⟨v3, rfl, n3, b3⟩
  have b13 : Below w1.heap.size w1 w3 := H12.out.trans (b3.mono H12.out.size)
  obtain ⟨na, nc, rfl⟩ := n3.slen
  obtain ⟨f3, _, c1, c2, _, ak, av, _⟩ := FACT.out w3 b13
  obtain ⟨w4, hw4⟩ : ∃ w4, w4 = w3.alloc (.cells #[.slice ka s.pr.1.length kcap, .slice va s.pr.2.length vcap] 23) := ⟨_, rfl⟩
  have b4 : Below w3.heap.size w3 w4 := by rw [hw4]; exact (Below.refl _ _).alloc (Nat.le_refl _) _
  have hp4 : isParts w4 (.slice (some ⟨w3.heap.size, 0, none⟩) 2 2) 2 (prPs s.pr) := by rw [hw4]; exact parts_two w3 _ _ s.pr ak av
  have X2 := blob_any' (numB x) (.slice na (numB x).length nc) _ 2 (prPs s.pr) w4 (n3.is.below b4 (Nat.le_refl _)) hp4.any (fun i hi => by
    have e1 := numB_le x
    have e3 := prPs_light s.pr HSZ.out.1 i hi
    omega)
  have b14 : Below w1.heap.size w1 w4 := b13.trans (b4.mono b13.size)
  have H14 : Hid (Below w1.heap.size w1 w4) := (show _ from b14)
  clear X1 d0 n3 b3 b13 f3 ak av b4 hp4 b14
  go_wp2_with fail
  rw [← hw4]
  clear hw4 c1 c2
  refine X2.mono ?_
  rintro e w5 ⟨v5, rfl, n5, b5⟩
  clear X2
  obtain ⟨l5, hl5⟩ : ∃ l5, l5 = numB x ++ flatTo (blobsB (prPs s.pr)) 2 := ⟨_, rfl⟩
  rw [← hl5] at n5
  have HL5 : Hid (l5 = numB x ++ flatTo (blobsB (prPs s.pr)) 2) := hl5
  clear hl5
  have b15 : Below w1.heap.size w1 w5 := H14.out.trans (b5.mono H14.out.size)
  obtain ⟨nb, nd, rfl⟩ := n5.slen
  obtain ⟨f5, _, _, _, c3, _⟩ := FACT.out w5 b15
  have hw' : IntKind.wrap .u64 (s.path.length : Int) = (s.path.length : Int) := wrapU63 _ (by omega) (by have := HSZ.out.2.1; omega)
  have hl5n : l5.length ≤ 100000100 := by
    rw [HL5.out, List.length_append]
    have e1 := numB_le x
    have e3 := prPs_light s.pr HSZ.out.1 2 (Nat.le_refl _)
    omega
  obtain ⟨w6, hw6⟩ : ∃ w6, w6 = w5.alloc (.cells #[.int .u64 (s.path.length : Int)] 94) := ⟨_, rfl⟩
  have b6 : Below w5.heap.size w5 w6 := by rw [hw6]; exact (Below.refl _ _).alloc (Nat.le_refl _) _
  have X3 := num_any l5 (.slice nb l5.length nd) (.slice (some ⟨w5.heap.size, 0, none⟩) 1 1) 1 (fun _ => (s.path.length : Int)) w6 (n5.is.below b6 (Nat.le_refl _)) (by rw [hw6]; exact row_u64 w5 _) (fun i hi => ⟨by omega, by have := HSZ.out.2.1; omega⟩) (by omega)
  rw [show l5 ++ flatTo (numsB fun _ => (s.path.length : Int)) 1 = l5 ++ numB (s.path.length : Int) by simp [flatTo, numsB]] at X3
  have H16 : Hid (Below w1.heap.size w1 w6 ∧ l5.length ≤ 100000100) := (show _ ∧ _ from ⟨b15.trans (b6.mono b15.size), hl5n⟩)
  clear n5 b5 b15 f5 b6 hl5n
  go_wp2_with fail
  rw [← hw6]
  clear hw6 c3
  refine X3.mono ?_
  rintro e w7 ⟨v7, rfl, n7, b7⟩
  clear X3
  obtain ⟨l7, hl7⟩ : ∃ l7, l7 = l5 ++ numB (s.path.length : Int) := ⟨_, rfl⟩
  rw [← hl7] at n7
  have HL7 : Hid (l7 = l5 ++ numB (s.path.length : Int)) := hl7
  clear hl7
  have b17 : Below w1.heap.size w1 w7 := H16.out.1.trans (b7.mono H16.out.1.size)
  obtain ⟨nf, nh, rfl⟩ := n7.slen
  obtain ⟨f7, _, _, _, c3, _, _, has⟩ := FACT.out w7 b17
  have X4 := sums_any l7 (.slice nf l7.length nh) (.slice pa s.path.length pcap) s.path.length (gP s) w7 n7.is (sums_is has) (by
    have e2 := numB_le (s.path.length : Int)
    have e5 := H16.out.2
    have e6 := HSZ.out.2.1
    rw [HL7.out, List.length_append]; omega)
  have H17 : Hid (Below w.heap.size w w7) := (show _ from f7)
  clear n7 b7 b17 f7 has hw hw'
  go_wp2_with fail
  refine X4.mono ?_
  rintro e w8 ⟨v8, rfl, n8, b8⟩
  have FI : Hid (newBytes w8 w.heap.size v8 (spotB s) ∧ Below w.heap.size w w8) := (show _ ∧ _ from ⟨by
    have e : spotB s = l7 ++ flatTo (gP s) s.path.length := by rw [HL7.out, HL5.out, HXE.out]; rfl
    rw [e]; exact n8.mono H17.out.size, H17.out.trans (b8.mono H17.out.size)⟩)
  clear X4 n8 b8 c3
  go_wp2
  go_ret
  exact ⟨_, rfl, FI.out⟩
end Go.Proofs.YtkgegihkhdgdoaaDoor

/- What is read of bytes, and what was written: the pure part. -/
namespace Go.Proofs.YtkgegihkhdgdoaaDoor
set_option linter.unusedSimpArgs false
set_option linter.unusedVariables false
open Go.RowKit Go.Deep

theorem szI_is (x : Int) : (szI x = 0 ∧ x < 1) ∨ (szI x = 1 ∧ 1 ≤ x ∧ x < 256) ∨ (szI x = 2 ∧ 256 ≤ x ∧ x < 65536) ∨ (szI x = 3 ∧ 65536 ≤ x ∧ x < 16777216) ∨ (szI x = 4 ∧ 16777216 ≤ x ∧ x < 4294967296) ∨ (szI x = 5 ∧ 4294967296 ≤ x ∧ x < 1099511627776) ∨ (szI x = 6 ∧ 1099511627776 ≤ x ∧ x < 281474976710656) ∨ (szI x = 7 ∧ 281474976710656 ≤ x ∧ x < 72057594037927936) ∨ (szI x = 8 ∧ 72057594037927936 ≤ x) := by
  unfold szI
  repeat' split
  all_goals omega
theorem szI_pow (x : Int) (h0 : 0 ≤ x) (h1 : x < 18446744073709551616) : x < 256 ^ szI x := by
  unfold szI
  repeat' split
  all_goals (simp only [Int.reducePow]; omega)
theorem horn_digs (x : Int) (h0 : 0 ≤ x) (h1 : x < 18446744073709551616) : horn (digsI x (szI x)) = x := horn_digsI _ x h0 (szI_pow x h0 h1)
theorem digs_mem (x : Int) (k : Nat) (b : Int) (hb : b ∈ digsI x k) : 0 ≤ b ∧ b ≤ 255 := bytes_mem (digsI_byte x k) b hb
theorem horn_cons (a : Int) (l : List Int) : horn (a :: l) = a * 256 ^ l.length + horn l := by
  have key : ∀ (l : List Int) (c : Int), l.foldl (fun a b => a * 256 + b) c = c * 256 ^ l.length + l.foldl (fun a b => a * 256 + b) 0 := by
    intro l
    induction l with
    | nil => intro c; simp
    | cons b l ih =>
      intro c
      rw [List.foldl_cons, List.foldl_cons, ih, ih (0 * 256 + b), List.length_cons, Int.pow_succ]
      rw [Int.add_mul, Int.zero_mul, Int.zero_add, Int.mul_assoc, Int.mul_comm 256, Int.add_assoc]
  unfold horn
  rw [List.foldl_cons, key]
  simp
theorem szI_ge {x : Int} (j : Nat) (hj : j ≤ 7) (h : 256 ^ j ≤ x) : j < szI x := by
  have := szI_is x
  have hc : j = 0 ∨ j = 1 ∨ j = 2 ∨ j = 3 ∨ j = 4 ∨ j = 5 ∨ j = 6 ∨ j = 7 := by omega
  rcases hc with rfl | rfl | rfl | rfl | rfl | rfl | rfl | rfl <;> simp only [Int.reducePow] at h <;> omega
theorem szI_le_of {x : Int} (j : Nat) (hj : j ≤ 8) (h : x < 256 ^ j) : szI x ≤ j := by
  have := szI_is x
  have h8 := szI_le x
  have hc : j = 0 ∨ j = 1 ∨ j = 2 ∨ j = 3 ∨ j = 4 ∨ j = 5 ∨ j = 6 ∨ j = 7 ∨ j = 8 := by omega
  rcases hc with rfl | rfl | rfl | rfl | rfl | rfl | rfl | rfl | rfl <;> simp only [Int.reducePow] at h <;> omega
theorem szI_horn (l : List Int) (hl : l.length ≤ 8) (hb : ∀ b ∈ l, 0 ≤ b ∧ b ≤ 255) : szI (horn l) = l.length ↔ ¬ (0 < l.length ∧ l.getD 0 0 = 0) := by
  cases l with
  | nil => simp [horn]; rfl
  | cons a l =>
    have ha := hb a (by simp)
    obtain ⟨h0, h1⟩ := horn_bound l (fun c hc => hb c (by simp [hc]))
    obtain ⟨g0, g1⟩ := horn_bound (a :: l) hb
    rw [List.length_cons] at hl g1 ⊢
    rw [List.getD_cons_zero]
    have hup := szI_le_of (l.length + 1) hl g1
    constructor
    · rintro h ⟨_, rfl⟩
      rw [horn_cons, Int.zero_mul, Int.zero_add] at h
      have := szI_le_of l.length (by omega) h1
      omega
    · intro h
      have ha1 : 1 ≤ a := by omega
      have : 256 ^ l.length ≤ horn (a :: l) := by
        rw [horn_cons]
        have := Int.mul_le_mul_of_nonneg_right ha1 (show (0 : Int) ≤ 256 ^ l.length from Int.le_of_lt (Int.pow_pos (by omega)))
        omega
      have := szI_ge l.length (by omega) this
      omega
theorem first_take (l : List Int) (h : 0 < l.length) (k : Nat) (hk : l.getD 0 0 = (k : Int)) : l.take (1 + k) = (k : Int) :: (l.drop 1).take k := by
  cases l with
  | nil => simp at h
  | cons a l =>
    rw [List.getD_cons_zero] at hk
    subst hk
    rw [Nat.add_comm, List.take_succ_cons]
    rfl
theorem numB_is (l : List Int) (h : 0 < l.length) (k : Nat) (hk : l.getD 0 0 = (k : Int)) (hk8 : k ≤ 8) (hkl : k < l.length) (hb : ∀ i, 0 ≤ l.getD i 0 ∧ l.getD i 0 ≤ 255) :
    numB (horn ((l.drop 1).take k)) = l.take (1 + k) ↔ ¬ (0 < k ∧ l.getD 1 0 = 0) := by
  have hlen : ((l.drop 1).take k).length = k := by rw [List.length_take, List.length_drop]; omega
  have hmem : ∀ b ∈ (l.drop 1).take k, 0 ≤ b ∧ b ≤ 255 := fun b hb' => bytes_mem (drop_byte hb 1) b (List.mem_of_mem_take hb')
  have hs := szI_horn ((l.drop 1).take k) (by omega) hmem
  rw [hlen] at hs
  have hg : 0 < k → ((l.drop 1).take k).getD 0 0 = l.getD 1 0 := fun hk0 => by rw [getD_take_le _ _ _ hk0, getD_drop]
  rw [first_take l h k hk]
  constructor
  · intro e
    unfold numB at e
    injection e with e1 _
    have := hs.1 (by omega)
    intro ⟨p1, p2⟩
    exact this ⟨p1, by rw [hg p1]; exact p2⟩
  · intro e
    have e2 : szI (horn ((l.drop 1).take k)) = k := hs.2 (fun ⟨p1, p2⟩ => e ⟨p1, by rw [← hg p1]; exact p2⟩)
    unfold numB
    rw [e2, digsI_horn k _ hlen hmem]
theorem numOf_of_big {l : List Int} {most x : Int} {n : Nat} (h : firstB l = some (x, n)) (hx : most < x) : numOf l most = none := by unfold numOf; rw [h]; simp only; rw [if_pos hx]
theorem numOf_of_ok {l : List Int} {most x : Int} {n : Nat} (h : firstB l = some (x, n)) (hx : x ≤ most) : numOf l most = some (x, n) := by unfold numOf; rw [h]; simp only; rw [if_neg (by omega)]
theorem first_append (x : Int) (hx : 0 ≤ x ∧ x < 18446744073709551616) (r : List Int) : firstB (numB x ++ r) = some (x, 1 + szI x) := by
  have h8 := szI_le x
  have hl : (numB x ++ r).length = 1 + szI x + r.length := by rw [List.length_append, numB_length]
  have e0 : (numB x ++ r).getD 0 0 = (szI x : Int) := by rw [numB]; rfl
  have ed : ((numB x ++ r).drop 1).take (szI x) = digsI x (szI x) := by
    rw [numB, List.cons_append, List.drop_succ_cons, List.drop_zero, List.take_append_of_le_length (by simp [digsI]), List.take_of_length_le (by simp [digsI])]
  have et : ((numB x ++ r).getD 0 0).toNat = szI x := by rw [e0]; rfl
  unfold firstB
  rw [if_pos ⟨by omega, by rw [e0]; omega, by rw [e0, hl]; omega⟩, et, ed, horn_digs x hx.1 hx.2, if_neg]
  rintro ⟨p1, p2⟩
  have hh := szI_horn (digsI x (szI x)) (by simp [digsI]; omega) (digs_mem x _)
  rw [horn_digs x hx.1 hx.2] at hh
  have hlen : (digsI x (szI x)).length = szI x := by simp [digsI]
  rw [hlen] at hh
  refine hh.1 rfl ⟨p1, ?_⟩
  have : (numB x ++ r).getD 1 0 = (digsI x (szI x)).getD 0 0 := by
    rw [numB, List.cons_append, List.getD_cons_succ, List.getD_eq_getElem?_getD, List.getElem?_append_left (by omega), ← List.getD_eq_getElem?_getD]
  rw [← this]; exact p2
theorem num_back (x : Int) (hx : 0 ≤ x ∧ x < 18446744073709551616) (r : List Int) (most : Int) (hm : x ≤ most) : numR (numB x ++ r) false most = (x, r, false) := by
  unfold numR
  rw [numOf_of_ok (first_append x hx r) hm]
  simp only [Bool.false_eq_true, if_false]
  rw [List.drop_append_of_le_length (by rw [numB_length]; omega), List.drop_of_length_le (by rw [numB_length]; omega), List.nil_append]
theorem part_back (p r : List Int) (hp : p.length ≤ 1000000) (most : Int) (hm : (p.length : Int) ≤ most) : partR (blobB p ++ r) false most = (p, r, false) := by
  have hx : 0 ≤ (p.length : Int) ∧ (p.length : Int) < 18446744073709551616 := by omega
  have e : blobB p ++ r = numB p.length ++ (p ++ r) := by rw [blobB, List.append_assoc]
  have hd : (numB p.length ++ (p ++ r)).drop (1 + szI p.length) = p ++ r := by
    rw [List.drop_append_of_le_length (by rw [numB_length]; omega), List.drop_of_length_le (by rw [numB_length]; omega), List.nil_append]
  unfold partR
  rw [if_neg (by simp; omega), e, numOf_of_ok (first_append _ hx _) hm]
  simp only
  rw [if_neg (by rw [List.length_append, List.length_append, numB_length]; omega), hd, Int.toNat_natCast]
  simp
theorem sum_back (g r : List Int) (hg : g.length = 32) : sumR (g ++ r) false = (g, r, false) := by
  unfold sumR
  rw [if_neg (by simp; omega), List.take_append_of_le_length (by omega), List.take_of_length_le (by omega), List.drop_append_of_le_length (by omega), List.drop_of_length_le (by omega), List.nil_append]
theorem firstB_num {l : List Int} {x : Int} {n : Nat} (hb : ∀ i, 0 ≤ l.getD i 0 ∧ l.getD i 0 ≤ 255) (h : firstB l = some (x, n)) : numB x = l.take n := by
  unfold firstB at h
  by_cases h1 : 0 < l.length ∧ l.getD 0 0 ≤ 8 ∧ l.getD 0 0 < l.length
  · rw [if_pos h1] at h
    by_cases h2 : 0 < (l.getD 0 0).toNat ∧ l.getD 1 0 = 0
    · rw [if_pos h2] at h; cases h
    · rw [if_neg h2] at h
      have h3 := Option.some.inj h
      rw [Prod.mk.injEq] at h3
      obtain ⟨e1, e2⟩ := h3
      have hb0 := hb 0
      rw [← e1, ← e2]
      exact (numB_is l h1.1 (l.getD 0 0).toNat (by omega) (by omega) (by omega) hb).2 h2
  · rw [if_neg h1] at h; cases h
end Go.Proofs.YtkgegihkhdgdoaaDoor

/- keyed.Bytes. -/
namespace Go.Proofs.YtkgegihkhdgdoaaDoor
set_option linter.unusedSimpArgs false
set_option linter.unusedVariables false
open Go.RowKit Go.Deep

def spsB (y : Nat → Sp) (i : Nat) : List Int := spotB (y i)
/-- the bytes of what is shown. -/
def seenB (cnt : Int) (m : Nat) (y : Nat → Sp) : List Int := (numB (u64I cnt) ++ numB (m : Int)) ++ flatTo (spsB y) m
def twoN (x y : Int) (i : Nat) : Int := if i = 0 then x else y
theorem row_u64s (w : World) (x y : Int) : isRow (w.alloc (.cells #[.int .u64 x, .int .u64 y] 94)) (.slice (some ⟨w.heap.size, 0, none⟩) 2 2) 2 (fun i => .int .u64 (twoN x y i)) := by
  refine Or.inr ⟨w.heap.size, 0, 2, rfl, by simp, by decide, fun i hi => ?_⟩
  have : i = 0 ∨ i = 1 := by omega
  rcases this with rfl | rfl
  · rw [cell_of_row _ _ _ _ _ _ (blk_alloc_new w (.cells #[.int .u64 x, .int .u64 y] 94))]; rfl
  · rw [cell_of_row _ _ _ _ _ _ (blk_alloc_new w (.cells #[.int .u64 x, .int .u64 y] 94))]; rfl
theorem flatTo_most (f : Nat → List Int) (b : Nat) : ∀ k, (∀ i, i < k → (f i).length ≤ b) → (flatTo f k).length ≤ b * k
  | 0, _ => by simp [flatTo]
  | k + 1, h => by
    have h1 := flatTo_most f b k (fun i hi => h i (by omega))
    have h2 := h k (by omega)
    rw [flatTo, List.length_append, Nat.mul_succ]; omega
set_option maxHeartbeats 4000000 in
set_option maxRecDepth 100000 in
theorem kbytes_any (ah : List Int) (hv : Value) (cnt : Int) (m : Nat) (sv : Value) (y : Nat → Sp) (w : World) (hah : isBytes w hv ah) (hal : ah.length ≤ 1000000) (hp : spotsAt w sv m y) (hm : m ≤ 10) (hx : ∀ i, i < m → (y i).pr.1.length + (y i).pr.2.length ≤ 1000000 ∧ (y i).path.length ≤ 1000) :
    Calls Tryd.prog 24 #[hv, .agg #[.int .i64 cnt, sv]] w fun e w' => ∃ v, e = .returned v ∧ newBytes w' w.heap.size v (ah ++ seenB cnt m y) ∧ Below w.heap.size w w' := by
  have hzsp := zero_sp
  obtain ⟨a, cap, hsv, hmc, hcm, _⟩ := (id hp : spotsAt w sv m y)
  have hmm : (m : Int) ≤ 10 := by omega
  have hm0 : (0 : Int) ≤ (m : Int) := by omega
  subst hsv
  obtain ⟨w1, hw1⟩ : ∃ w1, w1 = w.alloc (.cells #[.int .i64 cnt, .slice a m cap] 29) := ⟨_, rfl⟩
  have b1 : Below w.heap.size w w1 := by rw [hw1]; exact (Below.refl _ _).alloc (Nat.le_refl _) _
  have hbk : w1.heap[w.heap.size]? = some (.cells #[.int .i64 cnt, .slice a m cap] 29) := by rw [hw1, blk_alloc_new]
  have c0 : w1.cell? ⟨w.heap.size, 0, none⟩ = some (.int .i64 cnt) := by rw [cell_of_row _ _ _ _ _ _ hbk]; rfl
  have c1 : w1.cell? ⟨w.heap.size, 1, none⟩ = some (.slice a m cap) := by rw [cell_of_row _ _ _ _ _ _ hbk]; rfl
  obtain ⟨x, hxe⟩ : ∃ x, x = u64I cnt := ⟨_, rfl⟩
  have hw : IntKind.wrap .u64 cnt = x := by rw [hxe]; exact wrap_u64I _
  have hwm : IntKind.wrap .u64 (m : Int) = (m : Int) := wrapU63 _ hm0 (by omega)
  have hxi : 0 ≤ x ∧ x < 18446744073709551616 := by rw [hxe]; exact u64I_in _
  have HXE : Hid (x = u64I cnt) := hxe
  obtain ⟨w2, hw2⟩ : ∃ w2, w2 = w1.alloc (.cells #[.int .u64 x, .int .u64 (m : Int)] 94) := ⟨_, rfl⟩
  have b2 : Below w1.heap.size w1 w2 := by rw [hw2]; exact (Below.refl _ _).alloc (Nat.le_refl _) _
  have X1 := num_any ah hv (.slice (some ⟨w1.heap.size, 0, none⟩) 2 2) 2 (twoN x (m : Int)) w2 (hah.below (b1.trans (b2.mono b1.size)) (Nat.le_refl _)) (by rw [hw2]; exact row_u64s w1 x _) (fun i hi => by
    unfold twoN; split
    · exact hxi
    · omega) (by omega)
  rw [show flatTo (numsB (twoN x (m : Int))) 2 = numB x ++ numB (m : Int) by simp [flatTo, numsB, twoN]] at X1
  have H12 : Hid (Below w.heap.size w w1 ∧ Below w1.heap.size w1 w2) := (show _ ∧ _ from ⟨b1, b2⟩)
  have HP : Hid (spotsAt w (.slice a m cap) m y ∧ (∀ i, i < m → (y i).pr.1.length + (y i).pr.2.length ≤ 1000000 ∧ (y i).path.length ≤ 1000) ∧ m ≤ 10 ∧ ah.length ≤ 1000000) := (show _ ∧ _ ∧ _ ∧ _ from ⟨hp, hx, hm, hal⟩)
  have HC1 : Hid (w1.cell? ⟨w.heap.size, 1, none⟩ = some (.slice a m cap)) := c1
  obtain ⟨va, vcap, rfl, _⟩ := hah.slice
  clear hah hal hp hx hmc hcm b1 b2 hbk hxe
  go_enter Tryd.func24, Tryd.ntmps24
  go_upto_region 1 with fail
  rw [← hw1]
  clear hw1
  go_wp2_with fail
  rw [← hw2]
  clear hw2
  refine X1.mono ?_
  rintro e w3 ⟨v3, rfl, n3, b3⟩
  clear X1
  have b13 : Below w1.heap.size w1 w3 := H12.out.2.trans (b3.mono H12.out.2.size)
  have c13 : w3.cell? ⟨w.heap.size, 1, none⟩ = some (.slice a m cap) := (b13.cell (p := ⟨w.heap.size, 1, none⟩) (block_lt_of_cell HC1.out)).trans HC1.out
  obtain ⟨l3, hl3⟩ : ∃ l3, l3 = ah ++ (numB x ++ numB (m : Int)) := ⟨_, rfl⟩
  rw [← hl3] at n3
  have HL3 : Hid (l3 = ah ++ (numB x ++ numB (m : Int)) ∧ l3.length ≤ 1000100) := (show _ ∧ _ from ⟨hl3, by
    rw [hl3, List.length_append, List.length_append]
    have e1 := numB_le x
    have e2 := numB_le (m : Int)
    have e3 := HP.out.2.2.2
    omega⟩)
  have N3 : Hid (newBytes w3 w.heap.size v3 l3 ∧ Below w.heap.size w w3) := (show _ ∧ _ from ⟨n3.mono (by have := H12.out.1.size; have := H12.out.2.size; omega), H12.out.1.trans (b13.mono H12.out.1.size)⟩)
  clear n3 b3 hl3 b13 c0 c1 hw hwm
  go_wp2_with fail
  go_loopw [5, 21] (fun vv i wr => ∃ k : Nat, k ≤ m ∧ i = .int .i64 (k : Int) ∧ newBytes wr w.heap.size vv (l3 ++ flatTo (spsB y) k) ∧ Below w.heap.size w wr) (fun _ i _ => m - (intOf i).toNat)
  case atStart => exact ⟨0, by omega, rfl, by rw [flatTo, List.append_nil]; exact N3.out.1, N3.out.2⟩
  case round =>
    obtain ⟨k, hkm, rfl, hn, hbr⟩ := hrel
    have p0 : (0 : Int) ≤ (k : Int) := by omega
    have HN : Hid (newBytes wr w.heap.size u5 (l3 ++ flatTo (spsB y) k)) := (show _ from hn)
    have HBR : Hid (Below w.heap.size w wr) := (show Below w.heap.size w wr from hbr)
    clear hn
    by_cases hlt : k < m
    · have p1 : (k : Int) < (m : Int) := by omega
      obtain ⟨g, o, cap', e, hg, hcell⟩ := HP.out.1.at (by omega)
      injection e with e1 e2 e3
      subst e1
      subst e3
      obtain ⟨ka, kcap, va2, vcap2, pa, pcap, hin, H⟩ := hcell k hlt
      have hc4 : ∀ i, i < 4 → wr.cell? ⟨g, o + k * 4 + i, none⟩ = some (spG (y k).at_ (.slice ka (y k).pr.1.length kcap) (.slice va2 (y k).pr.2.length vcap2) (.slice pa (y k).path.length pcap) i) := fun i hi => by
        obtain ⟨q0, q1, q2, q3, _⟩ := H wr hbr
        have : i = 0 ∨ i = 1 ∨ i = 2 ∨ i = 3 := by omega
        rcases this with rfl | rfl | rfl | rfl
        · exact q0
        · exact q1
        · exact q2
        · exact q3
      obtain ⟨wq, hwq⟩ : ∃ wq, wq = wr.alloc (.cells (rowV 4 spZ) 41) := ⟨_, rfl⟩
      have bq : Below wr.heap.size wr wq := by rw [hwq]; exact (Below.refl _ _).alloc (Nat.le_refl _) _
      have rq : wq.rowIs wr.heap.size 41 4 spZ := by rw [hwq]; exact rowIs_box _ _ _ _
      have RQ : Hid (wq.rowIs wr.heap.size 41 4 spZ ∧ Below wr.heap.size wr wq) := (show _ ∧ _ from ⟨rq, bq⟩)
      have HF : Hid (∀ wz, Below w.heap.size w wz → anyBytes wz (.slice ka (y k).pr.1.length kcap) (y k).pr.1 ∧ anyBytes wz (.slice va2 (y k).pr.2.length vcap2) (y k).pr.2 ∧ sumsAt wz (.slice pa (y k).path.length pcap) (y k).path) := (show _ from fun wz hz => (H wz hz).2.2.2.2)
      have HIN : Hid (inI64 (y k).at_) := (show _ from hin)
      clear hcell H hbr bq rq hg hin
      go_upto_region 5 with (first | (refine wpList_load_seg rfl 41 _ rfl g (o + k * 4) 4 (spG (y k).at_ (.slice ka (y k).pr.1.length kcap) (.slice va2 (y k).pr.2.length vcap2) (.slice pa (y k).path.length pcap)) rfl _ Tryd.underlying41 rfl hiSp hc4 ?_) | (rw [← hwq]; clear hwq; refine wpList_store_row rfl 41 _ _ rfl rfl wr.heap.size 0 4 (spG (y k).at_ (.slice ka (y k).pr.1.length kcap) (.slice va2 (y k).pr.2.length vcap2) (.slice pa (y k).path.length pcap)) rfl rfl hiSp (spG_one _ _ _ _ _ _ _ _ _ _) _ _ _ RQ.out.1 (by omega) ?_; intro w5 r5 z5 b5))
      have r5' : w5.rowIs wr.heap.size 41 4 (spG (y k).at_ (.slice ka (y k).pr.1.length kcap) (.slice va2 (y k).pr.2.length vcap2) (.slice pa (y k).path.length pcap)) := r5.congr (fun i hi => by rw [if_pos (by omega), Nat.sub_zero])
      have l5 : ∀ i, i < 4 → w5.cell? ⟨wr.heap.size, 0 + i, none⟩ = some (spG (y k).at_ (.slice ka (y k).pr.1.length kcap) (.slice va2 (y k).pr.2.length vcap2) (.slice pa (y k).path.length pcap) i) := fun i hi => by rw [Nat.zero_add]; exact r5'.cell hi
      have bw5 : Below wr.heap.size wr w5 := RQ.out.2.trans (b5.below' (Nat.le_refl _) RQ.out.2.size)
      have H5 : Hid (Below wr.heap.size wr w5) := (show _ from bw5)
      obtain ⟨f1, f2, f3⟩ := HF.out w5 (HBR.out.trans (bw5.mono HBR.out.size))
      have XS := kspotb_any (y k) _ _ _ w5 f1 f2 f3 HIN.out (HP.out.2.1 k hlt).1 (HP.out.2.1 k hlt).2
      have HPS : Hid ((spotB (y k)).length ≤ 2000000) := (show _ from spotB_le (y k) (HP.out.2.1 k hlt).1 (HP.out.2.1 k hlt).2 f3.1)
      clear r5 r5' z5 b5 bw5 f1 f2 f3 hc4
      go_wp2_with (first | (refine wpList_load_seg rfl 41 _ rfl wr.heap.size 0 4 (spG (y k).at_ (.slice ka (y k).pr.1.length kcap) (.slice va2 (y k).pr.2.length vcap2) (.slice pa (y k).path.length pcap)) rfl _ Tryd.underlying41 rfl hiSp l5 ?_))
      refine XS.mono ?_
      rintro e w6 ⟨v6, rfl, n6, b6⟩
      clear XS l5
      have b06 : Below wr.heap.size wr w6 := H5.out.trans (b6.mono H5.out.size)
      have hn6 : newBytes w6 w.heap.size u5 (l3 ++ flatTo (spsB y) k) := HN.out.below b06 (Nat.le_refl _)
      obtain ⟨v', w7, hr, hn7, hg7, _⟩ := any_append_run w6 w.heap.size u5 v6 _ (spotB (y k)) hn6 (Or.inl n6.is) (by
        have e1 := flatTo_most (spsB y) 2000000 k (fun i hi => spotB_le (y i) (HP.out.2.1 i (by omega)).1 (HP.out.2.1 i (by omega)).2 (by
          obtain ⟨g2, o2, _, _, _, hc⟩ := HP.out.1.at (by omega)
          obtain ⟨_, _, _, _, _, _, _, H⟩ := hc i (by omega)
          exact (H w (Below.refl _ _)).2.2.2.2.2.2.1))
        have e2 := HL3.out.2
        have e3 := HPS.out
        have e4 := HP.out.2.2.1
        rw [List.length_append]
        omega) (by have := HBR.out.size; have := b06.size; omega)
      have FI : Hid (newBytes w7 w.heap.size v' (l3 ++ flatTo (spsB y) (k + 1)) ∧ Below w.heap.size w w7) := (show _ ∧ _ from ⟨by rw [flatTo, ← List.append_assoc]; exact hn7, (HBR.out.trans (b06.mono HBR.out.size)).trans (below_grown hg7 (fun j hj => (hn6.block j hj).1) (by have := HBR.out.size; have := b06.size; omega))⟩)
      clear n6 b6 b06 hn6 hn7 hg7
      go_wp2_with (first | (at_builtin; refine wpList_append_run rfl (.tmp 25) (.tmp 27) _ rfl rfl rfl hr ?_))
      go_light
      exact ⟨⟨k + 1, by omega, by go_num, FI.out.1, FI.out.2⟩, by simp [intOf]; omega⟩
    · obtain rfl : k = m := by omega
      have p1 : ¬ (k : Int) < (k : Int) := by omega
      have FI : Hid (newBytes wr w.heap.size u5 (ah ++ seenB cnt k y)) := (show _ from by
        have e : ah ++ seenB cnt k y = l3 ++ flatTo (spsB y) k := by rw [HL3.out.1, HXE.out]; unfold seenB; simp only [List.append_assoc]
        rw [e]; exact HN.out)
      clear hbr
      go_wp2
      go_ret
      exact ⟨_, rfl, FI.out, HBR.out⟩
end Go.Proofs.YtkgegihkhdgdoaaDoor

/- What is read of bytes as what is shown: the pure part. -/
namespace Go.Proofs.YtkgegihkhdgdoaaDoor
set_option linter.unusedSimpArgs false
set_option linter.unusedVariables false
open Go.RowKit Go.Deep

/-- bytes. -/
def byL (l : List Int) : Prop := ∀ i, 0 ≤ l.getD i 0 ∧ l.getD i 0 ≤ 255
theorem byL.drop {l : List Int} (h : byL l) (n : Nat) : byL (l.drop n) := drop_byte h n
theorem byL.take {l : List Int} (h : byL l) (n : Nat) : byL (l.take n) := take_byte h n
theorem sumR_bad (l : List Int) : sumR l true = (List.replicate 32 0, l, true) := rfl
/-- a number that is read stands there. -/
theorem numR_ok {l : List Int} {b : Bool} {most : Int} (hb : byL l) (h : (numR l b most).2.2 = false) :
    b = false ∧ l = numB (numR l b most).1 ++ (numR l b most).2.1 ∧ 0 ≤ (numR l b most).1 ∧ (numR l b most).1 ≤ most ∧ (numR l b most).1 < 18446744073709551616 := by
  cases b with
  | true => cases h
  | false =>
    unfold numR at h ⊢
    simp only [Bool.false_eq_true, if_false] at h ⊢
    cases hn : numOf l most with
    | none => rw [hn] at h; cases h
    | some q =>
      obtain ⟨x, n⟩ := q
      obtain ⟨f1, f2⟩ := numOf_first hn
      obtain ⟨g1, g2, g3, g4, g5, g6⟩ := firstB_some hb f1
      simp only
      exact ⟨trivial, by rw [firstB_num hb f1, List.take_append_drop], g4, f2, g5⟩
theorem numR_in (l : List Int) (b : Bool) (most : Int) (hb : byL l) (hm : 0 ≤ most) : 0 ≤ (numR l b most).1 ∧ (numR l b most).1 ≤ most := by
  cases hf : (numR l b most).2.2 with
  | false => have := numR_ok hb hf; exact ⟨this.2.2.1, this.2.2.2.1⟩
  | true =>
    unfold numR at hf ⊢
    split
    · exact ⟨Int.le_refl _, hm⟩
    · rename_i h1
      rw [if_neg h1] at hf
      cases hn : numOf l most with
      | none => exact ⟨Int.le_refl _, hm⟩
      | some q => rw [hn] at hf; cases hf
/-- what does not stand there is a fault. -/
theorem num_over (x : Int) (hx : 0 ≤ x ∧ x < 18446744073709551616) (r : List Int) (most : Int) (hm : most < x) : (numR (numB x ++ r) false most).2.2 = true := by
  unfold numR
  rw [numOf_of_big (first_append x hx r) hm]
  rfl
theorem part_over (p r : List Int) (hp : p.length ≤ 1000000) (most : Int) (hm : most < (p.length : Int)) : (partR (blobB p ++ r) false most).2.2 = true := by
  have e : blobB p ++ r = numB p.length ++ (p ++ r) := by rw [blobB, List.append_assoc]
  unfold partR
  split
  · rfl
  · rw [e, numOf_of_big (first_append _ (by omega) _) hm]
theorem byL.append {a r : List Int} (ha : byL a) (hr : byL r) : byL (a ++ r) := fun i => by
  rw [List.getD_eq_getElem?_getD]
  rcases Nat.lt_or_ge i a.length with h | h
  · rw [List.getElem?_append_left h, ← List.getD_eq_getElem?_getD]; exact ha i
  · rw [List.getElem?_append_right h, ← List.getD_eq_getElem?_getD]; exact hr _
/-- n sums, one behind the other: what is left, whether there was a fault. -/
def sumsSt (l : List Int) (b : Bool) : Nat → List Int × Bool
  | 0 => (l, b)
  | n + 1 => (sumR (sumsSt l b n).1 (sumsSt l b n).2).2
def sumsEl (l : List Int) (b : Bool) (k : Nat) : List Int := (sumR (sumsSt l b k).1 (sumsSt l b k).2).1
def sumsL (l : List Int) (b : Bool) (n : Nat) : List (List Int) := (List.range n).map (sumsEl l b)
theorem sumsL_succ (l : List Int) (b : Bool) (n : Nat) : sumsL l b (n + 1) = sumsL l b n ++ [sumsEl l b n] := by simp [sumsL, List.range_succ]
theorem sumsL_len (l : List Int) (b : Bool) (n : Nat) : (sumsL l b n).length = n := by simp [sumsL]
theorem sumR_left {l : List Int} {b : Bool} (hb : byL l) : byL (sumR l b).2.1 := by
  unfold sumR
  split
  · exact hb
  · exact hb.drop 32
theorem sumR_sum {l : List Int} {b : Bool} (hb : byL l) : isSum (sumR l b).1 := by
  refine ⟨sumR_length _ _, ?_⟩
  unfold sumR
  split
  · intro i; rw [getD_zeros]; omega
  · exact hb.take 32
theorem sumsSt_by {l : List Int} {b : Bool} (hb : byL l) : ∀ n, byL (sumsSt l b n).1
  | 0 => hb
  | n + 1 => sumR_left (sumsSt_by hb n)
theorem sumR_short (l : List Int) (b : Bool) : (sumR l b).2.1.length ≤ l.length := by
  unfold sumR
  split
  · exact Nat.le_refl _
  · simp
theorem sumsSt_short (l : List Int) (b : Bool) : ∀ n, (sumsSt l b n).1.length ≤ l.length
  | 0 => Nat.le_refl _
  | n + 1 => Nat.le_trans (sumR_short _ _) (sumsSt_short l b n)
theorem sumsSt_bad (l : List Int) : ∀ n, sumsSt l true n = (l, true)
  | 0 => rfl
  | n + 1 => by rw [sumsSt, sumsSt_bad l n, sumR_bad]
theorem sums_back (g : Nat → List Int) (r : List Int) : ∀ n, (∀ i, i < n → (g i).length = 32) → ∀ k, k ≤ n → ∃ q, flatTo g n = flatTo g k ++ q ∧ sumsSt (flatTo g n ++ r) false k = (q ++ r, false) ∧ ∀ i, i < k → sumsEl (flatTo g n ++ r) false i = g i := by
  intro n hg k
  induction k with
  | zero => intro _; exact ⟨flatTo g n, by rw [flatTo, List.nil_append], rfl, fun i hi => by omega⟩
  | succ k ih =>
    intro hk
    obtain ⟨q, h1, h2, h3⟩ := ih (by omega)
    obtain ⟨q', hq'⟩ : ∃ q', q = g k ++ q' := by
      have hsp : ∀ n, k < n → ∃ r, flatTo g n = flatTo g k ++ (g k ++ r) := by
        intro n
        induction n with
        | zero => intro h; omega
        | succ n ihn =>
          intro h
          by_cases e : k = n
          · subst e; exact ⟨[], by rw [flatTo, List.append_nil]⟩
          · obtain ⟨r, hr⟩ := ihn (by omega)
            exact ⟨r ++ g n, by rw [flatTo, hr, List.append_assoc, List.append_assoc]⟩
      obtain ⟨r', hr'⟩ := hsp n (by omega)
      rw [hr'] at h1
      exact ⟨r', (List.append_cancel_left h1).symm⟩
    subst hq'
    have hs := sum_back (g k) (q' ++ r) (hg k (by omega))
    have hEl : sumsEl (flatTo g n ++ r) false k = g k := by
      unfold sumsEl; rw [h2]; simp only; rw [List.append_assoc, hs]
    refine ⟨q', by rw [h1, flatTo, List.append_assoc], ?_, fun i hi => ?_⟩
    · show (sumR (sumsSt (flatTo g n ++ r) false k).1 (sumsSt (flatTo g n ++ r) false k).2).2 = _
      rw [h2]
      simp only
      rw [List.append_assoc, hs]
    · by_cases e : i < k
      · exact h3 i e
      · obtain rfl : i = k := by omega
        exact hEl
end Go.Proofs.YtkgegihkhdgdoaaDoor

/- What is read of bytes as what is shown: spots. -/
namespace Go.Proofs.YtkgegihkhdgdoaaDoor
set_option linter.unusedSimpArgs false
set_option linter.unusedVariables false
open Go.RowKit Go.Deep

theorem numR_byL {l : List Int} {b : Bool} {most : Int} (hb : byL l) : byL (numR l b most).2.1 := by
  unfold numR
  split
  · exact hb
  · cases hn : numOf l most with
    | none => exact hb
    | some q => exact hb.drop _
theorem partR_byL {l : List Int} {b : Bool} {most : Int} (hb : byL l) : byL (partR l b most).2.1 ∧ byL (partR l b most).1 := by
  have hn0 : byL [] := fun i => by simp
  unfold partR
  split
  · exact ⟨hb, hn0⟩
  · cases hn : numOf l most with
    | none => exact ⟨hb, hn0⟩
    | some q =>
      obtain ⟨x, n⟩ := q
      simp only
      split
      · exact ⟨hb, hn0⟩
      · exact ⟨(hb.drop _).drop _, (hb.drop _).take _⟩
/-- the steps of cutSpot. -/
def sp1 (l : List Int) (b : Bool) : Int × List Int × Bool := numR l b 2147483647
def sp2 (l : List Int) (b : Bool) : List Int × List Int × Bool := partR (sp1 l b).2.1 (sp1 l b).2.2 256
def sp3 (l : List Int) (b : Bool) : List Int × List Int × Bool := partR (sp2 l b).2.1 (sp2 l b).2.2 1048576
def sp4 (l : List Int) (b : Bool) : Int × List Int × Bool := numR (sp3 l b).2.1 (sp3 l b).2.2 32
def sp5 (l : List Int) (b : Bool) (k : Nat) : List Int × Bool := sumsSt (sp4 l b).2.1 (sp4 l b).2.2 k
/-- a spot that is read; what is left, whether there was a fault. -/
def spotR (l : List Int) (b : Bool) : Sp := ⟨(sp1 l b).1, ((sp2 l b).1, (sp3 l b).1), sumsL (sp4 l b).2.1 (sp4 l b).2.2 (sp4 l b).1.toNat⟩
def spotE (l : List Int) (b : Bool) : List Int × Bool := sp5 l b (sp4 l b).1.toNat
def spotsSt (l : List Int) (b : Bool) : Nat → List Int × Bool
  | 0 => (l, b)
  | n + 1 => spotE (spotsSt l b n).1 (spotsSt l b n).2
def spotsEl (l : List Int) (b : Bool) (k : Nat) : Sp := spotR (spotsSt l b k).1 (spotsSt l b k).2
/-- the steps of cutSeen. -/
def se1 (l : List Int) : Int × List Int × Bool := numR l false 2147483647
def se2 (l : List Int) : Int × List Int × Bool := numR (se1 l).2.1 (se1 l).2.2 2
def seC (l : List Int) : Int := (se1 l).1
def seM (l : List Int) : Nat := (se2 l).1.toNat
def seY (l : List Int) (k : Nat) : Sp := spotsEl (se2 l).2.1 (se2 l).2.2 k
def seSt (l : List Int) (k : Nat) : List Int × Bool := spotsSt (se2 l).2.1 (se2 l).2.2 k
def seE (l : List Int) : List Int × Bool := seSt l (seM l)

theorem sp1_by {l : List Int} {b : Bool} (hb : byL l) : byL (sp1 l b).2.1 := numR_byL hb
theorem sp2_by {l : List Int} {b : Bool} (hb : byL l) : byL (sp2 l b).2.1 := (partR_byL (sp1_by hb)).1
theorem sp3_by {l : List Int} {b : Bool} (hb : byL l) : byL (sp3 l b).2.1 := (partR_byL (sp2_by hb)).1
theorem sp4_by {l : List Int} {b : Bool} (hb : byL l) : byL (sp4 l b).2.1 := numR_byL (sp3_by hb)
theorem sp5_by {l : List Int} {b : Bool} (hb : byL l) (k : Nat) : byL (sp5 l b k).1 := sumsSt_by (sp4_by hb) k
theorem sp1_le (l : List Int) (b : Bool) : (sp1 l b).2.1.length ≤ l.length := numR_left _ _ _
theorem sp2_le (l : List Int) (b : Bool) : (sp2 l b).2.1.length ≤ l.length := Nat.le_trans (partR_left _ _ _) (sp1_le l b)
theorem sp3_le (l : List Int) (b : Bool) : (sp3 l b).2.1.length ≤ l.length := Nat.le_trans (partR_left _ _ _) (sp2_le l b)
theorem sp4_le (l : List Int) (b : Bool) : (sp4 l b).2.1.length ≤ l.length := Nat.le_trans (numR_left _ _ _) (sp3_le l b)
theorem sp5_le (l : List Int) (b : Bool) (k : Nat) : (sp5 l b k).1.length ≤ l.length := Nat.le_trans (sumsSt_short _ _ _) (sp4_le l b)
theorem sp4_in {l : List Int} {b : Bool} (hb : byL l) : 0 ≤ (sp4 l b).1 ∧ (sp4 l b).1 ≤ 32 := numR_in _ _ _ (sp3_by hb) (by omega)
theorem sp1_in {l : List Int} {b : Bool} (hb : byL l) : 0 ≤ (sp1 l b).1 ∧ (sp1 l b).1 ≤ 2147483647 := numR_in _ _ _ hb (by omega)
theorem spotE_by {l : List Int} {b : Bool} (hb : byL l) : byL (spotE l b).1 := sp5_by hb _
theorem spotE_le (l : List Int) (b : Bool) : (spotE l b).1.length ≤ l.length := sp5_le _ _ _
theorem spotsSt_by {l : List Int} {b : Bool} (hb : byL l) : ∀ n, byL (spotsSt l b n).1
  | 0 => hb
  | n + 1 => spotE_by (spotsSt_by hb n)
theorem spotsSt_le (l : List Int) (b : Bool) : ∀ n, (spotsSt l b n).1.length ≤ l.length
  | 0 => Nat.le_refl _
  | n + 1 => Nat.le_trans (spotE_le _ _) (spotsSt_le l b n)
theorem se1_by {l : List Int} (hb : byL l) : byL (se1 l).2.1 := numR_byL hb
theorem se2_by {l : List Int} (hb : byL l) : byL (se2 l).2.1 := numR_byL (se1_by hb)
theorem se2_le (l : List Int) : (se2 l).2.1.length ≤ l.length := Nat.le_trans (numR_left _ _ _) (numR_left _ _ _)
theorem se2_in {l : List Int} (hb : byL l) : 0 ≤ (se2 l).1 ∧ (se2 l).1 ≤ 2 := numR_in _ _ _ (se1_by hb) (by omega)
theorem se1_in {l : List Int} (hb : byL l) : 0 ≤ (se1 l).1 ∧ (se1 l).1 ≤ 2147483647 := numR_in _ _ _ hb (by omega)
theorem seSt_by {l : List Int} (hb : byL l) (k : Nat) : byL (seSt l k).1 := spotsSt_by (se2_by hb) k
theorem seSt_le (l : List Int) (k : Nat) : (seSt l k).1.length ≤ l.length := Nat.le_trans (spotsSt_le _ _ _) (se2_le l)
/-- a spot that is read stands there. -/
theorem u64I_id {x : Int} (h0 : 0 ≤ x) (h1 : x ≤ 2147483647) : u64I x = x := by unfold u64I; omega
end Go.Proofs.YtkgegihkhdgdoaaDoor

/- A region that draws its order, in two stages: until its first store (operation s) S holds; every read waits for none of the stores, every store waits for all reads. -/
namespace Go.Proofs.YtkgegihkhdgdoaaDoor
open Go.RowKit Go.Deep

section
variable {P : Program} {md : Region.Mode} {ops : Array Oper} {Q : Exit → Act → World → Prop} {J : Nat → World → Prop}
/-- whatever order is picked from here on; S holds behind every operation ahead of s. -/
def wpAnyT (P : Program) (md : Region.Mode) (ops : Array Oper) (Q : Exit → Act → World → Prop) (J : Nat → World → Prop) : Nat → Array Bool → Act → World → Prop
  | 0, listed, a, w => Region.ready md ops listed = [] ∧ Q .normal a w
  | fuel + 1, listed, a, w =>
    (Region.ready md ops listed = [] → Q .normal a w) ∧
    ∀ i ∈ Region.ready md ops listed, wpOp P ops Q i (fun a' w' => (∀ s, (listed.setIfInBounds i true).getD s true = false → J s w') ∧ wpAnyT P md ops Q J fuel (listed.setIfInBounds i true) a' w') a w
theorem wpAny_of_T : ∀ (fuel : Nat) (listed : Array Bool) (a : Act) (w : World), wpAnyT P md ops Q J fuel listed a w → wpAny P md ops Q fuel listed a w
  | 0, _, _, _, h => h
  | fuel + 1, _, _, _, h => ⟨h.1, fun i hi => wpOp_mono (fun a' w' h' => wpAny_of_T fuel _ a' w' h'.2) (h.2 i hi)⟩
theorem wpAnyT_first {i : Nat} {oi : Oper} {v : Value} (σ : List Nat) (hi : ops[i]? = some oi) (hsel : ∀ (j : Nat) (o : Oper) cs b, ops[j]? = some o → o.op ≠ .select cs b)
    (hQ : ∀ c a w, Q (.panic c) (a.put oi.dst v) w → Q (.panic c) a w) (hJi : ∀ w, J i w) (hwait : ∀ s ∈ σ, s ≠ i ∧ ∃ os, ops[s]? = some os ∧ ∃ e ∈ os.after, Region.binds md e = true ∧ e.on = i) :
    ∀ (fuel : Nat) (listed : Array Bool) (a : Act) (w : World),
      (∀ j oj, ops[j]? = some oj → j ≠ i → listed.getD j true = false → (∀ e ∈ oj.after, Region.binds md e = true → e.on ≠ i) → oi.apart ops oj = true) →
      i ∈ Region.ready md ops listed → YieldsIf P ops (fun w => ∀ s ∈ σ, J s w) oi v a → (∀ s, listed.getD s true = false → J s w) → (∀ s ∈ σ, listed.getD s true = false) →
      wpAnyT P md ops Q J fuel (listed.setIfInBounds i true) (a.put oi.dst v) w → wpAnyT P md ops Q J (fuel + 1) listed a w := by
  intro fuel
  induction fuel with
  | zero =>
    intro listed a w _ hr hy hS hs H
    refine ⟨fun h => (by rw [h] at hr; cases hr), fun j hj => ?_⟩
    by_cases hji : j = i
    · subst hji
      refine hy.wpOp hi (fun s h => hS s (hs s h)) ⟨fun s h => ?_, H⟩
      by_cases e : j = s
      · rw [← e]; exact hJi w
      · exact hS s (by rw [getD_set_ne true e] at h; exact h)
    · have := ready_mono hj hji
      rw [H.1] at this
      cases this
  | succ fuel ih =>
    intro listed a w hfree hr hy hS hs H
    refine ⟨fun h => (by rw [h] at hr; cases hr), fun j hj => ?_⟩
    by_cases hji : j = i
    · subst hji
      refine hy.wpOp hi (fun s h => hS s (hs s h)) ⟨fun s h => ?_, H⟩
      by_cases e : j = s
      · rw [← e]; exact hJi w
      · exact hS s (by rw [getD_set_ne true e] at h; exact h)
    · have h1 := H.2 j (ready_mono hj hji)
      obtain ⟨hjun, oj, hoj, hall⟩ := mem_ready.1 hj
      have hiun : listed.getD i true = false := (mem_ready.1 hr).1
      have hni : ∀ b, listed.getD i b = false := fun b => by
        rcases Nat.lt_or_ge i listed.size with h' | h'
        · simp [h'] at hiun ⊢; exact hiun
        · simp [Array.getElem?_eq_none h'] at hiun
      have hsj : ∀ s ∈ σ, s ≠ j := fun s hsσ e => by
        obtain ⟨_, os, hos, e2, he2, hb, hon⟩ := hwait s hsσ
        rw [e] at hos
        rw [hoj] at hos
        have := hall e2 (by rw [Option.some.inj hos]; exact he2) hb
        rw [hon, hni] at this
        cases this
      have hnot : ∀ e ∈ oj.after, Region.binds md e = true → e.on ≠ i := fun e he hb heq => by
        have h1 := hall e he hb
        rw [heq, hni] at h1
        cases h1
      have h2 := wpOp_putIf hoj (hfree j oj hoj hji hjun hnot) (fun cs b => hsel i oi cs b hi) (fun cs b => hsel j oj cs b hoj) hQ hy h1
      have hfree' : ∀ k ok, ops[k]? = some ok → k ≠ i → (listed.setIfInBounds j true).getD k true = false →
          (∀ e ∈ ok.after, Region.binds md e = true → e.on ≠ i) → oi.apart ops ok = true := fun k ok hk hki hun hno => by
        refine hfree k ok hk hki ?_ hno
        by_cases hjk : j = k
        · subst hjk; exact hjun
        · rw [getD_set_ne true hjk] at hun; exact hun
      have hsl : ∀ s ∈ σ, (listed.setIfInBounds j true).getD s true = false := fun s h => by rw [getD_set_ne true (Ne.symm (hsj s h))]; exact hs s h
      refine wpOp_mono (fun a' w' h3 => ?_) h2
      have hJ' : ∀ s, (listed.setIfInBounds j true).getD s true = false → J s w' := fun s h => by
        by_cases e : i = s
        · rw [← e]; exact hJi w'
        · exact h3.2.1 s (by
            by_cases e2 : j = s
            · subst e2
              rcases Nat.lt_or_ge j listed.size with h' | h'
              · simp [h'] at h
              · simp [Array.getElem?_eq_none h'] at hjun
            · rw [getD_set_ne true e2, getD_set_ne true e]
              rw [getD_set_ne true e2] at h; exact h)
      refine ⟨hJ', ih (listed.setIfInBounds j true) a' w' hfree' (ready_mono hr (Ne.symm hji)) h3.1 hJ' hsl ?_⟩
      rw [Array.setIfInBounds_comm _ _ hji]
      exact h3.2.2
/-- does s wait for i? -/
def waits (md : Region.Mode) (ops : Array Oper) (s i : Nat) : Bool := s != i && match ops[s]? with
  | some os => os.after.any fun e => Region.binds md e && e.on == i
  | none => false
theorem waits_is {s i : Nat} (h : waits md ops s i = true) : s ≠ i ∧ ∃ os, ops[s]? = some os ∧ ∃ e ∈ os.after, Region.binds md e = true ∧ e.on = i := by
  unfold waits at h
  rw [Bool.and_eq_true] at h
  refine ⟨by simpa using h.1, ?_⟩
  have h2 := h.2
  split at h2
  · rename_i os hos
    rw [← Array.any_toList, List.any_eq_true] at h2
    obtain ⟨e, he', hb⟩ := h2
    have he : e ∈ os.after := Array.mem_toList_iff.1 he'
    rw [Bool.and_eq_true] at hb
    exact ⟨os, hos, e, he, hb.1, by simpa using hb.2⟩
  · cases h2
theorem wp_region_T {id : Nat} {a : Act} {w : World} (J : Nat → World → Prop) (hm : P.follows .mixedOrders = true)
    (h : wpAnyT P .any ops Q J ops.size (Array.replicate ops.size false) a w.drew) : (Code.region id ops true).wp P Q a w := by
  exact wp_region_any hm (wpAny_of_T _ _ _ _ h)
end
section
variable {P : Program} {md : Region.Mode} {l : List Oper} {Q : Exit → Act → World → Prop} {J : Nat → World → Prop}
/-- all that J asks, of the stores that are still to come. -/
def heldJ (J : Nat → World → Prop) (listed : Array Bool) (w : World) : Prop := ∀ s, listed.getD s true = false → J s w
theorem take_opT {i : Nat} {oi : Oper} {v : Value} {fuel : Nat} {listed : Array Bool} {a : Act} {w : World} (s : Nat) (hi : l[i]? = some oi)
    (hs : Region.noSelect l.toArray = true) (hf : Region.free md l.toArray listed i = true) (hr : (Region.ready md l.toArray listed).contains i = true) (hwt : waits md l.toArray s i = true) (hsl : listed.getD s true = false) (hJi : ∀ w, J i w)
    (hQ : ∀ c a w, Q (.panic c) (a.put oi.dst v) w → Q (.panic c) a w) (hw : Region.wanted oi (yielded l.toArray a.tmps) = true) (hS : ∀ s, J s w) (hy : ∀ w, J s w → (execOp a.eval oi).run P w = .ok (.value v) w)
    (h : wpAnyT P md l.toArray Q J fuel (listed.setIfInBounds i true) (a.put oi.dst v) w) : wpAnyT P md l.toArray Q J (fuel + 1) listed a w :=
  wpAnyT_first [s] ((list_toArray_get l i).trans hi) (Region.noSelect_spec hs) hQ hJi (fun s' h => by rw [List.mem_singleton.1 h]; exact waits_is hwt) fuel listed a w (Region.free_spec ((list_toArray_get l i).trans hi) hf) (by simpa using hr) (Or.inl ⟨hw, fun w hw => hy w (hw s (List.mem_singleton.2 rfl))⟩) (fun s _ => hS s) (fun s' h => by rw [List.mem_singleton.1 h]; exact hsl) h
theorem take_loadT {i : Nat} {oi : Oper} {fuel : Nat} {listed : Array Bool} {a : Act} {w : World} (s : Nat) (hi : l[i]? = some oi)
    (hs : Region.noSelect l.toArray = true) (hf : Region.free md l.toArray listed i = true) (hr : (Region.ready md l.toArray listed).contains i = true) (hwt : waits md l.toArray s i = true) (hsl : listed.getD s true = false) (hJi : ∀ w, J i w)
    (ty : TypeId) (x : Operand) (ho : oi.op = .load ty x) (b o m : Nat) (g : Nat → Value) (hx : a.eval x = .pointer (some ⟨b, o, none⟩)) (d : TypeDesc) (hu : P.underlying ty = some d) (hd : d.isRow = true) (hn : (P.info? ty).map (·.size) = some m)
    (hQ : ∀ c a w, Q (.panic c) (a.put oi.dst (.agg (rowV m g))) w → Q (.panic c) a w) (hw : Region.wanted oi (yielded l.toArray a.tmps) = true) (hS : ∀ s, J s w)
    (hrow : ∀ w, J s w → ∀ i, i < m → w.cell? ⟨b, o + i, none⟩ = some (g i))
    (h : wpAnyT P md l.toArray Q J fuel (listed.setIfInBounds i true) (a.put oi.dst (.agg (rowV m g))) w) : wpAnyT P md l.toArray Q J (fuel + 1) listed a w := by
  refine wpAnyT_first [s] ((list_toArray_get l i).trans hi) (Region.noSelect_spec hs) hQ hJi (fun s' h => by rw [List.mem_singleton.1 h]; exact waits_is hwt) fuel listed a w (Region.free_spec ((list_toArray_get l i).trans hi) hf) (by simpa using hr) ?_ (fun s _ => hS s) (fun s' h => by rw [List.mem_singleton.1 h]; exact hsl) h
  have e : (rowV m g) = (rowV m g).toList.toArray := by rw [Array.toArray_toList]
  rw [e]
  exact yieldsIf_load_mid hw ty x ho b o hx (rowV m g).toList d (fun w hw => range_of_cells (hrow w (hw s (List.mem_singleton.2 rfl)))) hu hd (by rw [hn, Array.length_toList, rowV_size])
/-- an operation that may come up now: by its walk. -/
theorem wpOp_T {i : Nat} {oi : Oper} {fuel : Nat} {listed : Array Bool} {a : Act} {w : World} (hi : l[i]? = some oi) (hw : Region.wanted oi (yielded l.toArray a.tmps) = true)
    (h : ∀ K' : Act → World → Prop, Shut (∀ a w, heldJ J (listed.setIfInBounds i true) w → wpAnyT P md l.toArray Q J fuel (listed.setIfInBounds i true) a w → K' a w) → Oper.wp P oi a w K' Q) :
    wpOp P l.toArray Q i (fun a' w' => (∀ s, (listed.setIfInBounds i true).getD s true = false → J s w') ∧ wpAnyT P md l.toArray Q J fuel (listed.setIfInBounds i true) a' w') a w := by
  unfold wpOp
  rw [(list_toArray_get l i).trans hi]
  simp only
  rw [if_pos hw]
  exact Or.inl (h _ (fun a' w' hS hk => ⟨hS, hk⟩))
/-- the one operation that is left to come up. -/
theorem take_oneT {i : Nat} {oi : Oper} {fuel : Nat} {listed : Array Bool} {a : Act} {w : World} (hi : l[i]? = some oi) (hr : Region.ready md l.toArray listed = [i]) (hw : Region.wanted oi (yielded l.toArray a.tmps) = true)
    (h : ∀ K' : Act → World → Prop, Shut (∀ a w, heldJ J (listed.setIfInBounds i true) w → wpAnyT P md l.toArray Q J fuel (listed.setIfInBounds i true) a w → K' a w) → Oper.wp P oi a w K' Q) : wpAnyT P md l.toArray Q J (fuel + 1) listed a w := by
  refine ⟨fun h => (by rw [hr] at h; cases h), fun j hj => ?_⟩
  rw [hr] at hj
  obtain rfl := List.mem_singleton.1 hj
  exact wpOp_T hi hw h
theorem doneT {listed : Array Bool} {a : Act} {w : World} (hr : Region.ready md l.toArray listed = []) (h : Q .normal a w) : ∀ fuel, wpAnyT P md l.toArray Q J fuel listed a w
  | 0 => ⟨hr, h⟩
  | _ + 1 => ⟨fun _ => h, by rw [hr]; simp⟩
/-- two conditions: A until operation sa, B until operation sb. -/
def JJ (sa : Nat) (A : World → Prop) (sb : Nat) (B : World → Prop) (s : Nat) (w : World) : Prop := (s = sa → A w) ∧ (s = sb → B w)
theorem heldJ_all {sa sb : Nat} {A B : World → Prop} {listed : Array Bool} {w : World} (hA : A w) (hB : B w) : heldJ (JJ sa A sb B) listed w := fun _ _ => ⟨fun _ => hA, fun _ => hB⟩
theorem heldJ_none {sa sb : Nat} {A B : World → Prop} {listed : Array Bool} {w : World} (hs : listed.getD sa true = true) (hs2 : listed.getD sb true = true) : heldJ (JJ sa A sb B) listed w := fun s h => ⟨fun e => (by rw [e, hs] at h; cases h), fun e => (by rw [e, hs2] at h; cases h)⟩
theorem JJ_all {sa sb : Nat} {A B : World → Prop} {w : World} (hA : A w) (hB : B w) : ∀ s, JJ sa A sb B s w := fun _ => ⟨fun _ => hA, fun _ => hB⟩
theorem JJ_free {sa sb i : Nat} {A B : World → Prop} (h1 : (i != sa) = true) (h2 : (i != sb) = true) : ∀ w, JJ sa A sb B i w := fun _ => ⟨fun e => (by rw [e] at h1; simp at h1), fun e => (by rw [e] at h2; simp at h2)⟩
end
end Go.Proofs.YtkgegihkhdgdoaaDoor

/- Is there such a place? -/
namespace Go.Proofs.YtkgegihkhdgdoaaDoor
set_option linter.unusedSimpArgs false
set_option linter.unusedVariables false
open Go.RowKit Go.Deep

theorem within_any (n at_ : Int) (w : World) : Calls Tryd.prog 87 #[.int .i64 n, .int .i64 at_] w fun e w' => e = .returned (.bool (thereB n at_)) ∧ w' = w := by
  by_cases h0 : 0 ≤ at_
  · by_cases h1 : at_ < n
    · have E : Hid (thereB n at_ = true) := (show thereB n at_ = true from by simp [thereB, h0, h1])
      go_enter Tryd.func87, Tryd.ntmps87
      go_wp2
      go_ret
      exact ⟨by rw [E.out]; rfl, rfl⟩
    · have E : Hid (thereB n at_ = false) := (show thereB n at_ = false from by simp [thereB, h1])
      go_enter Tryd.func87, Tryd.ntmps87
      go_wp2
      go_ret
      exact ⟨by rw [E.out]; rfl, rfl⟩
  · have E : Hid (thereB n at_ = false) := (show thereB n at_ = false from by simp [thereB, h0])
    go_enter Tryd.func87, Tryd.ntmps87
    go_wp2
    go_ret
    exact ⟨by rw [E.out]; rfl, rfl⟩
end Go.Proofs.YtkgegihkhdgdoaaDoor

/- The way from the root to a place. -/
namespace Go.Proofs.YtkgegihkhdgdoaaDoor
open Go.RowKit Go.Shelf
set_option linter.unusedSimpArgs false
set_option linter.unusedVariables false
attribute [local go_sem] Oper.semAt_some

/-- the steps: of each the half, and whether it goes to the left. -/
def wayF : Nat → Nat → Nat → List (Nat × Bool)
  | 0, _, _ => []
  | fuel + 1, n, p => if n ≤ 1 then [] else (halfN n, decide (p < halfN n)) :: (if p < halfN n then wayF fuel (halfN n) p else wayF fuel (n - halfN n) (p - halfN n))
def wayL (n p : Nat) : List (Nat × Bool) := wayF n n p
theorem wayF_fuel : ∀ (f g n p : Nat), n ≤ f → n ≤ g → wayF f n p = wayF g n p
  | 0, 0, n, p, _, _ => rfl
  | 0, g + 1, n, p, h, _ => by rw [wayF, wayF, if_pos (by omega)]
  | f + 1, 0, n, p, _, h => by rw [wayF, wayF, if_pos (by omega)]
  | f + 1, g + 1, n, p, h1, h2 => by
    rw [wayF, wayF]
    by_cases e : n ≤ 1
    · rw [if_pos e, if_pos e]
    · have := halfN_is (n := n) (by omega)
      rw [if_neg e, if_neg e, wayF_fuel f g (halfN n) p (by omega) (by omega), wayF_fuel f g (n - halfN n) _ (by omega) (by omega)]
theorem wayL_end {n p : Nat} (h : n ≤ 1) : wayL n p = [] := by
  unfold wayL
  match n with
  | 0 => rfl
  | 1 => rw [wayF, if_pos (by omega)]
  | n + 2 => omega
theorem wayL_step {n p : Nat} (h : 2 ≤ n) : wayL n p = (halfN n, decide (p < halfN n)) :: (if p < halfN n then wayL (halfN n) p else wayL (n - halfN n) (p - halfN n)) := by
  have hh := halfN_is h
  unfold wayL
  obtain ⟨m, hm⟩ : ∃ m, n = m + 1 := ⟨n - 1, by omega⟩
  rw [show wayF n n p = wayF (m + 1) n p by rw [hm], wayF, if_neg (by omega), wayF_fuel m (halfN n) (halfN n) p (by omega) (Nat.le_refl _), wayF_fuel m (n - halfN n) (n - halfN n) _ (by omega) (Nat.le_refl _)]
/-- the steps of any two numbers. -/
def wayI (n p : Int) : List (Nat × Bool) := if thereB n p = true then wayL n.toNat p.toNat else []
def stepV (x : Nat × Bool) : Array Value := #[.int .i64 (x.1 : Int), .bool x.2]
set_option maxHeartbeats 2000000 in
theorem way1_hands (n : Nat) (a b : Int) (ha : -9223372036854775808 ≤ a ∧ a ≤ 9223372036854775807) (hb : -9223372036854775808 ≤ b ∧ b ≤ 9223372036854775807) (ba bb : Nat) (w : World) (hba : ba < w.heap.size) (hbb : bb < w.heap.size)
    (ca : w.cell? ⟨ba, 0, none⟩ = some (.int .i64 a)) (cb : w.cell? ⟨bb, 0, none⟩ = some (.int .i64 b)) :
    hands n Tryd.prog 86 #[.pointer (some ⟨ba, 0, none⟩), .pointer (some ⟨bb, 0, none⟩)] stepV (wayI a b) w := by
  intro l J W hW hd h0 hY
  have cA : W.cell? ⟨ba, 0, none⟩ = some (.int .i64 a) := (hW.cell (p := ⟨ba, 0, none⟩) hba).trans ca
  have cB : W.cell? ⟨bb, 0, none⟩ = some (.int .i64 b) := (hW.cell (p := ⟨bb, 0, none⟩) hbb).trans cb
  have X := within_any a b W
  cases hth : thereB a b with
  | false =>
    have hys : wayI a b = [] := by unfold wayI; rw [hth]; rfl
    rw [hth] at X
    have HYS : Hid _ := hys
    clear hys hth hY
    refine callsIn_of_wp Tryd.func86 rfl trivial ?_ rfl
    simp only [Tryd.ntmps86, List.size_toArray, List.length_cons, List.length_nil, Nat.reduceAdd, Nat.reduceSub, Array.replicate_succ, Array.replicate_zero, List.push_toArray, List.append_toArray, List.nil_append, List.cons_append]
    gi_wp2_with fail
    refine ⟨trivial, fun h => absurd h (by simp [Fence.wide]), (callsIn_wide.2 X).mono ?_⟩
    rintro e w' ⟨rfl, hw⟩
    obtain rfl := hw.symm
    clear hw
    gi_wp2
    refine bodyPost_ret (results_none rfl _ _ _) rfl ?_
    exact ⟨⟨_, rfl⟩, by rw [HYS.out]; exact h0⟩
  | true =>
    have hab : 0 ≤ b ∧ b < a := by simpa [thereB] using hth
    have hys : wayI a b = wayL a.toNat b.toNat := by unfold wayI; rw [hth]; rfl
    rw [hys] at hY ⊢
    rw [hth] at X
    obtain ⟨Y, hYe⟩ : ∃ Y, Y = wayL a.toNat b.toNat := ⟨_, rfl⟩
    rw [← hYe] at hY ⊢
    have HYE : Hid _ := hYe
    have HY : Hid _ := hY
    clear hys hth hY hYe
    have hJ0 := hd 0 W h0
    refine callsIn_of_wp Tryd.func86 rfl trivial ?_ rfl
    simp only [Tryd.ntmps86, List.size_toArray, List.length_cons, List.length_nil, Nat.reduceAdd, Nat.reduceSub, Array.replicate_succ, Array.replicate_zero, List.push_toArray, List.append_toArray, List.nil_append, List.cons_append]
    gi_wp2_with fail
    refine ⟨trivial, fun h => absurd h (by simp [Fence.wide]), (callsIn_wide.2 X).mono ?_⟩
    rintro e w' ⟨rfl, hw⟩
    obtain rfl := hw.symm
    clear hw
    gi_wp2
    gi_region
    gi_wp2
    have J0 : Hid _ := hJ0
    clear hJ0 h0 X cA cB ca cb
    gi_loopw [4, 5] (fun x y wr => ∃ (k m p : Nat), x = .int .i64 (m : Int) ∧ y = .int .i64 (p : Int) ∧ p < m ∧ (m : Int) ≤ 9223372036854775807 ∧ k ≤ Y.length ∧ Y.drop k = wayL m p ∧ J k wr) (fun x _ _ => (intOf x).toNat)
    case atStart =>
      exact ⟨0, a.toNat, b.toNat, by rw [Int.toNat_of_nonneg (by omega)], by rw [Int.toNat_of_nonneg (by omega)], by omega, by omega, Nat.zero_le _, by rw [List.drop_zero]; exact HYE.out, J0.out⟩
    case round =>
      obtain ⟨k, m, p, rfl, rfl, hpm, hm, hk, hdr, hJ⟩ := hrel
      clear J0
      by_cases h2 : 2 ≤ m
      · have hh := halfN_is h2
        have X := half_any (m : Int) (by omega) hm wr
        have hI : halfI (m : Int) = (halfN m : Int) := by unfold halfI; rw [Int.toNat_natCast]
        rw [hI] at X
        rw [wayL_step h2] at hdr
        have hlt : k < Y.length := by
          by_cases e : k < Y.length
          · exact e
          · rw [List.drop_eq_nil_of_le (by omega)] at hdr; cases hdr
        have hcons := List.drop_eq_getElem_cons hlt
        rw [hcons] at hdr
        have hx : Y[k] = (halfN m, decide (p < halfN m)) := (List.cons.inj hdr).1
        have htl := (List.cons.inj hdr).2
        obtain ⟨fn, tmps, assign, body, hy, hR⟩ := HY.out k hlt wr hJ
        rw [hx] at hy
        have hy' : (Instr.yield l #[.int .i64 (halfN m : Int), .bool (decide (p < halfN m))]).run Tryd.prog wr = .ok (.round l fn tmps assign body) wr := hy
        obtain ⟨h, hhe⟩ : ∃ h, h = halfN m := ⟨_, rfl⟩
        rw [← hhe] at X hh hy' htl
        have g1 : ¬ (m : Int) ≤ 1 := by omega
        have g2 : (1 : Int) < (m : Int) := by omega
        have HTL : Hid _ := htl
        have HJ : Hid _ := hd
        clear hI hdr hcons hx hy htl hhe
        by_cases hl : p < h
        · have hb1 : (p : Int) < (h : Int) := by omega
          have hdc : decide (p < h) = true := decide_eq_true hl
          rw [hdc] at hy'
          gi_wp2_with fail
          refine ⟨trivial, fun h => absurd h (by simp [Fence.wide]), (callsIn_wide.2 X).mono ?_⟩
          rintro e w' ⟨rfl, hw⟩
          obtain rfl := hw.symm
          clear hw X
          gi_wp2
          refine ⟨fun h => absurd h (by simp [Fence.wide]), hR.mono ?_⟩
          rintro e W3 ⟨rfl, hJ3⟩
          gi_wp2
          go_roundw
          case rel => exact ⟨k + 1, h, p, rfl, rfl, hl, by omega, by omega, by rw [HTL.out, if_pos hl], hJ3⟩
          case measure => simp [intOf]; omega
        · have hb1 : ¬ (p : Int) < (h : Int) := by omega
          have hdc : decide (p < h) = false := decide_eq_false hl
          rw [hdc] at hy'
          gi_wp2_with fail
          refine ⟨trivial, fun h => absurd h (by simp [Fence.wide]), (callsIn_wide.2 X).mono ?_⟩
          rintro e w' ⟨rfl, hw⟩
          obtain rfl := hw.symm
          clear hw X
          gi_wp2
          refine ⟨fun h => absurd h (by simp [Fence.wide]), hR.mono ?_⟩
          rintro e W3 ⟨rfl, hJ3⟩
          gi_wp2
          go_roundw
          case rel => exact ⟨k + 1, m - h, p - h, by congr 1; omega, by congr 1; omega, by omega, by omega, by omega, by rw [HTL.out, if_neg hl], hJ3⟩
          case measure => simp [intOf]; omega
      · have g1 : ¬ (1 : Int) < (m : Int) := by omega
        rw [wayL_end (by omega)] at hdr
        have hke : k = Y.length := by
          have := List.drop_eq_nil_iff.1 hdr
          omega
        have HJ : Hid (J Y.length wr) := (show J Y.length wr from hke ▸ hJ)
        clear hdr hke hJ
        gi_wp2
        go_end0
        exact ⟨⟨_, rfl⟩, HJ.out⟩
end Go.Proofs.YtkgegihkhdgdoaaDoor

/- way, Depth. -/
namespace Go.Proofs.YtkgegihkhdgdoaaDoor
open Go.RowKit Go.Shelf
set_option linter.unusedSimpArgs false
set_option linter.unusedVariables false
attribute [local go_sem] Oper.semAt_some

theorem half_pow {n k : Nat} (h : 2 ≤ n) (hk : n ≤ 2 ^ (k + 1)) : halfN n ≤ 2 ^ k ∧ n - halfN n ≤ 2 ^ k := by
  have hh := halfN_is h
  have h1 : halfN n ≤ 2 ^ k := by
    rw [halfN_pow h]
    refine Nat.pow_le_pow_right (by omega) ?_
    have h2 : n - 1 < 2 ^ (k + 1) := by omega
    have := (Nat.log2_lt (show n - 1 ≠ 0 by omega)).2 h2
    omega
  omega
/-- a way has as many steps as n - 1 has binary digits, or fewer. -/
theorem wayL_len : ∀ (k n p : Nat), n ≤ 2 ^ k → (wayL n p).length ≤ k
  | 0, n, p, h => by rw [wayL_end (by simpa using h)]; simp
  | k + 1, n, p, h => by
    by_cases h2 : 2 ≤ n
    · have := half_pow h2 h
      rw [wayL_step h2, List.length_cons]
      by_cases hp : p < halfN n
      · rw [if_pos hp]; have := wayL_len k (halfN n) p this.1; omega
      · rw [if_neg hp]; have := wayL_len k (n - halfN n) (p - halfN n) this.2; omega
    · rw [wayL_end (by omega)]; simp
theorem wayI_len (a b : Int) (h : a ≤ 9223372036854775807) : (wayI a b).length ≤ 63 := by
  unfold wayI
  split
  · exact wayL_len 63 _ _ (by have : (2 : Nat) ^ 63 = 9223372036854775808 := rfl; omega)
  · simp
/-- the world behind a call of way. -/
def wayW (a b : Int) (w : World) : World := (w.alloc (.cells #[.int .i64 a] 3)).alloc (.cells #[.int .i64 b] 3)
theorem way_any (a b : Int) (w : World) : Calls Tryd.prog 66 #[.int .i64 a, .int .i64 b] w fun e w' => e = .returned (.func (.func 86) #[] #[.pointer (some ⟨w.heap.size, 0, none⟩), .pointer (some ⟨w.heap.size + 1, 0, none⟩)]) ∧ w' = wayW a b w := by
  have hmf : ∀ (fn : Fn) (first cap : Array Value) (w : World), (Instr.makeFunc fn first cap).run Tryd.prog w = .ok (.func fn first cap) w := fun _ _ _ _ => rfl
  go_enter Tryd.func66, Tryd.ntmps66
  go_wp2
  go_ret
  exact ⟨rfl, rfl⟩
set_option maxRecDepth 100000 in
set_option maxHeartbeats 2000000 in
theorem depth_any (a b : Int) (ha : -9223372036854775808 ≤ a ∧ a ≤ 9223372036854775807) (hb : -9223372036854775808 ≤ b ∧ b ≤ 9223372036854775807) (w : World) :
    Calls Tryd.prog 94 #[.int .i64 a, .int .i64 b] w fun e w' => e = .returned (.int .i64 ((wayI a b).length : Int)) ∧ Below w.heap.size w w' := by
  have hlen := wayI_len a b ha.2
  obtain ⟨w1, hw1⟩ : ∃ w1, w1 = w.alloc (.cells #[.int .i64 0] 3) := ⟨_, rfl⟩
  have X := way_any a b w1
  have s1 : w1.heap.size = w.heap.size + 1 := by rw [hw1]; simp
  obtain ⟨W0, hW0⟩ : ∃ W0, W0 = wayW a b w1 := ⟨_, rfl⟩
  rw [← hW0] at X
  have b0 : Below w.heap.size w W0 := by rw [hW0, hw1]; unfold wayW; exact (((Below.refl _ _).alloc (Nat.le_refl _) _).alloc (by simp) _).alloc (by simp; omega) _
  have r0 : W0.rowIs w.heap.size 3 1 (fun _ => .int .i64 0) := by
    have r1 : w1.rowIs w.heap.size 3 1 (fun _ => .int .i64 0) := by rw [hw1]; exact rowIs_one _ _ _
    have bb : Below w1.heap.size w1 W0 := by rw [hW0]; unfold wayW; exact ((Below.refl _ _).alloc (Nat.le_refl _) _).alloc (by simp) _
    exact bb.row r1 (by omega)
  have c0 := r0.cell (i := 0) (by omega)
  have f0 := r0.frozen 0
  have hca : W0.cell? ⟨w1.heap.size, 0, none⟩ = some (.int .i64 a) := by
    have r1 : (w1.alloc (.cells #[.int .i64 a] 3)).rowIs w1.heap.size 3 1 (fun _ => .int .i64 a) := rowIs_one _ _ _
    have bb : Below (w1.alloc (.cells #[.int .i64 a] 3)).heap.size (w1.alloc (.cells #[.int .i64 a] 3)) W0 := by rw [hW0]; unfold wayW; exact (Below.refl _ _).alloc (Nat.le_refl _) _
    exact (bb.row r1 (by simp)).cell (i := 0) (by omega)
  have hcb : W0.cell? ⟨w1.heap.size + 1, 0, none⟩ = some (.int .i64 b) := by
    have r1 : W0.rowIs (w1.alloc (.cells #[.int .i64 a] 3)).heap.size 3 1 (fun _ => .int .i64 b) := by rw [hW0]; unfold wayW; exact rowIs_one _ _ _
    have := r1.cell (i := 0) (by omega)
    rwa [World.size_alloc] at this
  have sz : W0.heap.size = w.heap.size + 3 := by rw [hW0]; unfold wayW; simp; omega
  have HS := way1_hands 2 a b ha hb w1.heap.size (w1.heap.size + 1) W0 (by omega) (by omega) hca hcb
  refine (callsIn_wide (n := 3)).1 ?_
  refine callsIn_of_wp_marks Tryd.func94 rfl trivial ?_ rfl
  simp only [Tryd.ntmps94, List.size_toArray, List.length_cons, List.length_nil, Nat.reduceAdd, Nat.reduceSub, Array.replicate_succ, Array.replicate_zero, List.push_toArray, List.append_toArray, List.nil_append, List.cons_append]
  gi_wp2_with fail
  rw [← hw1]
  refine ⟨trivial, (callsIn_wide.2 X).mono ?_⟩
  rintro e w' ⟨rfl, hw⟩
  obtain rfl := hw.symm
  have HSt : Hid _ := HS
  have B0 : Hid _ := b0
  have SZ : Hid _ := sz
  have S1 : Hid _ := s1
  clear hw X hW0 hw1 hca hcb b0 sz HS s1 r0
  gi_wp2
  refine wpIn_range_list (gf := 86) (lb := #[.pointer (some ⟨w1.heap.size, 0, none⟩), .pointer (some ⟨w1.heap.size + 1, 0, none⟩)]) (encs := stepV) (ys := wayI a b) rfl (enters_of Tryd.func86 (by kernel_rfl) rfl) HSt.out (fun _ => rfl)
    (fun k W => (W.cell? ⟨w.heap.size, 0, none⟩ = some (.int .i64 (k : Int)) ∧ W.frozen? ⟨w.heap.size, 0, none⟩ = false) ∧ Below w.heap.size w W)
    (OwnFrom.and (Own.from (fun s A B row hs hg hr => ⟨cell_kept hs.1 hg hr, (frozen_kept hs.1 hg hr).trans hs.2⟩) _) (ownFrom_below (Nat.le_refl _) (by have := SZ.out; omega)))
    (fun k W h => ⟨h.1, h.2.drew⟩) ⟨⟨c0, f0⟩, B0.out⟩
    (fun x => { tmps := #[.int .i64 a, .int .i64 b, undef, undef, .int .i64 0, .pointer (some ⟨w.heap.size, 0, none⟩), .int .i64 a, .int .i64 b, .func (.func 86) #[] #[.pointer (some ⟨w1.heap.size, 0, none⟩), .pointer (some ⟨w1.heap.size + 1, 0, none⟩)], .int .i64 (x.1 : Int), .bool x.2, undef, undef, undef], defers := [] }) ?assign ?body ?done
  case assign =>
    intro l x W K hK
    simp only [stepV, List.zip_toArray, List.zip_cons_cons, List.zip_nil_left, List.zip_nil_right, List.foldl_toArray, List.foldl_cons, List.foldl_nil, List.setIfInBounds_toArray, List.set_cons_succ, List.set_cons_zero]
    gi_wp2
    exact hK
  case body =>
    rintro l k hk W ⟨⟨hc, hf⟩, hB⟩
    have q0 : (k : Int) < 63 := by omega
    have q1 : (0 : Int) ≤ (k : Int) := by omega
    have HB : Hid _ := hB
    clear hB c0 f0
    gi_wp2
    exact ⟨KeepsOthers.setCell _ _ _, ⟨World.cell?_setCell_same' _ _ _ (by rw [hc]; rfl), by rw [World.frozen?_setCell]; exact hf⟩, HB.out.setCell (p := ⟨w.heap.size, 0, none⟩) (Nat.le_refl _) _⟩
  case done =>
    rintro D W hD ⟨⟨hc, _⟩, hB⟩ hK
    gi_wp2
    refine ⟨by simp, .inl ⟨_, _, rfl, run_takeDeferred hK, ?_⟩⟩
    exact ⟨_, results_tmp rfl _ _ _, rfl, hB.trans (belowK_b (w := w) (Nat.le_refl _) W D _ _ (by have := SZ.out; omega) hK rfl rfl)⟩
end Go.Proofs.YtkgegihkhdgdoaaDoor

/- Paths, where they lead, and what they bind. Plain mathematics. -/
namespace Go.Proofs.YtkgegihkhdgdoaaDoor
set_option linter.unusedSimpArgs false
set_option linter.unusedVariables false
open Go.RowKit Go.Deep

/-- the sums of one step up, and its note. -/
def upL (s : List Int) (x : Bool × List Int) : List (List Int) := if x.1 = true then [s, x.2] else [x.2, s]
def leadF (l : List (Bool × List Int)) (s : List Int) : List Int := l.foldl (fun s x => nodeS (upL s x)) s
def upStep (y : List Nt × List Int) (x : Bool × List Int) : List Nt × List Int := (addN y.1 (ntOf (upL y.2 x)), nodeS (upL y.2 x))
def leadFN (N : List Nt) (l : List (Bool × List Int)) (s : List Int) : List Nt := (l.foldl upStep (N, s)).1
theorem leadFN_nil (N : List Nt) (s : List Int) : leadFN N [] s = N := rfl
theorem leadF_snoc (l : List (Bool × List Int)) (x : Bool × List Int) (s : List Int) : leadF (l ++ [x]) s = nodeS (upL (leadF l s) x) := by
  unfold leadF; rw [List.foldl_append]; rfl
theorem upStep_snd : ∀ (l : List (Bool × List Int)) (N : List Nt) (s : List Int), (l.foldl upStep (N, s)).2 = leadF l s
  | [], _, _ => rfl
  | x :: r, N, s => by rw [List.foldl_cons]; unfold leadF; rw [List.foldl_cons]; exact upStep_snd r _ _
theorem leadFN_snoc (N : List Nt) (l : List (Bool × List Int)) (x : Bool × List Int) (s : List Int) : leadFN N (l ++ [x]) s = addN (leadFN N l s) (ntOf (upL (leadF l s) x)) := by
  unfold leadFN; rw [List.foldl_append, List.foldl_cons, List.foldl_nil, ← upStep_snd l N s]; rfl
theorem leadF_sum : ∀ (l : List (Bool × List Int)) (s : List Int), isSum s → isSum (leadF l s)
  | [], s, h => h
  | x :: r, s, h => by unfold leadF; rw [List.foldl_cons]; exact leadF_sum r _ (nodeS_sum _)
theorem upL_sums {s : List Int} {x : Bool × List Int} (hs : isSum s) (hx : isSum x.2) : ∀ y ∈ upL s x, isSum y := by
  intro y hy
  unfold upL at hy
  split at hy <;> · rcases List.mem_cons.1 hy with rfl | hy
                    · assumption
                    · rw [List.mem_singleton.1 hy]; assumption
theorem leadFN_len : ∀ (l : List (Bool × List Int)) (N : List Nt) (s : List Int), (leadFN N l s).length ≤ N.length + l.length
  | [], N, s => by rw [leadFN_nil]; simp
  | x :: r, N, s => by
    have h := leadFN_len r (addN N (ntOf (upL s x))) (nodeS (upL s x))
    have h2 := addN_le N (ntOf (upL s x))
    have e : leadFN N (x :: r) s = leadFN (addN N (ntOf (upL s x))) r (nodeS (upL s x)) := by unfold leadFN; rw [List.foldl_cons]; rfl
    rw [e, List.length_cons]; omega
/-- the steps up that a path makes. -/
def ups (w : List (Nat × Bool)) (path : List (List Int)) : List (Bool × List Int) := ((w.map (·.2)).reverse).zip path
theorem ups_len {w : List (Nat × Bool)} {path : List (List Int)} (h : path.length = w.length) : (ups w path).length = w.length := by
  unfold ups; rw [List.length_zip, List.length_reverse, List.length_map]; omega
theorem ups_snoc {x : Nat × Bool} {w : List (Nat × Bool)} {q : List (List Int)} {y : List Int} (h : q.length = w.length) : ups (x :: w) (q ++ [y]) = ups w q ++ [(x.2, y)] := by
  unfold ups
  rw [List.map_cons, List.reverse_cons, List.zip_append (by rw [List.length_reverse, List.length_map]; omega)]; rfl
/-- where a leaf leads. -/
def leadS (n p : Nat) (s : List Int) (path : List (List Int)) : List Int := leadF (ups (wayL n p) path) s
/-- what is left aside on the way down. -/
def downF : List (Nat × Bool) → List (List Int) → List (List Int)
  | [], _ => []
  | x :: r, L => rootS (if x.2 = true then L.drop x.1 else L.take x.1) :: downF r (if x.2 = true then L.take x.1 else L.drop x.1)
def pathS (L : List (List Int)) (p : Nat) : List (List Int) := (downF (wayL L.length p) L).reverse
theorem downF_len : ∀ (w : List (Nat × Bool)) (L : List (List Int)), (downF w L).length = w.length
  | [], _ => rfl
  | x :: r, L => by rw [downF, List.length_cons, List.length_cons, downF_len r]
theorem pathS_len (L : List (List Int)) (p : Nat) : (pathS L p).length = (wayL L.length p).length := by unfold pathS; rw [List.length_reverse, downF_len]
theorem pathS_left {L : List (List Int)} {p : Nat} (h : 2 ≤ L.length) (hp : p < halfN L.length) : pathS L p = pathS (L.take (halfN L.length)) p ++ [rootS (L.drop (halfN L.length))] := by
  have ht := half_take h
  unfold pathS
  rw [wayL_step h, downF, List.reverse_cons, if_pos hp]
  simp only [hp, decide_true, if_true]
  rw [ht.1]
theorem pathS_right {L : List (List Int)} {p : Nat} (h : 2 ≤ L.length) (hp : ¬ p < halfN L.length) : pathS L p = pathS (L.drop (halfN L.length)) (p - halfN L.length) ++ [rootS (L.take (halfN L.length))] := by
  have ht := half_take h
  unfold pathS
  rw [wayL_step h, downF, List.reverse_cons, if_neg hp]
  simp only [hp, decide_false, Bool.false_eq_true, if_false]
  rw [ht.2.1]
theorem leadS_end {n p : Nat} {s : List Int} {path : List (List Int)} (h : n ≤ 1) : leadS n p s path = s := by unfold leadS ups; rw [wayL_end h]; rfl
theorem leadS_left {n p : Nat} {s y : List Int} {q : List (List Int)} (h : 2 ≤ n) (hp : p < halfN n) (hq : q.length = (wayL (halfN n) p).length) : leadS n p s (q ++ [y]) = nodeS [leadS (halfN n) p s q, y] := by
  unfold leadS
  rw [wayL_step h, if_pos hp, ups_snoc hq, leadF_snoc]
  simp only [hp, decide_true, upL, if_true]
theorem leadS_right {n p : Nat} {s y : List Int} {q : List (List Int)} (h : 2 ≤ n) (hp : ¬ p < halfN n) (hq : q.length = (wayL (n - halfN n) (p - halfN n)).length) : leadS n p s (q ++ [y]) = nodeS [y, leadS (n - halfN n) (p - halfN n) s q] := by
  unfold leadS
  rw [wayL_step h, if_neg hp, ups_snoc hq, leadF_snoc]
  simp only [hp, decide_false, upL, Bool.false_eq_true, if_false]
/-- P4.5. -/
theorem lead_path : ∀ (m : Nat) (L : List (List Int)) (p : Nat), L.length ≤ m → p < L.length → leadS L.length p (L.getD p []) (pathS L p) = rootS L
  | 0, L, p, h, hp => by omega
  | m + 1, L, p, h, hp => by
    by_cases h1 : L.length ≤ 1
    · have h2 : L.length = 1 := by omega
      obtain rfl : p = 0 := by omega
      rw [leadS_end h1, rootS_one h2]
    · have h2 : 2 ≤ L.length := by omega
      have ht := half_take h2
      rw [rootS_more h2]
      by_cases hl : p < halfN L.length
      · rw [pathS_left h2 hl, leadS_left h2 hl (by rw [pathS_len, ht.1])]
        have ih := lead_path m (L.take (halfN L.length)) p (by omega) (by omega)
        rw [ht.1] at ih
        have eg : L.getD p [] = (L.take (halfN L.length)).getD p [] := by
          rw [List.getD_eq_getElem?_getD, List.getD_eq_getElem?_getD, List.getElem?_take, if_pos hl]
        rw [← ih, eg]
      · rw [pathS_right h2 hl, leadS_right h2 hl (by rw [pathS_len, ht.2.1])]
        have ih := lead_path m (L.drop (halfN L.length)) (p - halfN L.length) (by omega) (by omega)
        rw [ht.2.1] at ih
        have eg : L.getD p [] = (L.drop (halfN L.length)).getD (p - halfN L.length) [] := by
          rw [List.getD_eq_getElem?_getD, List.getD_eq_getElem?_getD, List.getElem?_drop]
          congr 2; omega
        rw [← ih, eg]
end Go.Proofs.YtkgegihkhdgdoaaDoor

/- slices.Reverse of bools. -/
namespace Go.Proofs.YtkgegihkhdgdoaaDoor
set_option linter.unusedSimpArgs false
set_option linter.unusedVariables false
open Go.RowKit Go.Deep

/-- the cells behind k swaps. -/
def revF (F : Nat → Value) (n k i : Nat) : Value := if i < n ∧ (i < k ∨ n ≤ i + k) then F (n - 1 - i) else F i
theorem revF_zero (F : Nat → Value) (n i : Nat) : revF F n 0 i = F i := by unfold revF; rw [if_neg (by omega)]
theorem revF_lo (F : Nat → Value) {n k : Nat} (h : 2 * k + 1 < n) : revF F n k k = F k ∧ revF F n k (n - 1 - k) = F (n - 1 - k) := by
  unfold revF; rw [if_neg (by omega), if_neg (by omega)]; exact ⟨rfl, rfl⟩
theorem revF_end (F : Nat → Value) {n k i : Nat} (h : n ≤ 2 * k + 1) (hk : 2 * k ≤ n + 1) (hi : i < n) : revF F n k i = F (n - 1 - i) := by
  unfold revF
  by_cases e : i < k ∨ n ≤ i + k
  · rw [if_pos ⟨hi, e⟩]
  · rw [if_neg (fun h => e h.2)]; congr 1; omega
set_option maxHeartbeats 2000000 in
set_option maxRecDepth 100000 in
theorem revBool_any (g n cap : Nat) (F : Nat → Value) (w : World) (h : w.rowIs g 4 cap F) (hb : ∀ i, i < n → ∃ x, F i = .bool x) (hn : n ≤ cap) (hm : n ≤ 1000) :
    Calls Tryd.prog 95 #[.slice (some ⟨g, 0, none⟩) n cap] w fun e w' => e = .returned (.tuple #[]) ∧ w'.rowIs g 4 cap (fun i => if i < n then F (n - 1 - i) else F i) ∧ w'.heap.size = w.heap.size ∧ But w.heap.size g w w' := by
  have q0 : (n : Int) ≤ 1000 := by omega
  have hlt := h.lt
  have H0 : Hid _ := h
  have HB : Hid _ := hb
  clear h hb
  go_enter Tryd.func95, Tryd.ntmps95
  go_wp2
  go_loopw [2, 3] (fun x y wr => ∃ k : Nat, x = .int .i64 (k : Int) ∧ y = .int .i64 ((n : Int) - 1 - (k : Int)) ∧ 2 * k ≤ n + 1 ∧ wr.rowIs g 4 cap (revF F n k) ∧ wr.heap.size = w.heap.size ∧ But w.heap.size g w wr) (fun x _ _ => n - (intOf x).toNat)
  case atStart => exact ⟨0, rfl, by simp, by omega, World.rowIs.congr H0.out (fun i _ => (revF_zero F n i).symm), rfl, But.refl _ _ _⟩
  case round =>
    obtain ⟨k, rfl, rfl, hk, hr, hs, hbt⟩ := hrel
    clear H0
    by_cases hc : 2 * k + 1 < n
    · obtain ⟨x, hx⟩ := HB.out k (by omega)
      obtain ⟨y, hy⟩ := HB.out (n - 1 - k) (by omega)
      have hl := revF_lo F hc
      have cx : wr.cell? ⟨g, k, none⟩ = some (.bool x) := by rw [hr.cell (by omega), hl.1, hx]
      have cy : wr.cell? ⟨g, n - 1 - k, none⟩ = some (.bool y) := by rw [hr.cell (by omega), hl.2, hy]
      obtain ⟨j, hj⟩ : ∃ j : Nat, j = n - 1 - k := ⟨_, rfl⟩
      have hji : ((n : Int) - 1 - (k : Int)) = (j : Int) := by omega
      rw [← hj] at cy
      rw [hji]
      have p0 : (0 : Int) ≤ (k : Int) := by omega
      have p1 : (k : Int) < (n : Int) := by omega
      have p2 : (0 : Int) ≤ (j : Int) := by omega
      have p3 : (j : Int) < (n : Int) := by omega
      have p4 : (k : Int) < (j : Int) := by omega
      have fz := hr.frozen
      have FIN : Hid (((wr.setCell ⟨g, k, none⟩ (.bool y)).setCell ⟨g, j, none⟩ (.bool x)).drew.rowIs g 4 cap (revF F n (k + 1)) ∧ ((wr.setCell ⟨g, k, none⟩ (.bool y)).setCell ⟨g, j, none⟩ (.bool x)).drew.heap.size = w.heap.size ∧ But w.heap.size g w ((wr.setCell ⟨g, k, none⟩ (.bool y)).setCell ⟨g, j, none⟩ (.bool x)).drew) := (show _ from by
        have R1 : (wr.setCell ⟨g, k, none⟩ (.bool y)).rowIs g 4 cap _ := World.rowIs.set hr k (.bool y)
        have R2 : ((wr.setCell ⟨g, k, none⟩ (.bool y)).setCell ⟨g, j, none⟩ (.bool x)).rowIs g 4 cap _ := World.rowIs.set R1 j (.bool x)
        refine ⟨World.rowIs.of_block (R2.congr fun i hi => ?_) rfl, ?_, ?_⟩
        · show (if i = j then _ else if i = k then _ else _) = _
          unfold revF
          by_cases e1 : i = j
          · rw [if_pos e1, if_pos (by omega), show n - 1 - i = k by omega, hx]
          · by_cases e2 : i = k
            · rw [if_neg e1, if_pos e2, if_pos (by omega), show n - 1 - i = n - 1 - k by omega, hy]
            · rw [if_neg e1, if_neg e2]
              by_cases e3 : i < n ∧ (i < k ∨ n ≤ i + k)
              · rw [if_pos e3, if_pos ⟨e3.1, by omega⟩]
              · rw [if_neg e3, if_neg (by omega)]
        · show ((wr.setCell ⟨g, k, none⟩ (.bool y)).setCell ⟨g, j, none⟩ (.bool x)).heap.size = _
          rw [nblk_setCell, nblk_setCell]; exact hs
        · refine ⟨hbt.os, hbt.tape, hbt.output, ?_, fun i hi hne => ?_⟩
          · show w.heap.size ≤ ((wr.setCell ⟨g, k, none⟩ (.bool y)).setCell ⟨g, j, none⟩ (.bool x)).heap.size
            rw [nblk_setCell, nblk_setCell]; omega
          · show ((wr.setCell ⟨g, k, none⟩ (.bool y)).setCell ⟨g, j, none⟩ (.bool x)).heap[i]? = _
            rw [blk_setCell_other _ _ _ _ hne, blk_setCell_other _ _ _ _ hne]; exact hbt.block i hi hne)
      have HJ : Hid _ := hj
      clear hj hji
      go_upto_region 3 with fail
      refine wp_region_noPanic ?_
      refine wp_region_held_drew (S := fun w' => True) (by kernel_rfl) trivial (fun hHeld => ?_)
      refine take_op (i := 0) (v := ?va0) rfl (by kernel_rfl) (by kernel_rfl) (by kernel_rfl) (fun _ _ _ h => h) rfl hHeld ?ya0 ?ra0
      case ya0 => (intro wz hz; go_simp; first | done | with_reducible rfl)
      try simp only [Act.put, List.setIfInBounds_toArray, List.set_cons_zero, List.set_cons_succ]
      refine take_op (i := 1) (v := ?va1) rfl (by kernel_rfl) (by kernel_rfl) (by kernel_rfl) (fun _ _ _ h => h) rfl hHeld ?ya1 ?ra1
      case ya1 => (intro wz hz; go_simp; first | done | with_reducible rfl)
      try simp only [Act.put, List.setIfInBounds_toArray, List.set_cons_zero, List.set_cons_succ]
      refine take_op (i := 2) (v := ?va2) rfl (by kernel_rfl) (by kernel_rfl) (by kernel_rfl) (fun _ _ _ h => h) rfl hHeld ?ya2 ?ra2
      case ya2 => (intro wz hz; go_simp; first | done | with_reducible rfl)
      try simp only [Act.put, List.setIfInBounds_toArray, List.set_cons_zero, List.set_cons_succ]
      refine take_op (i := 3) (v := ?va3) rfl (by kernel_rfl) (by kernel_rfl) (by kernel_rfl) (fun _ _ _ h => h) rfl hHeld ?ya3 ?ra3
      case ya3 => (intro wz hz; go_simp; first | done | with_reducible rfl)
      try simp only [Act.put, List.setIfInBounds_toArray, List.set_cons_zero, List.set_cons_succ]
      refine take_op (i := 4) (v := ?va4) rfl (by kernel_rfl) (by kernel_rfl) (by kernel_rfl) (fun _ _ _ h => h) rfl hHeld ?ya4 ?ra4
      case ya4 => (intro wz hz; go_simp; first | done | with_reducible rfl)
      try simp only [Act.put, List.setIfInBounds_toArray, List.set_cons_zero, List.set_cons_succ]
      refine take_op (i := 5) (v := ?va5) rfl (by kernel_rfl) (by kernel_rfl) (by kernel_rfl) (fun _ _ _ h => h) rfl hHeld ?ya5 ?ra5
      case ya5 => (intro wz hz; go_simp; first | done | with_reducible rfl)
      try simp only [Act.put, List.setIfInBounds_toArray, List.set_cons_zero, List.set_cons_succ]
      refine take_op (i := 6) (v := ?va6) rfl (by kernel_rfl) (by kernel_rfl) (by kernel_rfl) (fun _ _ _ h => h) rfl hHeld ?ya6 ?ra6
      case ya6 => (intro wz hz; go_simp; first | done | with_reducible rfl)
      try simp only [Act.put, List.setIfInBounds_toArray, List.set_cons_zero, List.set_cons_succ]
      refine take_op (i := 8) (v := ?va8) rfl (by kernel_rfl) (by kernel_rfl) (by kernel_rfl) (fun _ _ _ h => h) rfl hHeld ?ya8 ?ra8
      case ya8 => (intro wz hz; go_simp; first | done | with_reducible rfl)
      try simp only [Act.put, List.setIfInBounds_toArray, List.set_cons_zero, List.set_cons_succ]
      refine take_op (i := 9) (v := ?va9) rfl (by kernel_rfl) (by kernel_rfl) (by kernel_rfl) (fun _ _ _ h => h) rfl hHeld ?ya9 ?ra9
      case ya9 => (intro wz hz; go_simp; first | done | with_reducible rfl)
      try simp only [Act.put, List.setIfInBounds_toArray, List.set_cons_zero, List.set_cons_succ]
      refine take_op (i := 10) (v := ?va10) rfl (by kernel_rfl) (by kernel_rfl) (by kernel_rfl) (fun _ _ _ h => h) rfl hHeld ?ya10 ?ra10
      case ya10 => (intro wz hz; go_simp; first | done | with_reducible rfl)
      try simp only [Act.put, List.setIfInBounds_toArray, List.set_cons_zero, List.set_cons_succ]
      have ly : ∀ wz : World, wz.heap = wr.heap → wz.cell? ⟨g, j, none⟩ = some (.bool y) := fun wz hz => by rw [← cy]; simp [World.cell?, hz]
      have lx : ∀ wz : World, wz.heap = wr.heap → wz.cell? ⟨g, k, none⟩ = some (.bool x) := fun wz hz => by rw [← cx]; simp [World.cell?, hz]
      refine take_two (i := 7) (j := 11) (u := .bool y) (v := .bool x) rfl rfl (by kernel_rfl) rfl rfl trivial ?h7 ?h11 ?o7 ?o11
      case h7 => (have hcz := ly wr.drew rfl; go_simp; first | done | with_reducible rfl)
      case h11 => (have hcz := lx wr.drew rfl; go_simp; first | done | with_reducible rfl)
      case o7 =>
        try simp only [Act.put, List.setIfInBounds_toArray, List.set_cons_zero, List.set_cons_succ]
        refine take_run (i := 11) (v := .bool x) (w' := wr.drew) rfl (by kernel_rfl) rfl ?h11b trivial ?_
        case h11b => (have hcz := lx wr.drew rfl; go_simp; first | done | with_reducible rfl)
        try simp only [Act.put, List.setIfInBounds_toArray, List.set_cons_zero, List.set_cons_succ]
        refine take_op (i := 12) (v := ?vbp12) rfl (by kernel_rfl) (by kernel_rfl) (by kernel_rfl) (fun _ _ _ h => h) rfl hHeld ?ybp12 ?rbp12
        case ybp12 => (intro wz hz; go_simp; first | done | with_reducible rfl)
        try simp only [Act.put, List.setIfInBounds_toArray, List.set_cons_zero, List.set_cons_succ]
        refine take_one (i := 13) rfl (by kernel_rfl) rfl (fun K hK => ?_)
        have f1 := fz k
        go_simp
        refine hK.out _ _ trivial (fun hHeld => ?_)
        clear hK K
        try simp only [Act.put, List.setIfInBounds_toArray, List.set_cons_zero, List.set_cons_succ]
        refine take_op (i := 14) (v := ?vbp14) rfl (by kernel_rfl) (by kernel_rfl) (by kernel_rfl) (fun _ _ _ h => h) rfl hHeld ?ybp14 ?rbp14
        case ybp14 => (intro wz hz; go_simp; first | done | with_reducible rfl)
        try simp only [Act.put, List.setIfInBounds_toArray, List.set_cons_zero, List.set_cons_succ]
        refine take_one (i := 15) rfl (by kernel_rfl) rfl (fun K hK => ?_)
        go_simp
        refine hK.out _ _ trivial (fun hHeld => ?_)
        clear hK K
        try simp only [Act.put, List.setIfInBounds_toArray, List.set_cons_zero, List.set_cons_succ]
        refine wpAnyH_done (by kernel_rfl) ?_ _
        refine NoPanic.normal ?_
        clear cx cy fz hr hbt hs ly lx
        go_wp2
        go_light
        have hj := HJ.out
        exact ⟨⟨k + 1, by go_num, by congr 1; omega, by omega, FIN.out.1, FIN.out.2.1, FIN.out.2.2⟩, by simp [intOf]; omega⟩
      case o11 =>
        try simp only [Act.put, List.setIfInBounds_toArray, List.set_cons_zero, List.set_cons_succ]
        refine take_run (i := 7) (v := .bool y) (w' := wr.drew) rfl (by kernel_rfl) rfl ?h7b trivial ?_
        case h7b => (have hcz := ly wr.drew rfl; go_simp; first | done | with_reducible rfl)
        try simp only [Act.put, List.setIfInBounds_toArray, List.set_cons_zero, List.set_cons_succ]
        refine take_op (i := 12) (v := ?vbq12) rfl (by kernel_rfl) (by kernel_rfl) (by kernel_rfl) (fun _ _ _ h => h) rfl hHeld ?ybq12 ?rbq12
        case ybq12 => (intro wz hz; go_simp; first | done | with_reducible rfl)
        try simp only [Act.put, List.setIfInBounds_toArray, List.set_cons_zero, List.set_cons_succ]
        refine take_one (i := 13) rfl (by kernel_rfl) rfl (fun K hK => ?_)
        have f1 := fz k
        go_simp
        refine hK.out _ _ trivial (fun hHeld => ?_)
        clear hK K
        try simp only [Act.put, List.setIfInBounds_toArray, List.set_cons_zero, List.set_cons_succ]
        refine take_op (i := 14) (v := ?vbq14) rfl (by kernel_rfl) (by kernel_rfl) (by kernel_rfl) (fun _ _ _ h => h) rfl hHeld ?ybq14 ?rbq14
        case ybq14 => (intro wz hz; go_simp; first | done | with_reducible rfl)
        try simp only [Act.put, List.setIfInBounds_toArray, List.set_cons_zero, List.set_cons_succ]
        refine take_one (i := 15) rfl (by kernel_rfl) rfl (fun K hK => ?_)
        go_simp
        refine hK.out _ _ trivial (fun hHeld => ?_)
        clear hK K
        try simp only [Act.put, List.setIfInBounds_toArray, List.set_cons_zero, List.set_cons_succ]
        refine wpAnyH_done (by kernel_rfl) ?_ _
        refine NoPanic.normal ?_
        clear cx cy fz hr hbt hs ly lx
        go_wp2
        go_light
        have hj := HJ.out
        exact ⟨⟨k + 1, by go_num, by congr 1; omega, by omega, FIN.out.1, FIN.out.2.1, FIN.out.2.2⟩, by simp [intOf]; omega⟩
    · have hcc : ¬ (k : Int) < (n : Int) - 1 - (k : Int) := by omega
      have RES : Hid (wr.rowIs g 4 cap (fun i => if i < n then F (n - 1 - i) else F i)) := (show wr.rowIs g 4 cap (fun i => if i < n then F (n - 1 - i) else F i) from hr.congr fun i hi => by
        by_cases e : i < n
        · rw [if_pos e]; exact revF_end F (by omega) hk e
        · rw [if_neg e]; unfold revF; rw [if_neg (fun h => e h.1)])
      have HB2 : Hid _ := hbt
      clear hr hbt
      go_wp2
      go_end0
      exact ⟨rfl, RES.out, hs, HB2.out⟩
end Go.Proofs.YtkgegihkhdgdoaaDoor

/- slices.Reverse of sums. -/
namespace Go.Proofs.YtkgegihkhdgdoaaDoor
set_option linter.unusedSimpArgs false
set_option linter.unusedVariables false
open Go.RowKit Go.Deep

/-- the cells behind k swaps. -/
def revG (G : Nat → Nat → Value) (n k i j : Nat) : Value := if i < n ∧ (i < k ∨ n ≤ i + k) then G (n - 1 - i) j else G i j
theorem revG_lo (G : Nat → Nat → Value) {n k : Nat} (h : 2 * k + 1 < n) (j : Nat) : revG G n k k j = G k j ∧ revG G n k (n - 1 - k) j = G (n - 1 - k) j := by
  unfold revG; rw [if_neg (by omega), if_neg (by omega)]; exact ⟨rfl, rfl⟩
theorem revG_end (G : Nat → Nat → Value) {n k i : Nat} (h : n ≤ 2 * k + 1) (hk : 2 * k ≤ n + 1) (hi : i < n) (j : Nat) : revG G n k i j = G (n - 1 - i) j := by
  unfold revG
  by_cases e : i < k ∨ n ≤ i + k
  · rw [if_pos ⟨hi, e⟩]
  · rw [if_neg (fun h => e h.2)]; congr 1; omega
set_option maxHeartbeats 600000 in
set_option maxRecDepth 100000 in
theorem revSum_any (g n cap : Nat) (G : Nat → Nat → Value) (w : World) (h : w.rowIs g 32 (cap * 32) (fun c => G (c / 32) (c % 32))) (hb : ∀ i j, i < n → j < 32 → (G i j).oneCell' = true) (hn : n ≤ cap) (hm : n ≤ 1000) :
    Calls Tryd.prog 67 #[.slice (some ⟨g, 0, none⟩) n cap] w fun e w' => e = .returned (.tuple #[]) ∧ w'.rowIs g 32 (cap * 32) (fun c => if c / 32 < n then G (n - 1 - c / 32) (c % 32) else G (c / 32) (c % 32)) ∧ w'.heap.size = w.heap.size ∧ But w.heap.size g w w' := by
  have q0 : (n : Int) ≤ 1000 := by omega
  have hlt := h.lt
  have H0 : Hid _ := h
  have HB : Hid _ := hb
  clear h hb
  go_enter Tryd.func67, Tryd.ntmps67
  go_wp2
  go_loopw [2, 3] (fun x y wr => ∃ k : Nat, x = .int .i64 (k : Int) ∧ y = .int .i64 ((n : Int) - 1 - (k : Int)) ∧ 2 * k ≤ n + 1 ∧ wr.rowIs g 32 (cap * 32) (fun c => revG G n k (c / 32) (c % 32)) ∧ wr.heap.size = w.heap.size ∧ But w.heap.size g w wr) (fun x _ _ => n - (intOf x).toNat)
  case atStart => exact ⟨0, rfl, by simp, by omega, World.rowIs.congr H0.out (fun i _ => by unfold revG; rw [if_neg (by omega)]), rfl, But.refl _ _ _⟩
  case round =>
    obtain ⟨k, rfl, rfl, hk, hr, hs, hbt⟩ := hrel
    clear H0
    by_cases hc : 2 * k + 1 < n
    · obtain ⟨j, hj⟩ : ∃ j : Nat, j = n - 1 - k := ⟨_, rfl⟩
      have hl := revG_lo G hc
      have cx : ∀ i, i < 32 → wr.cell? ⟨g, k * 32 + i, none⟩ = some (G k i) := fun i hi => by
        rw [hr.cell (by omega), show (k * 32 + i) / 32 = k by omega, show (k * 32 + i) % 32 = i by omega, (hl i).1]
      have cy : ∀ i, i < 32 → wr.cell? ⟨g, j * 32 + i, none⟩ = some (G j i) := fun i hi => by
        rw [hr.cell (by omega), show (j * 32 + i) / 32 = j by omega, show (j * 32 + i) % 32 = i by omega, hj, (hl i).2]
      have hji : ((n : Int) - 1 - (k : Int)) = (j : Int) := by omega
      rw [hji]
      have p0 : (0 : Int) ≤ (k : Int) := by omega
      have p1 : (k : Int) < (n : Int) := by omega
      have p2 : (0 : Int) ≤ (j : Int) := by omega
      have p3 : (j : Int) < (n : Int) := by omega
      have p4 : (k : Int) < (j : Int) := by omega
      have th1 : wr.drew.there g (k * 32) 32 := there_of_row (w := wr.drew) hr (by omega)
      have r1 := rowIs_splice (o := k * 32) (m := 32) (g := G j) hr
      have th2 : (wr.drew.setCells g (k * 32) (rowV 32 (G j)).toList).there g (j * 32) 32 := there_of_row (rowIs_splice (o := k * 32) (m := 32) (g := G j) (w := wr.drew) hr) (by omega)
      have FIN : Hid (((wr.drew.setCells g (k * 32) (rowV 32 (G j)).toList).setCells g (j * 32) (rowV 32 (G k)).toList).rowIs g 32 (cap * 32) (fun c => revG G n (k + 1) (c / 32) (c % 32)) ∧ ((wr.drew.setCells g (k * 32) (rowV 32 (G j)).toList).setCells g (j * 32) (rowV 32 (G k)).toList).heap.size = w.heap.size ∧ But w.heap.size g w ((wr.drew.setCells g (k * 32) (rowV 32 (G j)).toList).setCells g (j * 32) (rowV 32 (G k)).toList)) := (show _ from by
        have R2 := rowIs_splice (o := j * 32) (m := 32) (g := G k) (rowIs_splice (o := k * 32) (m := 32) (g := G j) (w := wr.drew) hr)
        refine ⟨R2.congr fun i hi => ?_, ?_, ?_⟩
        · show (if j * 32 ≤ i ∧ i < j * 32 + 32 then G k (i - j * 32) else if k * 32 ≤ i ∧ i < k * 32 + 32 then G j (i - k * 32) else revG G n k (i / 32) (i % 32)) = _
          unfold revG
          by_cases e1 : i / 32 = j
          · rw [if_pos (by omega), if_pos (by omega), show n - 1 - i / 32 = k by omega, show i - j * 32 = i % 32 by omega]
          · rw [if_neg (by omega)]
            by_cases e2 : i / 32 = k
            · rw [if_pos (by omega), if_pos (by omega), show n - 1 - i / 32 = j by omega, show i - k * 32 = i % 32 by omega]
            · rw [if_neg (by omega)]
              by_cases e3 : i / 32 < n ∧ (i / 32 < k ∨ n ≤ i / 32 + k)
              · rw [if_pos e3, if_pos ⟨e3.1, by omega⟩]
              · rw [if_neg e3, if_neg (by omega)]
        · rw [size_setCells, size_setCells]; exact hs
        · exact but_setCells _ _ (but_setCells _ _ hbt.drew))
      have HJ : Hid _ := hj
      have o1 := fun i (hi : i < 32) => HB.out k i (by omega) hi
      have o2 := fun i (hi : i < 32) => HB.out j i (by omega) hi
      clear hj hji hr hl r1
      go_upto_region 3 with fail
      refine wp_region_noPanic ?_
      refine wp_region_held_drew (S := fun w' => True) (by kernel_rfl) trivial (fun hHeld => ?_)
      refine take_op (i := 0) (v := ?va0) rfl (by kernel_rfl) (by kernel_rfl) (by kernel_rfl) (fun _ _ _ h => h) rfl hHeld ?ya0 ?ra0
      case ya0 => (intro wz hz; go_simp; first | done | with_reducible rfl)
      try simp only [Act.put, List.setIfInBounds_toArray, List.set_cons_zero, List.set_cons_succ]
      refine take_op (i := 1) (v := ?va1) rfl (by kernel_rfl) (by kernel_rfl) (by kernel_rfl) (fun _ _ _ h => h) rfl hHeld ?ya1 ?ra1
      case ya1 => (intro wz hz; go_simp; first | done | with_reducible rfl)
      try simp only [Act.put, List.setIfInBounds_toArray, List.set_cons_zero, List.set_cons_succ]
      refine take_op (i := 2) (v := ?va2) rfl (by kernel_rfl) (by kernel_rfl) (by kernel_rfl) (fun _ _ _ h => h) rfl hHeld ?ya2 ?ra2
      case ya2 => (intro wz hz; go_simp; first | done | with_reducible rfl)
      try simp only [Act.put, List.setIfInBounds_toArray, List.set_cons_zero, List.set_cons_succ]
      refine take_op (i := 3) (v := ?va3) rfl (by kernel_rfl) (by kernel_rfl) (by kernel_rfl) (fun _ _ _ h => h) rfl hHeld ?ya3 ?ra3
      case ya3 => (intro wz hz; go_simp; first | done | with_reducible rfl)
      try simp only [Act.put, List.setIfInBounds_toArray, List.set_cons_zero, List.set_cons_succ]
      refine take_op (i := 4) (v := ?va4) rfl (by kernel_rfl) (by kernel_rfl) (by kernel_rfl) (fun _ _ _ h => h) rfl hHeld ?ya4 ?ra4
      case ya4 => (intro wz hz; go_simp; first | done | with_reducible rfl)
      try simp only [Act.put, List.setIfInBounds_toArray, List.set_cons_zero, List.set_cons_succ]
      refine take_op (i := 5) (v := ?va5) rfl (by kernel_rfl) (by kernel_rfl) (by kernel_rfl) (fun _ _ _ h => h) rfl hHeld ?ya5 ?ra5
      case ya5 => (intro wz hz; go_simp; first | done | with_reducible rfl)
      try simp only [Act.put, List.setIfInBounds_toArray, List.set_cons_zero, List.set_cons_succ]
      refine take_op (i := 6) (v := ?va6) rfl (by kernel_rfl) (by kernel_rfl) (by kernel_rfl) (fun _ _ _ h => h) rfl hHeld ?ya6 ?ra6
      case ya6 => (intro wz hz; go_simp; first | done | with_reducible rfl)
      try simp only [Act.put, List.setIfInBounds_toArray, List.set_cons_zero, List.set_cons_succ]
      refine take_op (i := 8) (v := ?va8) rfl (by kernel_rfl) (by kernel_rfl) (by kernel_rfl) (fun _ _ _ h => h) rfl hHeld ?ya8 ?ra8
      case ya8 => (intro wz hz; go_simp; first | done | with_reducible rfl)
      try simp only [Act.put, List.setIfInBounds_toArray, List.set_cons_zero, List.set_cons_succ]
      refine take_op (i := 9) (v := ?va9) rfl (by kernel_rfl) (by kernel_rfl) (by kernel_rfl) (fun _ _ _ h => h) rfl hHeld ?ya9 ?ra9
      case ya9 => (intro wz hz; go_simp; first | done | with_reducible rfl)
      try simp only [Act.put, List.setIfInBounds_toArray, List.set_cons_zero, List.set_cons_succ]
      refine take_op (i := 10) (v := ?va10) rfl (by kernel_rfl) (by kernel_rfl) (by kernel_rfl) (fun _ _ _ h => h) rfl hHeld ?ya10 ?ra10
      case ya10 => (intro wz hz; go_simp; first | done | with_reducible rfl)
      try simp only [Act.put, List.setIfInBounds_toArray, List.set_cons_zero, List.set_cons_succ]
      refine take_two (i := 7) (j := 11) (u := .agg (rowV 32 (G j))) (v := .agg (rowV 32 (G k))) rfl rfl (by kernel_rfl) rfl rfl trivial ?h7 ?h11 ?o7 ?o11
      case h7 => exact exec_load_row 32 _ rfl g (j * 32) 32 (G j) rfl _ Tryd.underlying32 rfl hi32' cy
      case h11 => exact exec_load_row 32 _ rfl g (k * 32) 32 (G k) rfl _ Tryd.underlying32 rfl hi32' cx
      case o7 =>
        try simp only [Act.put, List.setIfInBounds_toArray, List.set_cons_zero, List.set_cons_succ]
        refine take_run (i := 11) (v := .agg (rowV 32 (G k))) (w' := wr.drew) rfl (by kernel_rfl) rfl ?h11b trivial ?_
        case h11b => exact exec_load_row 32 _ rfl g (k * 32) 32 (G k) rfl _ Tryd.underlying32 rfl hi32' cx
        try simp only [Act.put, List.setIfInBounds_toArray, List.set_cons_zero, List.set_cons_succ]
        refine take_op (i := 12) (v := ?vbp12) rfl (by kernel_rfl) (by kernel_rfl) (by kernel_rfl) (fun _ _ _ h => h) rfl hHeld ?ybp12 ?rbp12
        case ybp12 => (intro wz hz; go_simp; first | done | with_reducible rfl)
        try simp only [Act.put, List.setIfInBounds_toArray, List.set_cons_zero, List.set_cons_succ]
        refine take_one (i := 13) rfl (by kernel_rfl) rfl (fun K hK => ?_)
        have e13 := stowR_run (P := Tryd.prog) (wr.drew) 32 g (k * 32) 32 (G j) hi32' o2 th1
        unfold Oper.wp execOp
        simp only [Instr.storeAt, Instr.sureAddr, Sem.run_bind, Sem.run_pure, Result.andThen_ok]
        simp [Act.eval, e13, Oper.upon]
        clear e13
        refine hK.out _ _ trivial (fun hHeld => ?_)
        clear hK K
        try simp only [Act.put, List.setIfInBounds_toArray, List.set_cons_zero, List.set_cons_succ]
        refine take_op (i := 14) (v := ?vbp14) rfl (by kernel_rfl) (by kernel_rfl) (by kernel_rfl) (fun _ _ _ h => h) rfl hHeld ?ybp14 ?rbp14
        case ybp14 => (intro wz hz; go_simp; first | done | with_reducible rfl)
        try simp only [Act.put, List.setIfInBounds_toArray, List.set_cons_zero, List.set_cons_succ]
        refine take_one (i := 15) rfl (by kernel_rfl) rfl (fun K hK => ?_)
        have e15 := stowR_run (P := Tryd.prog) (wr.drew.setCells g (k * 32) (rowV 32 (G j)).toList) 32 g (j * 32) 32 (G k) hi32' o1 th2
        unfold Oper.wp execOp
        simp only [Instr.storeAt, Instr.sureAddr, Sem.run_bind, Sem.run_pure, Result.andThen_ok]
        simp [Act.eval, e15, Oper.upon]
        clear e15
        refine hK.out _ _ trivial (fun hHeld => ?_)
        clear hK K
        try simp only [Act.put, List.setIfInBounds_toArray, List.set_cons_zero, List.set_cons_succ]
        refine wpAnyH_done (by kernel_rfl) ?_ _
        refine NoPanic.normal ?_
        clear cx cy hbt hs th1 th2 o1 o2
        generalize (wr.drew.setCells g (k * 32) (rowV 32 (G j)).toList).setCells g (j * 32) (rowV 32 (G k)).toList = w9 at FIN ⊢
        go_wp2
        go_light
        have hj := HJ.out
        exact ⟨⟨k + 1, by go_num, by congr 1; omega, by omega, FIN.out.1, FIN.out.2.1, FIN.out.2.2⟩, by simp [intOf]; omega⟩
      case o11 =>
        try simp only [Act.put, List.setIfInBounds_toArray, List.set_cons_zero, List.set_cons_succ]
        refine take_run (i := 7) (v := .agg (rowV 32 (G j))) (w' := wr.drew) rfl (by kernel_rfl) rfl ?h7b trivial ?_
        case h7b => exact exec_load_row 32 _ rfl g (j * 32) 32 (G j) rfl _ Tryd.underlying32 rfl hi32' cy
        try simp only [Act.put, List.setIfInBounds_toArray, List.set_cons_zero, List.set_cons_succ]
        refine take_op (i := 12) (v := ?vbq12) rfl (by kernel_rfl) (by kernel_rfl) (by kernel_rfl) (fun _ _ _ h => h) rfl hHeld ?ybq12 ?rbq12
        case ybq12 => (intro wz hz; go_simp; first | done | with_reducible rfl)
        try simp only [Act.put, List.setIfInBounds_toArray, List.set_cons_zero, List.set_cons_succ]
        refine take_one (i := 13) rfl (by kernel_rfl) rfl (fun K hK => ?_)
        have e13 := stowR_run (P := Tryd.prog) (wr.drew) 32 g (k * 32) 32 (G j) hi32' o2 th1
        unfold Oper.wp execOp
        simp only [Instr.storeAt, Instr.sureAddr, Sem.run_bind, Sem.run_pure, Result.andThen_ok]
        simp [Act.eval, e13, Oper.upon]
        clear e13
        refine hK.out _ _ trivial (fun hHeld => ?_)
        clear hK K
        try simp only [Act.put, List.setIfInBounds_toArray, List.set_cons_zero, List.set_cons_succ]
        refine take_op (i := 14) (v := ?vbq14) rfl (by kernel_rfl) (by kernel_rfl) (by kernel_rfl) (fun _ _ _ h => h) rfl hHeld ?ybq14 ?rbq14
        case ybq14 => (intro wz hz; go_simp; first | done | with_reducible rfl)
        try simp only [Act.put, List.setIfInBounds_toArray, List.set_cons_zero, List.set_cons_succ]
        refine take_one (i := 15) rfl (by kernel_rfl) rfl (fun K hK => ?_)
        have e15 := stowR_run (P := Tryd.prog) (wr.drew.setCells g (k * 32) (rowV 32 (G j)).toList) 32 g (j * 32) 32 (G k) hi32' o1 th2
        unfold Oper.wp execOp
        simp only [Instr.storeAt, Instr.sureAddr, Sem.run_bind, Sem.run_pure, Result.andThen_ok]
        simp [Act.eval, e15, Oper.upon]
        clear e15
        refine hK.out _ _ trivial (fun hHeld => ?_)
        clear hK K
        try simp only [Act.put, List.setIfInBounds_toArray, List.set_cons_zero, List.set_cons_succ]
        refine wpAnyH_done (by kernel_rfl) ?_ _
        refine NoPanic.normal ?_
        clear cx cy hbt hs th1 th2 o1 o2
        generalize (wr.drew.setCells g (k * 32) (rowV 32 (G j)).toList).setCells g (j * 32) (rowV 32 (G k)).toList = w9 at FIN ⊢
        go_wp2
        go_light
        have hj := HJ.out
        exact ⟨⟨k + 1, by go_num, by congr 1; omega, by omega, FIN.out.1, FIN.out.2.1, FIN.out.2.2⟩, by simp [intOf]; omega⟩
    · have hcc : ¬ (k : Int) < (n : Int) - 1 - (k : Int) := by omega
      have RES : Hid (wr.rowIs g 32 (cap * 32) (fun c => if c / 32 < n then G (n - 1 - c / 32) (c % 32) else G (c / 32) (c % 32))) := (show wr.rowIs g 32 (cap * 32) (fun c => if c / 32 < n then G (n - 1 - c / 32) (c % 32) else G (c / 32) (c % 32)) from hr.congr fun i hi => by
        by_cases e : i / 32 < n
        · rw [if_pos e]; exact revG_end G (by omega) hk e _
        · rw [if_neg e]; unfold revG; rw [if_neg (fun h => e h.1)])
      have HB2 : Hid _ := hbt
      clear hr hbt
      go_wp2
      go_end0
      exact ⟨rfl, RES.out, hs, HB2.out⟩
/-- slices.Reverse of the call's own sums. -/
theorem revSums_any (B : Nat) (v : Value) (L : List (List Int)) (w : World) (h : newSums w B v L) (hm : L.length ≤ 1000) :
    Calls Tryd.prog 67 #[v] w fun e w' => e = .returned (.tuple #[]) ∧ newSums w' B v L.reverse ∧ w'.heap.size = w.heap.size ∧ (∀ j, v.ownBlock ≠ some j → j < w.heap.size → w'.heap[j]? = w.heap[j]?) ∧ Below B w w' := by
  obtain ⟨hs, hl, hh | ⟨g, cap, cur, rfl, hB, hg, hc, hmx, hcs, htk⟩⟩ := h
  · obtain ⟨rfl, h0⟩ := hh
    have e : L = [] := List.eq_nil_of_length_eq_zero h0
    subst e
    go_enter Tryd.func67, Tryd.ntmps67
    go_wp2
    go_loopw [2, 3] (fun x y wr => x = .int .i64 0 ∧ y = .int .i64 (-1) ∧ wr = w) (fun x _ _ => 0)
    case atStart => exact ⟨rfl, rfl, rfl⟩
    case round =>
      obtain ⟨rfl, rfl, rfl⟩ := hrel
      go_wp2
      go_end0
      exact ⟨rfl, newSums.nil _ _, rfl, fun _ _ _ => rfl, Below.refl _ _⟩
  · have hrow : w.rowIs g 32 (cap * 32) (fun c => cur.getD (c / 32 * 32 + c % 32) undef) := ⟨cur, hg, hcs, fun i hi => by show cur[i]? = some (cur.getD (i / 32 * 32 + i % 32) undef); rw [show i / 32 * 32 + i % 32 = i by omega, Array.getElem?_eq_getElem (by omega)]; simp [Array.getD, hcs, hi]⟩
    have hcell : ∀ i (hi : i < L.length) j, j < 32 → cur.getD (i * 32 + j) undef = arrV L[i] j := fun i hi j hj => by
      have h1 := sumsC_get L i j _ (List.getElem?_eq_getElem hi) hj
      rw [← htk, List.getElem?_take, if_pos (by omega), Array.getElem?_toList] at h1
      simp [Array.getD_eq_getD_getElem?, h1]
    refine (revSum_any g L.length cap (fun i j => cur.getD (i * 32 + j) undef) w hrow (fun i j hi hj => by rw [hcell i hi j hj]; rfl) hc hm).mono ?_
    rintro e w' ⟨rfl, hr, hz, hb⟩
    refine ⟨rfl, ⟨fun x hx => hs x (List.mem_reverse.1 hx), ?_⟩, hz, fun j hj hjl => hb.block j hjl (fun e => hj (by rw [e]; rfl)), ⟨hb.os, hb.tape, hb.output, hb.size, fun k hk => hb.block k (by have := (Array.getElem?_eq_some_iff.1 hg).1; omega) (by omega)⟩⟩
    obtain ⟨c', hb', hs', hc'⟩ := hr
    refine ⟨by rw [sumsC_len, List.length_reverse], Or.inr ⟨g, cap, c', by rw [List.length_reverse], hB, hb', by rw [List.length_reverse]; exact hc, hmx, hs', ?_⟩⟩
    refine List.ext_getElem? fun i => ?_
    rw [List.length_reverse]
    by_cases hi : i < L.length * 32
    · rw [List.getElem?_take, if_pos hi, Array.getElem?_toList, hc' i (by have := Nat.mul_le_mul_right 32 hc; omega)]
      show some (if i / 32 < L.length then cur.getD ((L.length - 1 - i / 32) * 32 + i % 32) undef else cur.getD (i / 32 * 32 + i % 32) undef) = _
      rw [if_pos (by omega), hcell _ (by omega) _ (by omega)]
      have h2 := sumsC_get L.reverse (i / 32) (i % 32) L[L.length - 1 - i / 32] (by rw [List.getElem?_reverse (by omega)]; exact List.getElem?_eq_getElem _) (by omega)
      rw [show i / 32 * 32 + i % 32 = i by omega] at h2
      exact h2.symm
    · rw [List.getElem?_take, if_neg hi, List.getElem?_eq_none (by rw [sumsC_len, List.length_reverse]; omega)]
end Go.Proofs.YtkgegihkhdgdoaaDoor

/- tree.Lead: what it asks for. -/
namespace Go.Proofs.YtkgegihkhdgdoaaDoor
set_option linter.unusedSimpArgs false
set_option linter.unusedVariables false
open Go.RowKit Go.Deep

/-- the place is there, and the path as long as it must be. -/
def okLead (n at_ : Int) (path : List (List Int)) : Bool := thereB n at_ && decide (path.length = (wayI n at_).length)
end Go.Proofs.YtkgegihkhdgdoaaDoor

/- tree.Lead: what is refused. -/
namespace Go.Proofs.YtkgegihkhdgdoaaDoor
set_option linter.unusedSimpArgs false
set_option linter.unusedVariables false
open Go.RowKit Go.Deep

set_option maxHeartbeats 1000000 in
set_option maxRecDepth 100000 in
theorem lead_no (kv : Value) (n at_ : Int) (hn : -9223372036854775808 ≤ n ∧ n ≤ 9223372036854775807) (ha : -9223372036854775808 ≤ at_ ∧ at_ ≤ 9223372036854775807) (leaf : List Int) (path : List (List Int)) (pv : Value) (w : World)
    (hp : sumsAt w pv path) (hlen : path.length ≤ 1000) (hno : okLead n at_ path = false) :
    Calls Tryd.prog 77 #[kv, .int .i64 n, .int .i64 at_, sumV leaf, pv] w fun e w' => e = .returned (.tuple #[.agg (rowV 32 (fun _ => .int .u8 0)), .int .i64 10]) ∧ Below w.heap.size w w' := by
  have hz32 := zero_s32
  obtain ⟨w1, hw1⟩ : ∃ w1, w1 = (w.alloc (.cells (rowV 32 (arrV leaf)) 32)).alloc (.cells (rowV 32 (fun _ => .int .u8 0)) 32) := ⟨_, rfl⟩
  have s1 : w1.heap.size = w.heap.size + 2 := by rw [hw1]; simp
  have b1 : Below w.heap.size w w1 := by rw [hw1]; exact ((Below.refl _ _).alloc (Nat.le_refl _) _).alloc (by simp) _
  have r1 : w1.rowIs (w.heap.size + 1) 32 32 (fun _ => .int .u8 0) := by
    rw [hw1]
    have := rowIs_box (w.alloc (.cells (rowV 32 (arrV leaf)) 32)) 32 32 (fun _ => .int .u8 0)
    rwa [World.size_alloc] at this
  have X1 := within_any n at_ w1
  have X2 := depth_any n at_ hn ha w1
  obtain ⟨_, pa, pc, rfl, _, _, _⟩ := hp
  have q0 : (path.length : Int) ≤ 1000 := by omega
  refine callsIn_wide (n := 3) |>.1 ?_
  refine callsIn_of_wp_marks Tryd.func77 rfl trivial ?_ rfl
  refine wpIn_wide.2 ?_
  simp only [Tryd.ntmps77, List.size_toArray, List.length_cons, List.length_nil, Nat.reduceAdd, Nat.reduceSub, Array.replicate_succ, Array.replicate_zero, List.push_toArray, List.append_toArray, List.nil_append, List.cons_append]
  unfold sumV
  go_upto_region 1 with fail
  rw [← hw1]
  have S1 : Hid _ := s1
  have B1 : Hid _ := b1
  clear hw1 s1 b1
  cases hth : thereB n at_ with
  | false =>
    rw [hth] at X1
    clear X2
    go_wp2_with fail
    refine X1.mono ?_
    rintro e w' ⟨rfl, hw⟩
    obtain rfl := hw.symm
    clear X1 hw
    go_wp2_with (first | (refine wpList_store_row rfl 32 _ _ rfl rfl (w.heap.size + 1) 0 32 (fun _ => .int .u8 0) rfl rfl hi32' (fun _ _ => rfl) _ _ _ r1 (by omega) ?_; intro w6 r6 hz6 hb6))
    exact bodyPostM_ret (results_cell_seg2 rfl _ _ (w.heap.size + 1) 32 32 (fun _ => .int .u8 0) _ rfl Tryd.underlying32 rfl hi32' (r6.congr fun i hi => by rw [if_pos (by omega)])) rfl ⟨rfl, B1.out.trans (((hb6.mono (show w.heap.size ≤ _ by have := S1.out; omega)).below (by omega)))⟩
  | true =>
    rw [hth] at X1
    have hne : path.length ≠ (wayI n at_).length := by
      intro e
      simp [okLead, hth, e] at hno
    have hni : ¬ (path.length : Int) = ((wayI n at_).length : Int) := by omega
    generalize (wayI n at_).length = m at X2 hni
    clear hne
    go_wp2_with fail
    refine X1.mono ?_
    rintro e w' ⟨rfl, hw⟩
    obtain rfl := hw.symm
    clear X1 hw
    go_wp2_with fail
    refine X2.mono ?_
    rintro e w2 ⟨rfl, b2⟩
    clear X2
    have s2 := b2.size
    have B2 : Hid _ := b2
    have r2 : w2.rowIs (w.heap.size + 1) 32 32 (fun _ => .int .u8 0) := b2.row r1 (by have := S1.out; omega)
    clear b2
    go_wp2_with (first | (refine wpList_store_row rfl 32 _ _ rfl rfl (w.heap.size + 1) 0 32 (fun _ => .int .u8 0) rfl rfl hi32' (fun _ _ => rfl) _ _ _ r2 (by omega) ?_; intro w6 r6 hz6 hb6))
    exact bodyPostM_ret (results_cell_seg2 rfl _ _ (w.heap.size + 1) 32 32 (fun _ => .int .u8 0) _ rfl Tryd.underlying32 rfl hi32' (r6.congr fun i hi => by rw [if_pos (by omega)])) rfl ⟨rfl, (B1.out.trans (B2.out.mono (by have := S1.out; omega))).trans (((hb6.mono (show w.heap.size ≤ _ by have := S1.out; omega)).below (by omega)))⟩
end Go.Proofs.YtkgegihkhdgdoaaDoor

/- tree.Lead: the steps that are kept. -/
namespace Go.Proofs.YtkgegihkhdgdoaaDoor
set_option linter.unusedSimpArgs false
set_option linter.unusedVariables false
open Go.RowKit Go.Deep Go.Shelf
attribute [local go_sem] Oper.semAt_some

theorem infoB : (Tryd.prog.info? 4).map (fun i => (i.zero, i.size, i.bytes)) = some (some (.bool false), 1, 1) := by kernel_rfl
/-- append(steps, left). -/
theorem bl_append_run (w : World) (B : Nat) (v u : Value) (xs : List Value) (hv : owns w B 4 v xs) (hu : u.oneCell' = true) (hs : xs.length < 1000000) (hB : B ≤ w.heap.size) :
    ∃ a c w', (Builtin.append_ #[141, 141] 141 #[v, .slice (some ⟨w.heap.size, 0, none⟩) 1 1]).run Tryd.prog (w.alloc (.cells #[u] 4)) = .ok (.slice a (xs.length + 1) c) w' ∧ owns w' B 4 (.slice a (xs.length + 1) c) (xs ++ [u]) ∧
      Below B w w' ∧ (∀ j, j < w.heap.size → v.ownBlock ≠ some j → w'.heap[j]? = w.heap[j]?) ∧ ((Value.slice a (xs.length + 1) c).ownBlock = v.ownBlock ∨ (Value.slice a (xs.length + 1) c).ownBlock = some (w.heap.size + 1)) := by
  have b0 : Below w.heap.size w (w.alloc (.cells #[u] 4)) := (Below.refl _ _).alloc (Nat.le_refl _) _
  have h1 := hv.alloc (.cells #[u] 4)
  obtain ⟨a, c, w', hr, ho, hg, hat⟩ := row_append (P := Tryd.prog) (w.alloc (.cells #[u] 4)) 141 141 4 (.bool false) 1 1 Tryd.underlying141 infoB rfl (by omega)
    B v xs.length xs h1 (.slice (some ⟨w.heap.size, 0, none⟩) 1 1) 1 [u] rfl
    ⟨_, _, rfl, fun _ => ⟨w.heap.size, 0, rfl, fun j x hx => by
      match j with
      | 0 =>
        have : u = x := by simpa using hx
        subst this; exact one_cell w _ _
      | j + 1 => simp at hx⟩⟩
    (fun x hx => by
      have : x = u := by simpa using hx
      subst this; exact hu) (by unfold maxLen; omega) (by omega) (by simp; omega)
  refine ⟨a, c, w', hr, by unfold owns; rw [List.length_append]; exact ho, (b0.mono hB).trans (below_grown hg (fun k hk => (hv.block k hk).1) (by simp; omega)), fun j hj hne => ?_, ?_⟩
  · exact (hg.block j (by simp; omega) (fun e => hne e.symm)).trans (blk_alloc_lt _ _ _ hj)
  · rw [World.size_alloc] at hat; exact hat
def boolsV (l : List (Nat × Bool)) : List Value := l.map fun x => .bool x.2
/-- the box of a slice of bools of the call's own, and what it holds. -/
def stepsAt (W : World) (B bx : Nat) (l : List (Nat × Bool)) : Prop := ∃ v, W.rowIs bx 141 1 (fun _ => v) ∧ owns W B 4 v (boolsV l) ∧ ∀ j, v.ownBlock = some j → j ≠ bx
theorem stepsAt.far {W W' : World} {B bx : Nat} {l : List (Nat × Bool)} (h : stepsAt W B bx l) (hb : ∀ j, B ≤ j → j < W.heap.size → W'.heap[j]? = W.heap[j]?) (hx : W'.heap[bx]? = W.heap[bx]?) : stepsAt W' B bx l := by
  obtain ⟨v, h1, h2, h3⟩ := h
  exact ⟨v, World.rowIs.of_block h1 hx, h2.far (fun k hk => hb k (h2.block k hk).1 (h2.block k hk).2), h3⟩
theorem boolsV_get (l : List (Nat × Bool)) (i : Nat) (h : i < l.length) : (boolsV l)[i]? = some (.bool l[i].2) := by simp [boolsV, h]
theorem owns_not_loop {W : World} {B : Nat} {e : TypeId} {v : Value} {xs : List Value} (h : owns W B e v xs) {b : Nat} {o : Obj} (hb : W.heap[b]? = some o) (ho : o.isCells = false) : ∀ j, v.ownBlock = some j → j ≠ b := by
  intro j hj e'
  subst e'
  obtain ⟨_, h | ⟨g, cap, cur, rfl, _, hg, _⟩⟩ := h
  · rw [h.1] at hj; cases hj
  · obtain rfl : g = j := by simpa [Value.ownBlock] using hj
    rw [hb] at hg; cases hg; cases ho
theorem stepsAt.put {W : World} {B bx : Nat} {l : List (Nat × Bool)} (h : stepsAt W B bx l) {b : Nat} {o : Obj} (o' : Obj) (hb : W.heap[b]? = some o) (ho : o.isCells = false) : stepsAt (W.putObj b o') B bx l := by
  obtain ⟨v, h1, h2, h3⟩ := h
  refine ⟨v, World.rowIs.of_block h1 (putObj_block W b o' (fun e => ?_)), h2.far (fun k hk => putObj_block W b o' (owns_not_loop h2 hb ho k hk)), h3⟩
  subst e
  obtain ⟨cs, hc, _⟩ := h1
  rw [hb] at hc; cases hc; cases ho
set_option maxHeartbeats 1000000 in
set_option maxRecDepth 100000 in
/-- slices.Reverse of the call's own bools. -/
theorem revBools_any (B : Nat) (v : Value) (l : List (Nat × Bool)) (w : World) (h : owns w B 4 v (boolsV l)) (hm : l.length ≤ 1000) :
    Calls Tryd.prog 95 #[v] w fun e w' => e = .returned (.tuple #[]) ∧ owns w' B 4 v (boolsV l.reverse) ∧ w'.heap.size = w.heap.size ∧ (∀ j, v.ownBlock ≠ some j → j < w.heap.size → w'.heap[j]? = w.heap[j]?) ∧ Below B w w' := by
  have hbl : (boolsV l).length = l.length := by simp [boolsV]
  obtain ⟨hl, hh | ⟨g, cap, cur, rfl, hB, hg, hc, hmx, hcs, htk⟩⟩ := h
  · obtain ⟨rfl, h0⟩ := hh
    have e : l = [] := List.eq_nil_of_length_eq_zero (by omega)
    subst e
    go_enter Tryd.func95, Tryd.ntmps95
    go_wp2
    go_loopw [2, 3] (fun x y wr => x = .int .i64 0 ∧ y = .int .i64 (-1) ∧ wr = w) (fun x _ _ => 0)
    case atStart => exact ⟨rfl, rfl, rfl⟩
    case round =>
      obtain ⟨rfl, rfl, rfl⟩ := hrel
      go_wp2
      go_end0
      exact ⟨rfl, owns_nil _ _ _, rfl, fun _ _ _ => rfl, Below.refl _ _⟩
  · rw [Nat.mul_one] at htk hcs
    rw [hbl] at hc htk ⊢
    have hcell : ∀ i (hi : i < l.length), cur.getD i undef = .bool l[i].2 := fun i hi => by
      have h1 := boolsV_get l i hi
      rw [← htk, List.getElem?_take, if_pos hi, Array.getElem?_toList] at h1
      simp [Array.getD_eq_getD_getElem?, h1]
    have hrow : w.rowIs g 4 cap (fun i => cur.getD i undef) := ⟨cur, hg, hcs, fun i hi => by simp [Array.getD, hcs, hi]⟩
    refine (revBool_any g l.length cap (fun i => cur.getD i undef) w hrow (fun i hi => ⟨_, hcell i hi⟩) hc hm).mono ?_
    rintro e w' ⟨rfl, hr, hz, hb⟩
    have hlt := (Array.getElem?_eq_some_iff.1 hg).1
    refine ⟨rfl, ?_, hz, fun j hj hjl => hb.block j hjl (fun e => hj (by rw [e]; rfl)), ⟨hb.os, hb.tape, hb.output, hb.size, fun k hk => hb.block k (by omega) (by omega)⟩⟩
    obtain ⟨c', hb', hs', hc'⟩ := hr
    have hbr : (boolsV l.reverse).length = l.length := by simp [boolsV]
    refine ⟨by rw [Nat.mul_one], Or.inr ⟨g, cap, c', by rw [hbr], hB, hb', by rw [hbr]; exact hc, hmx, by rw [Nat.mul_one]; exact hs', ?_⟩⟩
    refine List.ext_getElem? fun i => ?_
    rw [hbr, Nat.mul_one]
    by_cases hi : i < l.length
    · rw [List.getElem?_take, if_pos hi, Array.getElem?_toList, hc' i (by omega)]
      show some (if i < l.length then cur.getD (l.length - 1 - i) undef else cur.getD i undef) = _
      rw [if_pos hi, hcell _ (by omega), boolsV_get l.reverse i (by rw [List.length_reverse]; exact hi)]
      rw [List.getElem_reverse]
    · rw [List.getElem?_take, if_neg hi, List.getElem?_eq_none (by omega)]
end Go.Proofs.YtkgegihkhdgdoaaDoor
