import Derived.Sort.CutIn
import Derived.Test.YthpnenblmkdmcaaDoorOwn1
import Derived.Test.YthpnenblmkdmcaaDoorOwn5
set_option linter.unusedVariables false
set_option linter.unusedSimpArgs false
/- tree.Root: of two leaves and more. -/
namespace Go.Proofs.YthpnenblmkdmcaaDoor
set_option linter.unusedSimpArgs false
set_option linter.unusedVariables false
open Go.RowKit Go.Deep

set_option maxHeartbeats 4000000 in
set_option maxRecDepth 100000 in
theorem root_nil : ∀ (n : Nat) (L : List (List Int)) (v : Value) (w : World), L.length ≤ n → n ≤ 1000 → sumsAt w v L → tabIs w →
    Calls Tryd.prog 18 #[.pointer none, v] w fun e w' => e = .returned (sumV (rootS L)) ∧ Below w.heap.size w w' := by
  intro n
  induction n with
  | zero =>
    intro L v w hn h1000 h ht
    exact root_nil_small L v w (by omega) h ht
  | succ n ih =>
  intro L v w hn h1000 h ht
  by_cases hsm : L.length ≤ 1
  · exact root_nil_small L v w hsm h ht
  have h2 : 2 ≤ L.length := by omega
  have hh := half_take h2
  have hz32 := zero_s32
  obtain ⟨w1, hw1⟩ : ∃ w1, w1 = w.alloc (.cells (rowV 32 (fun _ => .int .u8 0)) 29) := ⟨_, rfl⟩
  have r1 : w1.rowIs w.heap.size 29 32 (fun _ => .int .u8 0) := by rw [hw1]; exact rowIs_box w _ _ _
  have b1 : Below w.heap.size w w1 := by rw [hw1]; exact (Below.refl _ _).alloc (Nat.le_refl _) _
  have s1 : w1.heap.size = w.heap.size + 1 := by rw [hw1]; simp
  have X1 := half_any (L.length : Int) (by omega) (by omega) w1
  obtain ⟨ua, ra, sa, oa, xa, ya, rfl⟩ := h.to' (halfN L.length) (by omega)
  obtain ⟨ub, rb, sb, ob, xb, yb, rfl⟩ := h.from' (halfN L.length) (by omega)
  have hvl : ∀ j, v.ownBlock = some j → j < w.heap.size := by
    obtain ⟨_, a, cap, rfl, _, _, h5⟩ := h
    obtain ⟨g, o, rfl, hg, _⟩ := h5 (by omega)
    intro j hj
    have : g = j := by simpa [Value.ownBlock] using hj
    omega
  obtain ⟨TL, hTL⟩ : ∃ TL, TL = L.take (halfN L.length) := ⟨_, rfl⟩
  obtain ⟨DL, hDL⟩ : ∃ DL, DL = L.drop (halfN L.length) := ⟨_, rfl⟩
  have ES : rootS L = nodeS [rootS TL, rootS DL] := by rw [hTL, hDL]; exact rootS_more h2
  have hsT : isSum (rootS TL) := rootS_sum (by rw [hTL]; exact sa.1)
  have hsD : isSum (rootS DL) := rootS_sum (by rw [hDL]; exact sb.1)
  have lT : TL.length = halfN L.length := by rw [hTL]; exact hh.1
  have lD : DL.length = L.length - halfN L.length := by rw [hDL]; exact hh.2.1
  rw [← hTL] at sa
  rw [← hDL] at sb
  have XA := ih TL _ w1.drew (by omega) (by omega) ((sa.below b1 (Nat.le_refl _)).below ((Below.refl _ _).drew) (Nat.le_refl _)) ((ht.below b1 ht.1).below ((Below.refl _ _).drew) (by have := ht.1; omega))
  unfold sumV at XA ⊢
  have HES : Hid _ := ES
  have hsl : ∃ a cap, v = .slice a L.length cap := by
    obtain ⟨_, a, cap, e, _⟩ := h; exact ⟨a, cap, e⟩
  obtain ⟨va, vc, rfl⟩ := hsl
  have q0 : (2 : Int) ≤ (L.length : Int) := by omega
  have q1 : (L.length : Int) ≤ 1001 := by omega
  have n0 : ¬ (L.length : Int) = 0 := by omega
  have n1 : ¬ (L.length : Int) = 1 := by omega
  have hI : halfI (L.length : Int) = (halfN L.length : Int) := by unfold halfI; rw [Int.toNat_natCast]
  rw [hI] at X1
  have hh2 := hh.2.2
  clear hI ES hTL hDL hh hsm
  go_enter Tryd.func18, Tryd.ntmps18
  go_upto_region 1 with fail
  rw [← hw1]
  have S1 : Hid _ := s1
  have R1 : Hid _ := r1
  have B1 : Hid _ := b1
  have SB : Hid _ := sb
  have HT : Hid _ := ht
  have HVL : Hid _ := hvl
  have HOB : Hid _ := ob
  clear hw1 hz32 s1 r1 b1 sa sb h ht hvl oa ob
  go_wp2_with fail
  refine X1.mono ?_
  rintro e w' ⟨rfl, hw⟩
  obtain rfl := hw.symm
  clear X1 hw
  go_upto_region 7 with fail
  refine wp_region_noPanic ?_
  refine wp_region_held_drew (S := fun w' => True) (by kernel_rfl) trivial (fun hHeld => ?_)
  refine take_op (i := 0) (v := ?va0) rfl (by kernel_rfl) (by kernel_rfl) (by kernel_rfl) (fun _ _ _ h => h) rfl hHeld ?ya0 ?ra0
  case ya0 => (intro wz hz; go_simp; first | done | with_reducible rfl)
  try simp only [Act.put, List.setIfInBounds_toArray, List.set_cons_zero, List.set_cons_succ]
  refine take_op (i := 1) (v := ?va1) rfl (by kernel_rfl) (by kernel_rfl) (by kernel_rfl) (fun _ _ _ h => h) rfl hHeld ?ya1 ?ra1
  case ya1 => (intro wz hz; go_simp; first | done | with_reducible rfl)
  try simp only [Act.put, List.setIfInBounds_toArray, List.set_cons_zero, List.set_cons_succ]
  refine take_op (i := 2) (v := ?va2) rfl (by kernel_rfl) (by kernel_rfl) (by kernel_rfl) (fun _ _ _ h => h) rfl hHeld ?ya2 ?ra2
  case ya2 => (intro wz hz; go_simp; first | done | with_reducible rfl)
  try simp only [Act.put, List.setIfInBounds_toArray, List.set_cons_zero, List.set_cons_succ]
  refine take_op (i := 3) (v := ?va3) rfl (by kernel_rfl) (by kernel_rfl) (by kernel_rfl) (fun _ _ _ h => h) rfl hHeld ?ya3 ?ra3
  case ya3 => (intro wz hz; go_simp; first | done | with_reducible rfl)
  try simp only [Act.put, List.setIfInBounds_toArray, List.set_cons_zero, List.set_cons_succ]
  refine take_op (i := 4) (v := ?va4) rfl (by kernel_rfl) (by kernel_rfl) (by kernel_rfl) (fun _ _ _ h => h) rfl hHeld ?ya4 ?ra4
  case ya4 => (intro wz hz; have hcz := ra wz; go_simp; first | done | with_reducible rfl)
  try simp only [Act.put, List.setIfInBounds_toArray, List.set_cons_zero, List.set_cons_succ]
  refine take_op (i := 6) (v := ?va6) rfl (by kernel_rfl) (by kernel_rfl) (by kernel_rfl) (fun _ _ _ h => h) rfl hHeld ?ya6 ?ra6
  case ya6 => (intro wz hz; go_simp; first | done | with_reducible rfl)
  try simp only [Act.put, List.setIfInBounds_toArray, List.set_cons_zero, List.set_cons_succ]
  refine take_op (i := 7) (v := ?va7) rfl (by kernel_rfl) (by kernel_rfl) (by kernel_rfl) (fun _ _ _ h => h) rfl hHeld ?ya7 ?ra7
  case ya7 => (intro wz hz; go_simp; first | done | with_reducible rfl)
  try simp only [Act.put, List.setIfInBounds_toArray, List.set_cons_zero, List.set_cons_succ]
  refine take_op (i := 8) (v := ?va8) rfl (by kernel_rfl) (by kernel_rfl) (by kernel_rfl) (fun _ _ _ h => h) rfl hHeld ?ya8 ?ra8
  case ya8 => (intro wz hz; go_simp; first | done | with_reducible rfl)
  try simp only [Act.put, List.setIfInBounds_toArray, List.set_cons_zero, List.set_cons_succ]
  refine take_op (i := 9) (v := ?va9) rfl (by kernel_rfl) (by kernel_rfl) (by kernel_rfl) (fun _ _ _ h => h) rfl hHeld ?ya9 ?ra9
  case ya9 => (intro wz hz; have hcz := rb wz; go_simp; first | done | with_reducible rfl)
  try simp only [Act.put, List.setIfInBounds_toArray, List.set_cons_zero, List.set_cons_succ]
  refine take_one (i := 5) rfl (by kernel_rfl) rfl (fun K hK => ?_)
  go_simp
  refine Calls.mono XA ?_
  rintro e w5 ⟨rfl, b5⟩
  clear XA
  have s1 := S1.out
  have b5' : Below w1.heap.size w1 w5 := ((Below.refl w1.heap.size w1).drew).trans b5
  have b5w : Below w.heap.size w w5 := B1.out.trans (b5'.mono (by omega))
  have s5 := b5'.size
  have XB := ih DL _ w5 (by omega) (by omega) (sumsAt.below SB.out b5w (Nat.le_refl _)) (tabIs.below HT.out b5w HT.out.1)
  unfold sumV at XB
  refine hK.out _ _ trivial (fun hHeld => ?_)
  clear hK K
  try simp only [Act.put, List.setIfInBounds_toArray, List.set_cons_zero, List.set_cons_succ]
  refine take_one (i := 10) rfl (by kernel_rfl) rfl (fun K hK => ?_)
  go_simp
  refine Calls.mono XB ?_
  rintro e w10 ⟨rfl, b10⟩
  clear XB
  have b10w : Below w.heap.size w w10 := b5w.trans (b10.mono (by omega))
  have s10 := b10.size
  have r10 : w10.rowIs w.heap.size 29 32 (fun _ => .int .u8 0) := b10.row (b5'.row R1.out (by omega)) (by omega)
  refine hK.out _ _ trivial (fun hHeld => ?_)
  clear hK K
  try simp only [Act.put, List.setIfInBounds_toArray, List.set_cons_zero, List.set_cons_succ]
  refine take_one (i := 11) rfl (by kernel_rfl) rfl (fun K hK => ?_)
  refine wp_of_run (exec_bslice2' 22 2 0 1 (.tmp 25) (.tmp 30) _ _ rfl rfl rfl (build_two (arrV (rootS TL)) (arrV (rootS DL)) w10)) ?_
  refine hK.out _ _ trivial (fun hHeld => ?_)
  clear hK K
  try simp only [Act.put, List.setIfInBounds_toArray, List.set_cons_zero, List.set_cons_succ]
  have b11 : Below w10.heap.size w10 (w10.alloc (.cells (rowV 64 (fun j => if j < 32 then arrV (rootS TL) j else arrV (rootS DL) (j - 32))) 29)) := (Below.refl _ _).alloc (Nat.le_refl _) _
  have XC := node_nil [rootS TL, rootS DL] _ _ (two_sums w10 _ _ hsT hsD) (by simp) ((tabIs.below HT.out b10w HT.out.1).below b11 (by omega))
  unfold sumV at XC
  refine take_one (i := 12) rfl (by kernel_rfl) rfl (fun K hK => ?_)
  go_simp
  refine Calls.mono XC ?_
  rintro e w12 ⟨rfl, b12⟩
  clear XC
  have s11 := b11.size
  have s12 := b12.size
  have b12w : Below w.heap.size w w12 := (b10w.trans (b11.mono (by omega))).trans (b12.mono (by omega))
  have r12 : w12.rowIs w.heap.size 29 32 (fun _ => .int .u8 0) := b12.row (b11.row r10 (by omega)) (by omega)
  rw [← HES.out]
  refine hK.out _ _ trivial (fun hHeld => ?_)
  clear hK K
  try simp only [Act.put, List.setIfInBounds_toArray, List.set_cons_zero, List.set_cons_succ]
  refine take_one (i := 13) rfl (by kernel_rfl) rfl (fun K hK => ?_)
  have hst := stow32T_run w12 w.heap.size (rootS L) r12
  have h9 := stow32T_row w12 w.heap.size (rootS L) r12
  have r9 := h9.1
  have hz9 := h9.2.1
  have hb9 := h9.2.2
  clear h9
  unfold Oper.wp execOp
  simp only [Instr.storeAt, Instr.sureAddr, Sem.run_bind, Sem.run_pure, Result.andThen_ok]
  simp [Act.eval, hst, Oper.upon]
  clear hst
  generalize w12.setCells w.heap.size 0 (rowV 32 (arrV (rootS L))).toList = w9 at r9 hz9 hb9 ⊢
  refine hK.out _ _ trivial (fun hHeld => ?_)
  clear hK K hHeld
  try simp only [Act.put, List.setIfInBounds_toArray, List.set_cons_zero, List.set_cons_succ]
  refine wpAnyH_done (by kernel_rfl) ?_ _
  refine NoPanic.normal ?_
  have RES : Hid (Below w.heap.size w w9) := (show Below w.heap.size w w9 from b12w.trans (hb9.below' (Nat.le_refl _) b12w.size))
  clear b12w b12 b11 b10 b10w b5 b5w b5' hb9 r12 r10
  go_wp2
  exact bodyPost_ret (results_cell_seg rfl _ _ w.heap.size 29 32 (arrV (rootS L)) _ rfl Tryd.underlying29 rfl hi32' r9) rfl ⟨rfl, RES.out⟩
end Go.Proofs.YthpnenblmkdmcaaDoor

/- The book that is handed in, or none; a function's ways out, where it ranges over a function. -/
namespace Go.Proofs.YthpnenblmkdmcaaDoor
set_option linter.unusedSimpArgs false
set_option linter.unusedVariables false
open Go.RowKit Go.Deep

/-- kv is a book of these notes, all its memory in F, or nil. -/
def bkAt (kv : Value) (w : World) (F : Nat → Prop) (N : List Nt) (c : Int) : Prop :=
  (kv = .pointer none ∧ ∀ j, F j → j < w.heap.size) ∨ ∃ k, kv = .pointer (some ⟨k, 0, none⟩) ∧ bookAt w F k N c
section
variable {kv : Value} {w w' : World} {F G : Nat → Prop} {N : List Nt} {c : Int}
theorem bkAt.lt (h : bkAt kv w F N c) : ∀ j, F j → j < w.heap.size := by
  rcases h with ⟨_, h⟩ | ⟨k, _, h⟩
  · exact h
  · exact h.2.1
theorem bkAt.far (h : bkAt kv w F N c) (hb : ∀ j, F j → j < w.heap.size → w'.heap[j]? = w.heap[j]?) (hs : w.heap.size ≤ w'.heap.size) : bkAt kv w' F N c := by
  rcases h with ⟨e, h⟩ | ⟨k, e, h⟩
  · exact Or.inl ⟨e, fun j hj => Nat.lt_of_lt_of_le (h j hj) hs⟩
  · exact Or.inr ⟨k, e, h.far hb hs⟩
theorem bkAt.below {B : Nat} (h : bkAt kv w F N c) (hb : Below B w w') (hB : w.heap.size ≤ B) : bkAt kv w' F N c :=
  h.far (fun j _ hl => hb.block j (by omega)) hb.size
theorem bkAt.grow (h : bkAt kv w F N c) (hG : ∀ j, F j → G j) (hl : ∀ j, G j → j < w.heap.size) : bkAt kv w G N c := by
  rcases h with ⟨e, h⟩ | ⟨k, e, h⟩
  · exact Or.inl ⟨e, hl⟩
  · exact Or.inr ⟨k, e, h.grow hG hl⟩
theorem bkAt.drew (h : bkAt kv w F N c) : bkAt kv w.drew F N c := h.below ((Below.refl w.heap.size w).drew) (Nat.le_refl _)
end
/-- without a book nothing old turns. -/
theorem bkAt.none (w : World) (N : List Nt) (c : Int) : bkAt (.pointer none) w (fun _ => False) N c := Or.inl ⟨rfl, fun _ h => h.elim⟩
theorem Fr.none {w w' : World} (h : Fr (fun _ => False) w w') : Below w.heap.size w w' := h.below (fun _ f => f.elim) (Nat.le_refl _)
theorem node_k (F : Nat → Prop) (kv : Value) (N : List Nt) (c : Int) (L : List (List Int)) (v : Value) (w : World) (hk : bkAt kv w F N c) (h : sumsAt w v L) (hL : L.length ≤ 1000) (ht : tabIs w) (hF0 : ¬ F 0) (hN : N.length < 1000000) (hc : 0 ≤ c ∧ c < 1000000000) :
    Calls Tryd.prog 32 #[kv, v] w fun e w' => e = .returned (sumV (nodeS L)) ∧ bkAt kv w' (Gr F w w') (addN N (ntOf L)) (c + 1) ∧ Fr F w w' := by
  have hlt := hk.lt
  rcases hk with ⟨rfl, _⟩ | ⟨k, rfl, hk⟩
  · refine (node_nil L v w h hL ht).mono ?_
    rintro e w' ⟨rfl, hb⟩
    have := hb.size
    exact ⟨rfl, Or.inl ⟨rfl, fun j hj => by
      rcases hj with hj | hj
      · have := hlt j hj; omega
      · exact hj.2⟩, Fr.of_below F hb⟩
  · refine (node_book F k N c L v w hk h hL ht hF0 hN hc).mono ?_
    rintro e w' ⟨rfl, hb, hf⟩
    exact ⟨rfl, Or.inr ⟨k, rfl, hb⟩, hf⟩
theorem root_k (F : Nat → Prop) (kv : Value) (N : List Nt) (c : Int) (L : List (List Int)) (v : Value) (w : World) (hk : bkAt kv w F N c) (h : sumsAt w v L) (hvF : 0 < L.length → ∀ j, v.ownBlock = some j → ¬ F j) (hL : L.length ≤ 1000) (ht : tabIs w) (hF0 : ¬ F 0) (hN : N.length + L.length < 100000) (hc : 0 ≤ c ∧ c + L.length < 100000000) :
    Calls Tryd.prog 18 #[kv, v] w fun e w' => e = .returned (sumV (rootS L)) ∧ bkAt kv w' (Gr F w w') (rootN N L) (c + callsR L.length) ∧ Fr F w w' := by
  have hlt := hk.lt
  rcases hk with ⟨rfl, _⟩ | ⟨k, rfl, hk⟩
  · refine (root_nil 1000 L v w hL (Nat.le_refl _) h ht).mono ?_
    rintro e w' ⟨rfl, hb⟩
    have := hb.size
    exact ⟨rfl, Or.inl ⟨rfl, fun j hj => by
      rcases hj with hj | hj
      · have := hlt j hj; omega
      · exact hj.2⟩, Fr.of_below F hb⟩
  · refine (root_book 1000 F k N c L v w hL (Nat.le_refl _) hk h hvF ht hF0 (by omega) (by omega)).mono ?_
    rintro e w' ⟨rfl, hb, hf⟩
    exact ⟨rfl, Or.inr ⟨k, rfl, hb⟩, hf⟩
section
variable {P : Program} {fn : Func} {R : Ending → World → Prop} {a : Act} {w : World} {v : Value} {n : Nat}
theorem bodyPostM_ret (hr : (results fn a.tmps).run P w = .ok v w) (hd : a.defers = []) (hR : R (.returned v) w) : bodyPostM Fence.wide n P fn R .ret a w := by
  show LeavesInM Fence.wide n P fn a.tmps R a.defers .returning w
  rw [hd]
  exact ⟨v, hr, hR⟩
theorem bodyPostM_mark {D : Nat} (hd : a.defers = [{ target := .collected D, args := #[] }]) (hK : w.heap[D]? = some (.deferred (some []))) (hr : (results fn a.tmps).run P (w.putObj D (.deferred none)) = .ok v (w.putObj D (.deferred none))) (hR : R (.returned v) (w.putObj D (.deferred none))) : bodyPostM Fence.wide n P fn R .ret a w := by
  show LeavesInM Fence.wide n P fn a.tmps R a.defers .returning w
  rw [hd]
  exact ⟨by simp, .inl ⟨_, _, rfl, run_takeDeferred hK, ⟨v, hr, hR⟩⟩⟩
end
end Go.Proofs.YthpnenblmkdmcaaDoor

/- grow's node: as the tree's. -/
namespace Go.Proofs.YthpnenblmkdmcaaDoor
set_option linter.unusedSimpArgs false
set_option linter.unusedVariables false
open Go.RowKit Go.Deep

set_option maxHeartbeats 2000000 in
set_option maxRecDepth 100000 in
theorem gnode_gen (kv : Value) (L : List (List Int)) (v : Value) (w : World) (h : sumsAt w v L) (hL : L.length ≤ 1000) (Q : World → World → Prop)
    (hOf : ∀ wz u, Below w.heap.size w wz → w.heap.size < wz.heap.size → anyParts wz u L.length (fun i => L.getD i []) → Calls Tryd.prog 46 #[kv, .int .i64 2, u] wz fun e w' => e = .returned (sumV (nodeS L)) ∧ (wz.heap.size ≤ w'.heap.size ∧ w'.heap[w.heap.size]? = wz.heap[w.heap.size]?) ∧ Q wz w') :
    Calls Tryd.prog 42 #[kv, v] w fun e w' => e = .returned (sumV (nodeS L)) ∧ ∃ wz wx, Below w.heap.size w wz ∧ w.heap.size < wz.heap.size ∧ Q wz wx ∧ But wx.heap.size w.heap.size wx w' ∧ w'.heap.size = wx.heap.size := by
  obtain ⟨hs, a, cap, rfl, hc, hm, hcl⟩ := h
  unfold maxLen at hm
  have q0 : (L.length : Int) ≤ 1000 := by omega
  have r0 := rowIs_box w 29 32 (fun _ => .int .u8 0)
  have hz32 := zero_s32
  obtain ⟨w1, hw1⟩ : ∃ w1, w1 = w.alloc (.cells (rowV 32 (fun _ => .int .u8 0)) 29) := ⟨_, rfl⟩
  have b1 : Below w.heap.size w w1 := by rw [hw1]; exact (Below.refl _ _).alloc (Nat.le_refl _) _
  rw [← hw1] at r0
  have s1 : w1.heap.size = w.heap.size + 1 := by rw [hw1]; simp
  have hmk := run_make_room (P := Tryd.prog) 81 40 (.slice none 0 0) 24 Tryd.underlying81 infoSl rfl .i64 .i64 L.length (by omega) (by omega) w1
  obtain ⟨w2, hw2⟩ : ∃ w2, w2 = w1.alloc (.cells (madeCells #[Value.slice none 0 0] L.length) 40) := ⟨_, rfl⟩
  rw [← hw2] at hmk
  have b2 : Below w1.heap.size w1 w2 := by rw [hw2]; exact (Below.refl _ _).alloc (Nat.le_refl _) _
  have hO : owns w2 w1.heap.size 40 (.slice (some ⟨w1.heap.size, 0, none⟩) 0 L.length) [] := by
    rw [hw2]
    exact ⟨rfl, Or.inr ⟨w1.heap.size, L.length, _, rfl, Nat.le_refl _, blk_alloc_new _ _, Nat.zero_le _, by unfold maxLen; omega, by rw [size_madeCells]; simp, by simp⟩⟩
  have HO : Hid _ := hO
  have R0 : Hid (w1.rowIs w.heap.size 29 32 (fun _ => .int .u8 0)) := (show w1.rowIs w.heap.size 29 32 (fun _ => .int .u8 0) from r0)
  have B1 : Hid _ := b1
  have B2 : Hid _ := b2
  have S1 : Hid _ := s1
  have HCL : Hid _ := hcl
  have HOF : Hid _ := hOf
  have HS : Hid _ := hs
  clear hO r0 b1 b2 s1 hcl hOf hs hw2
  go_enter Tryd.func42, Tryd.ntmps42
  go_upto_region 1 with fail
  rw [← hw1]
  clear hw1 hz32
  go_wp2_with (first | (refine wpList_make_run rfl _ _ _ rfl rfl rfl hmk ?_))
  clear hmk
  go_loopw [5, 12] (fun z i wr => ∃ (k : Nat) (g o : Nat), k ≤ L.length ∧ i = .int .i64 k ∧ (0 < L.length → a = some ⟨g, o, none⟩) ∧ owns wr w1.heap.size 40 z ((List.range k).map (sumSl g o)) ∧ Below w1.heap.size w1 wr) (fun _ i _ => L.length - (intOf i).toNat)
  case atStart =>
    by_cases h0 : 0 < L.length
    · obtain ⟨g, o, e, _⟩ := HCL.out h0
      exact ⟨0, g, o, by omega, rfl, fun _ => e, HO.out, B2.out⟩
    · exact ⟨0, 0, 0, by omega, rfl, fun h => absurd h h0, HO.out, B2.out⟩
  case round =>
    obtain ⟨k, g, o, hk, rfl, hgo, hown, hb⟩ := hrel
    clear HO
    have p0 : (0 : Int) ≤ (k : Int) := by omega
    by_cases hlt : k < L.length
    · have p1 : (k : Int) < (L.length : Int) := by omega
      have hae := hgo (by omega)
      subst hae
      have sz := hb.size
      obtain ⟨a8, c8, w8, hr8, ho8, b8⟩ := sl_append_run wr w1.heap.size u5 (sumSl g o k) _ hown rfl (by simp; omega) sz
      have hl8 : ((List.range k).map (sumSl g o)).length = k := by simp
      rw [hl8] at hr8 ho8
      have hu5 : ∃ x y, u5 = .slice x k y := by
        obtain ⟨x, y, e, _⟩ := ownsRow_slice hown
        rw [hl8] at e; exact ⟨x, y, e⟩
      obtain ⟨ux, uy, rfl⟩ := hu5
      have HO8 : Hid (owns w8 w1.heap.size 40 (.slice a8 (k + 1) c8) ((List.range (k + 1)).map (sumSl g o))) := (show owns w8 w1.heap.size 40 (.slice a8 (k + 1) c8) ((List.range (k + 1)).map (sumSl g o)) from by rw [List.range_succ, List.map_append]; exact ho8)
      have HB8 : Hid (Below w1.heap.size w1 w8) := (show Below w1.heap.size w1 w8 from hb.trans b8)
      unfold sumSl at hr8
      clear hown hb ho8 b8 hl8 hgo
      go_wp2_with (first | (at_builtin; refine wpList_append_run rfl (.tmp 15) (.tmp 20) _ rfl rfl rfl hr8 ?_))
      go_light
      exact ⟨⟨k + 1, g, o, by omega, by go_num, fun _ => rfl, HO8.out, HB8.out⟩, by simp [intOf]; omega⟩
    · obtain rfl : k = L.length := by omega
      have s1 := S1.out
      have sz := hb.size
      have bw : Below w.heap.size w wr := B1.out.trans (hb.mono (by omega))
      have hpp := owns_parts (ps := fun i => L.getD i []) hown (fun i hi => by
        have hi' : i < L.length := by simpa using hi
        obtain ⟨g', o', e, hg, hc'⟩ := HCL.out (by omega)
        have e2 : g = g' ∧ o = o' := by
          have := (hgo (by omega)).symm.trans e
          simpa using this
        obtain ⟨rfl, rfl⟩ := e2
        have hx := HS.out L[i] (List.getElem_mem _)
        have eD : L.getD i [] = L[i] := by rw [List.getD_eq_getElem?_getD, List.getElem?_eq_getElem hi']; rfl
        have e3 : ((List.range L.length).map (sumSl g o))[i] = sumSl g o i := by simp
        rw [e3, eD]
        refine Or.inr ⟨g, o + i * 32, 32, by rw [hx.1]; rfl, by rw [hx.1]; exact Nat.le_refl _, by unfold maxLen; omega, by have := bw.size; omega, fun j hj => ?_, hx.2⟩
        rw [bw.cell (p := ⟨g, o + i * 32 + j, none⟩) hg, hc' i hi' j (by rw [hx.1] at hj; exact hj)]; rfl)
      rw [List.length_map, List.length_range] at hpp
      have hlw : w.heap.size < wr.heap.size := by omega
      have X := HOF.out wr u5 bw hlw hpp.any
      unfold sumV at X
      obtain ⟨ux, uy, rfl, _, _⟩ := hpp.open
      have rz : wr.rowIs w.heap.size 29 32 (fun _ => .int .u8 0) := hb.row R0.out (by omega)
      have RZ : Hid _ := rz
      have BW : Hid _ := bw
      clear hown hb hpp rz bw hgo
      go_wp2_with fail
      refine X.mono ?_
      rintro e wx ⟨rfl, ⟨hsx, hbx⟩, hQ⟩
      clear X
      have rx : wx.rowIs w.heap.size 29 32 (fun _ => .int .u8 0) := World.rowIs.of_block RZ.out hbx
      have HQ : Hid _ := hQ
      clear hQ hbx
      go_wp2_with (first | (refine wpList_store_row rfl 29 _ _ rfl rfl w.heap.size 0 32 (arrV (nodeS L)) rfl rfl hi32' (fun _ _ => rfl) _ _ _ rx (by omega) ?_; intro w6 r6 hz6 hb6))
      exact bodyPost_ret (results_cell_seg rfl _ _ w.heap.size 29 32 (arrV (nodeS L)) _ rfl Tryd.underlying29 rfl hi32' (r6.congr fun i hi => by rw [if_pos (by omega), Nat.sub_zero])) rfl ⟨rfl, wr, wx, BW.out, hlw, HQ.out, hb6, hz6⟩
theorem gnode_nil (L : List (List Int)) (v : Value) (w : World) (h : sumsAt w v L) (hL : L.length ≤ 1000) (ht : tabIs w) :
    Calls Tryd.prog 42 #[.pointer none, v] w fun e w' => e = .returned (sumV (nodeS L)) ∧ Below w.heap.size w w' := by
  refine (gnode_gen (.pointer none) L v w h hL (fun wz w' => Below wz.heap.size wz w') (fun wz u hb hlt hp => ?_)).mono ?_
  · refine (of_nil 2 L.length u _ wz hp (nodeS_light L hL h.1) (ht.below hb ht.1)).mono ?_
    rintro e w' ⟨rfl, hb'⟩
    exact ⟨rfl, ⟨hb'.size, hb'.block _ hlt⟩, hb'⟩
  · rintro e w' ⟨rfl, wz, wx, h1, h2, h3, h4, h5⟩
    have := h3.size
    exact ⟨rfl, (h1.trans (h3.mono (by omega))).trans (h4.below' (Nat.le_refl _) (by omega))⟩
theorem gnode_book (F : Nat → Prop) (k : Nat) (N : List Nt) (c : Int) (L : List (List Int)) (v : Value) (w : World) (hk : bookAt w F k N c) (h : sumsAt w v L) (hL : L.length ≤ 1000) (ht : tabIs w) (hF0 : ¬ F 0) (hN : N.length < 1000000) (hc : 0 ≤ c ∧ c < 1000000000) :
    Calls Tryd.prog 42 #[.pointer (some ⟨k, 0, none⟩), v] w fun e w' => e = .returned (sumV (nodeS L)) ∧ bookAt w' (Gr F w w') k (addN N (nodeS L, nodeT L)) (c + 1) ∧ Fr F w w' := by
  have hlt := hk.2.1
  have hFw : ¬ F w.heap.size := fun hf => by have := hlt _ hf; omega
  refine (gnode_gen (.pointer (some ⟨k, 0, none⟩)) L v w h hL (fun wz w' => bookAt w' (Gr F wz w') k (addN N (nodeS L, nodeT L)) (c + 1) ∧ Fr F wz w') (fun wz u hb hl hp => ?_)).mono ?_
  · refine (of_any F k N c 2 L.length u _ wz (hk.below hb (Nat.le_refl _)) hp (nodeS_light L hL h.1) (ht.below hb ht.1) hF0 hN hc).mono ?_
    rintro e w' ⟨rfl, hbk, hf⟩
    exact ⟨rfl, ⟨hf.size, hf.block _ hl hFw⟩, hbk, hf⟩
  · rintro e w' ⟨rfl, wz, wx, h1, h2, ⟨h3, h3'⟩, h4, h5⟩
    have s3 := h3'.size
    refine ⟨rfl, ?_, ?_⟩
    · refine (h3.far (fun j hj hl => h4.block j hl (fun e => ?_)) (by omega)).grow (fun j hj => ?_) (fun j hj => ?_)
      · rcases hj with hj | hj
        · exact hFw (e ▸ hj)
        · omega
      · rcases hj with hj | hj
        · exact Or.inl hj
        · exact Or.inr ⟨by omega, by omega⟩
      · rcases hj with hj | hj
        · have := hlt j hj; omega
        · exact hj.2
    · refine ((Fr.of_below F h1).trans h3' (fun _ _ h => h)).trans (G := fun j => j = w.heap.size) ⟨h4.os, h4.tape, h4.output, by omega, fun j hj hne => h4.block j hj hne⟩ (fun j hj e => by omega)
theorem gnode_k (F : Nat → Prop) (kv : Value) (N : List Nt) (c : Int) (L : List (List Int)) (v : Value) (w : World) (hk : bkAt kv w F N c) (h : sumsAt w v L) (hL : L.length ≤ 1000) (ht : tabIs w) (hF0 : ¬ F 0) (hN : N.length < 1000000) (hc : 0 ≤ c ∧ c < 1000000000) :
    Calls Tryd.prog 42 #[kv, v] w fun e w' => e = .returned (sumV (nodeS L)) ∧ bkAt kv w' (Gr F w w') (addN N (ntOf L)) (c + 1) ∧ Fr F w w' := by
  have hlt := hk.lt
  rcases hk with ⟨rfl, _⟩ | ⟨k, rfl, hk⟩
  · refine (gnode_nil L v w h hL ht).mono ?_
    rintro e w' ⟨rfl, hb⟩
    have := hb.size
    exact ⟨rfl, Or.inl ⟨rfl, fun j hj => by
      rcases hj with hj | hj
      · have := hlt j hj; omega
      · exact hj.2⟩, Fr.of_below F hb⟩
  · refine (gnode_book F k N c L v w hk h hL ht hF0 hN hc).mono ?_
    rintro e w' ⟨rfl, hb, hf⟩
    exact ⟨rfl, Or.inr ⟨k, rfl, hb⟩, hf⟩
end Go.Proofs.YthpnenblmkdmcaaDoor

/- A region that draws its order, in two stages: until its first store (operation s) S holds; every read waits for none of the stores, every store waits for all reads. -/
namespace Go.Proofs.YthpnenblmkdmcaaDoor
open Go.RowKit Go.Deep

section
variable {P : Program} {md : Region.Mode} {ops : Array Oper} {Q : Exit → Act → World → Prop} {J : Nat → World → Prop}
/-- whatever order is picked from here on; S holds behind every operation ahead of s. -/
def wpAnyT (P : Program) (md : Region.Mode) (ops : Array Oper) (Q : Exit → Act → World → Prop) (J : Nat → World → Prop) : Nat → Array Bool → Act → World → Prop
  | 0, listed, a, w => Region.ready md ops listed = [] ∧ Q .normal a w
  | fuel + 1, listed, a, w =>
    (Region.ready md ops listed = [] → Q .normal a w) ∧
    ∀ i ∈ Region.ready md ops listed, wpOp P ops Q i (fun a' w' => (∀ s, (listed.setIfInBounds i true).getD s true = false → J s w') ∧ wpAnyT P md ops Q J fuel (listed.setIfInBounds i true) a' w') a w
theorem wpAny_of_T : ∀ (fuel : Nat) (listed : Array Bool) (a : Act) (w : World), wpAnyT P md ops Q J fuel listed a w → wpAny P md ops Q fuel listed a w
  | 0, _, _, _, h => h
  | fuel + 1, _, _, _, h => ⟨h.1, fun i hi => wpOp_mono (fun a' w' h' => wpAny_of_T fuel _ a' w' h'.2) (h.2 i hi)⟩
theorem wpAnyT_first {i : Nat} {oi : Oper} {v : Value} (σ : List Nat) (hi : ops[i]? = some oi) (hsel : ∀ (j : Nat) (o : Oper) cs b, ops[j]? = some o → o.op ≠ .select cs b)
    (hQ : ∀ c a w, Q (.panic c) (a.put oi.dst v) w → Q (.panic c) a w) (hJi : ∀ w, J i w) (hwait : ∀ s ∈ σ, s ≠ i ∧ ∃ os, ops[s]? = some os ∧ ∃ e ∈ os.after, Region.binds md e = true ∧ e.on = i) :
    ∀ (fuel : Nat) (listed : Array Bool) (a : Act) (w : World),
      (∀ j oj, ops[j]? = some oj → j ≠ i → listed.getD j true = false → (∀ e ∈ oj.after, Region.binds md e = true → e.on ≠ i) → oi.apart ops oj = true) →
      i ∈ Region.ready md ops listed → YieldsIf P ops (fun w => ∀ s ∈ σ, J s w) oi v a → (∀ s, listed.getD s true = false → J s w) → (∀ s ∈ σ, listed.getD s true = false) →
      wpAnyT P md ops Q J fuel (listed.setIfInBounds i true) (a.put oi.dst v) w → wpAnyT P md ops Q J (fuel + 1) listed a w := by
  intro fuel
  induction fuel with
  | zero =>
    intro listed a w _ hr hy hS hs H
    refine ⟨fun h => (by rw [h] at hr; cases hr), fun j hj => ?_⟩
    by_cases hji : j = i
    · subst hji
      refine hy.wpOp hi (fun s h => hS s (hs s h)) ⟨fun s h => ?_, H⟩
      by_cases e : j = s
      · rw [← e]; exact hJi w
      · exact hS s (by rw [getD_set_ne true e] at h; exact h)
    · have := ready_mono hj hji
      rw [H.1] at this
      cases this
  | succ fuel ih =>
    intro listed a w hfree hr hy hS hs H
    refine ⟨fun h => (by rw [h] at hr; cases hr), fun j hj => ?_⟩
    by_cases hji : j = i
    · subst hji
      refine hy.wpOp hi (fun s h => hS s (hs s h)) ⟨fun s h => ?_, H⟩
      by_cases e : j = s
      · rw [← e]; exact hJi w
      · exact hS s (by rw [getD_set_ne true e] at h; exact h)
    · have h1 := H.2 j (ready_mono hj hji)
      obtain ⟨hjun, oj, hoj, hall⟩ := mem_ready.1 hj
      have hiun : listed.getD i true = false := (mem_ready.1 hr).1
      have hni : ∀ b, listed.getD i b = false := fun b => by
        rcases Nat.lt_or_ge i listed.size with h' | h'
        · simp [h'] at hiun ⊢; exact hiun
        · simp [Array.getElem?_eq_none h'] at hiun
      have hsj : ∀ s ∈ σ, s ≠ j := fun s hsσ e => by
        obtain ⟨_, os, hos, e2, he2, hb, hon⟩ := hwait s hsσ
        rw [e] at hos
        rw [hoj] at hos
        have := hall e2 (by rw [Option.some.inj hos]; exact he2) hb
        rw [hon, hni] at this
        cases this
      have hnot : ∀ e ∈ oj.after, Region.binds md e = true → e.on ≠ i := fun e he hb heq => by
        have h1 := hall e he hb
        rw [heq, hni] at h1
        cases h1
      have h2 := wpOp_putIf hoj (hfree j oj hoj hji hjun hnot) (fun cs b => hsel i oi cs b hi) (fun cs b => hsel j oj cs b hoj) hQ hy h1
      have hfree' : ∀ k ok, ops[k]? = some ok → k ≠ i → (listed.setIfInBounds j true).getD k true = false →
          (∀ e ∈ ok.after, Region.binds md e = true → e.on ≠ i) → oi.apart ops ok = true := fun k ok hk hki hun hno => by
        refine hfree k ok hk hki ?_ hno
        by_cases hjk : j = k
        · subst hjk; exact hjun
        · rw [getD_set_ne true hjk] at hun; exact hun
      have hsl : ∀ s ∈ σ, (listed.setIfInBounds j true).getD s true = false := fun s h => by rw [getD_set_ne true (Ne.symm (hsj s h))]; exact hs s h
      refine wpOp_mono (fun a' w' h3 => ?_) h2
      have hJ' : ∀ s, (listed.setIfInBounds j true).getD s true = false → J s w' := fun s h => by
        by_cases e : i = s
        · rw [← e]; exact hJi w'
        · exact h3.2.1 s (by
            by_cases e2 : j = s
            · subst e2
              rcases Nat.lt_or_ge j listed.size with h' | h'
              · simp [h'] at h
              · simp [Array.getElem?_eq_none h'] at hjun
            · rw [getD_set_ne true e2, getD_set_ne true e]
              rw [getD_set_ne true e2] at h; exact h)
      refine ⟨hJ', ih (listed.setIfInBounds j true) a' w' hfree' (ready_mono hr (Ne.symm hji)) h3.1 hJ' hsl ?_⟩
      rw [Array.setIfInBounds_comm _ _ hji]
      exact h3.2.2
/-- does s wait for i? -/
def waits (md : Region.Mode) (ops : Array Oper) (s i : Nat) : Bool := s != i && match ops[s]? with
  | some os => os.after.any fun e => Region.binds md e && e.on == i
  | none => false
theorem waits_is {s i : Nat} (h : waits md ops s i = true) : s ≠ i ∧ ∃ os, ops[s]? = some os ∧ ∃ e ∈ os.after, Region.binds md e = true ∧ e.on = i := by
  unfold waits at h
  rw [Bool.and_eq_true] at h
  refine ⟨by simpa using h.1, ?_⟩
  have h2 := h.2
  split at h2
  · rename_i os hos
    rw [← Array.any_toList, List.any_eq_true] at h2
    obtain ⟨e, he', hb⟩ := h2
    have he : e ∈ os.after := Array.mem_toList_iff.1 he'
    rw [Bool.and_eq_true] at hb
    exact ⟨os, hos, e, he, hb.1, by simpa using hb.2⟩
  · cases h2
theorem wp_region_T {id : Nat} {a : Act} {w : World} (J : Nat → World → Prop) (hm : P.follows .mixedOrders = true)
    (h : wpAnyT P .any ops Q J ops.size (Array.replicate ops.size false) a w.drew) : (Code.region id ops true).wp P Q a w := by
  exact wp_region_any hm (wpAny_of_T _ _ _ _ h)
end
section
variable {P : Program} {md : Region.Mode} {l : List Oper} {Q : Exit → Act → World → Prop} {J : Nat → World → Prop}
/-- all that J asks, of the stores that are still to come. -/
def heldJ (J : Nat → World → Prop) (listed : Array Bool) (w : World) : Prop := ∀ s, listed.getD s true = false → J s w
theorem take_opT {i : Nat} {oi : Oper} {v : Value} {fuel : Nat} {listed : Array Bool} {a : Act} {w : World} (s : Nat) (hi : l[i]? = some oi)
    (hs : Region.noSelect l.toArray = true) (hf : Region.free md l.toArray listed i = true) (hr : (Region.ready md l.toArray listed).contains i = true) (hwt : waits md l.toArray s i = true) (hsl : listed.getD s true = false) (hJi : ∀ w, J i w)
    (hQ : ∀ c a w, Q (.panic c) (a.put oi.dst v) w → Q (.panic c) a w) (hw : Region.wanted oi (yielded l.toArray a.tmps) = true) (hS : ∀ s, J s w) (hy : ∀ w, J s w → (execOp a.eval oi).run P w = .ok (.value v) w)
    (h : wpAnyT P md l.toArray Q J fuel (listed.setIfInBounds i true) (a.put oi.dst v) w) : wpAnyT P md l.toArray Q J (fuel + 1) listed a w :=
  wpAnyT_first [s] ((list_toArray_get l i).trans hi) (Region.noSelect_spec hs) hQ hJi (fun s' h => by rw [List.mem_singleton.1 h]; exact waits_is hwt) fuel listed a w (Region.free_spec ((list_toArray_get l i).trans hi) hf) (by simpa using hr) (Or.inl ⟨hw, fun w hw => hy w (hw s (List.mem_singleton.2 rfl))⟩) (fun s _ => hS s) (fun s' h => by rw [List.mem_singleton.1 h]; exact hsl) h
theorem take_loadT {i : Nat} {oi : Oper} {fuel : Nat} {listed : Array Bool} {a : Act} {w : World} (s : Nat) (hi : l[i]? = some oi)
    (hs : Region.noSelect l.toArray = true) (hf : Region.free md l.toArray listed i = true) (hr : (Region.ready md l.toArray listed).contains i = true) (hwt : waits md l.toArray s i = true) (hsl : listed.getD s true = false) (hJi : ∀ w, J i w)
    (ty : TypeId) (x : Operand) (ho : oi.op = .load ty x) (b o m : Nat) (g : Nat → Value) (hx : a.eval x = .pointer (some ⟨b, o, none⟩)) (d : TypeDesc) (hu : P.underlying ty = some d) (hd : d.isRow = true) (hn : (P.info? ty).map (·.size) = some m)
    (hQ : ∀ c a w, Q (.panic c) (a.put oi.dst (.agg (rowV m g))) w → Q (.panic c) a w) (hw : Region.wanted oi (yielded l.toArray a.tmps) = true) (hS : ∀ s, J s w)
    (hrow : ∀ w, J s w → ∀ i, i < m → w.cell? ⟨b, o + i, none⟩ = some (g i))
    (h : wpAnyT P md l.toArray Q J fuel (listed.setIfInBounds i true) (a.put oi.dst (.agg (rowV m g))) w) : wpAnyT P md l.toArray Q J (fuel + 1) listed a w := by
  refine wpAnyT_first [s] ((list_toArray_get l i).trans hi) (Region.noSelect_spec hs) hQ hJi (fun s' h => by rw [List.mem_singleton.1 h]; exact waits_is hwt) fuel listed a w (Region.free_spec ((list_toArray_get l i).trans hi) hf) (by simpa using hr) ?_ (fun s _ => hS s) (fun s' h => by rw [List.mem_singleton.1 h]; exact hsl) h
  have e : (rowV m g) = (rowV m g).toList.toArray := by rw [Array.toArray_toList]
  rw [e]
  exact yieldsIf_load_mid hw ty x ho b o hx (rowV m g).toList d (fun w hw => range_of_cells (hrow w (hw s (List.mem_singleton.2 rfl)))) hu hd (by rw [hn, Array.length_toList, rowV_size])
/-- an operation that may come up now: by its walk. -/
theorem wpOp_T {i : Nat} {oi : Oper} {fuel : Nat} {listed : Array Bool} {a : Act} {w : World} (hi : l[i]? = some oi) (hw : Region.wanted oi (yielded l.toArray a.tmps) = true)
    (h : ∀ K' : Act → World → Prop, Shut (∀ a w, heldJ J (listed.setIfInBounds i true) w → wpAnyT P md l.toArray Q J fuel (listed.setIfInBounds i true) a w → K' a w) → Oper.wp P oi a w K' Q) :
    wpOp P l.toArray Q i (fun a' w' => (∀ s, (listed.setIfInBounds i true).getD s true = false → J s w') ∧ wpAnyT P md l.toArray Q J fuel (listed.setIfInBounds i true) a' w') a w := by
  unfold wpOp
  rw [(list_toArray_get l i).trans hi]
  simp only
  rw [if_pos hw]
  exact Or.inl (h _ (fun a' w' hS hk => ⟨hS, hk⟩))
/-- the one operation that is left to come up. -/
theorem take_oneT {i : Nat} {oi : Oper} {fuel : Nat} {listed : Array Bool} {a : Act} {w : World} (hi : l[i]? = some oi) (hr : Region.ready md l.toArray listed = [i]) (hw : Region.wanted oi (yielded l.toArray a.tmps) = true)
    (h : ∀ K' : Act → World → Prop, Shut (∀ a w, heldJ J (listed.setIfInBounds i true) w → wpAnyT P md l.toArray Q J fuel (listed.setIfInBounds i true) a w → K' a w) → Oper.wp P oi a w K' Q) : wpAnyT P md l.toArray Q J (fuel + 1) listed a w := by
  refine ⟨fun h => (by rw [hr] at h; cases h), fun j hj => ?_⟩
  rw [hr] at hj
  obtain rfl := List.mem_singleton.1 hj
  exact wpOp_T hi hw h
theorem take_pairT {i j : Nat} {oi oj : Oper} {fuel : Nat} {listed : Array Bool} {a : Act} {w : World} (hi : l[i]? = some oi) (hj : l[j]? = some oj) (hr : Region.ready md l.toArray listed = [i, j])
    (hw : Region.wanted oi (yielded l.toArray a.tmps) = true) (hv : Region.wanted oj (yielded l.toArray a.tmps) = true)
    (h1 : ∀ K' : Act → World → Prop, Shut (∀ a w, heldJ J (listed.setIfInBounds i true) w → wpAnyT P md l.toArray Q J fuel (listed.setIfInBounds i true) a w → K' a w) → Oper.wp P oi a w K' Q)
    (h2 : ∀ K' : Act → World → Prop, Shut (∀ a w, heldJ J (listed.setIfInBounds j true) w → wpAnyT P md l.toArray Q J fuel (listed.setIfInBounds j true) a w → K' a w) → Oper.wp P oj a w K' Q) : wpAnyT P md l.toArray Q J (fuel + 1) listed a w := by
  refine ⟨fun h => (by rw [hr] at h; cases h), fun k hk => ?_⟩
  rw [hr] at hk
  rcases List.mem_cons.1 hk with e | hk
  · subst e; exact wpOp_T hi hw h1
  · obtain rfl := List.mem_singleton.1 hk
    exact wpOp_T hj hv h2
theorem doneT {listed : Array Bool} {a : Act} {w : World} (hr : Region.ready md l.toArray listed = []) (h : Q .normal a w) : ∀ fuel, wpAnyT P md l.toArray Q J fuel listed a w
  | 0 => ⟨hr, h⟩
  | _ + 1 => ⟨fun _ => h, by rw [hr]; simp⟩
/-- two conditions: A until operation sa, B until operation sb. -/
def JJ (sa : Nat) (A : World → Prop) (sb : Nat) (B : World → Prop) (s : Nat) (w : World) : Prop := (s = sa → A w) ∧ (s = sb → B w)
theorem heldJ_all {sa sb : Nat} {A B : World → Prop} {listed : Array Bool} {w : World} (hA : A w) (hB : B w) : heldJ (JJ sa A sb B) listed w := fun _ _ => ⟨fun _ => hA, fun _ => hB⟩
theorem heldJ_b {sa sb : Nat} {A B : World → Prop} {listed : Array Bool} {w : World} (hs : listed.getD sa true = true) (hB : B w) : heldJ (JJ sa A sb B) listed w := fun s h => ⟨fun e => (by rw [e, hs] at h; cases h), fun _ => hB⟩
theorem heldJ_none {sa sb : Nat} {A B : World → Prop} {listed : Array Bool} {w : World} (hs : listed.getD sa true = true) (hs2 : listed.getD sb true = true) : heldJ (JJ sa A sb B) listed w := fun s h => ⟨fun e => (by rw [e, hs] at h; cases h), fun e => (by rw [e, hs2] at h; cases h)⟩
theorem JJ_all {sa sb : Nat} {A B : World → Prop} {w : World} (hA : A w) (hB : B w) : ∀ s, JJ sa A sb B s w := fun _ => ⟨fun _ => hA, fun _ => hB⟩
theorem JJ_free {sa sb i : Nat} {A B : World → Prop} (h1 : (i != sa) = true) (h2 : (i != sb) = true) : ∀ w, JJ sa A sb B i w := fun _ => ⟨fun e => (by rw [e] at h1; simp at h1), fun e => (by rw [e] at h2; simp at h2)⟩
end
end Go.Proofs.YthpnenblmkdmcaaDoor

/- In a round: a region by its plain walk. -/
namespace Go.Proofs.YthpnenblmkdmcaaDoor
set_option linter.unusedSimpArgs false
set_option linter.unusedVariables false
open Go.RowKit Go.Shelf

section
variable {P : Program} {ops : Array Oper} {Q : Exit → Act → World → Prop} {S : World → Prop} {md : Region.Mode}
theorem wpListIn_of_wpList {l n : Nat} : ∀ (L : List Oper) (a : Act) (w : World), (∀ o ∈ L, plainOp o = true) → wpList P ops (Calm Q) L a w → wpListIn (Fence.wide.inRound l) n P ops Q L a w
  | [], a, w, _, h => h
  | o :: r, a, w, hp, h => by
    unfold wpList at h
    unfold wpListIn
    split
    · rename_i hw
      rw [if_pos hw] at h
      exact Oper.wpIn_mono (fun a' w' h' => wpListIn_of_wpList r a' w' (fun o ho => hp o (List.mem_cons_of_mem _ ho)) h') (operIn_of_wp (hp o List.mem_cons_self) h)
    · rename_i hw
      rw [if_neg hw] at h
      exact ⟨fun _ _ => trivial, wpListIn_of_wpList r _ _ (fun o ho => hp o (List.mem_cons_of_mem _ ho)) h⟩
theorem wpAnyIn_of_T {J : Nat → World → Prop} {l n : Nat} (hd : ops.all plainOp = true) : ∀ (fuel : Nat) (listed : Array Bool) (a : Act) (w : World), wpAnyT P md ops (Calm Q) J fuel listed a w → wpAnyIn (Fence.wide.inRound l) n P md ops Q fuel listed a w
  | 0, _, _, _, h => ⟨h.1, h.2⟩
  | fuel + 1, listed, a, w, h => ⟨fun hr => h.1 hr, fun i hi => by
    have h2 := h.2 i hi
    unfold wpOp at h2
    unfold wpOpIn
    cases ho : ops[i]? with
    | none => rw [ho] at h2; exact wpAnyIn_of_T hd fuel _ a w h2.2
    | some o =>
      rw [ho] at h2
      have hpo : plainOp o = true := by
        rw [Array.all_eq_true_iff_forall_mem] at hd
        exact hd o (Array.mem_of_getElem? ho)
      simp only at h2 ⊢
      split
      · rename_i hw
        rw [if_pos hw] at h2
        exact Oper.wpIn_mono (fun a' w' h' => wpAnyIn_of_T hd fuel _ a' w' h'.2) (operIn_of_wp hpo h2)
      · rename_i hw
        rw [if_neg hw] at h2
        exact ⟨fun _ _ => trivial, wpAnyIn_of_T hd fuel _ _ _ h2.2⟩⟩
theorem wpIn_region_roundT {l n id : Nat} {a : Act} {w : World} (J : Nat → World → Prop) (hm : P.follows .mixedOrders = true) (hd : ops.all plainOp = true)
    (h : wpAnyT P .any ops (Calm Q) J ops.size (Array.replicate ops.size false) a w.drew) : (Code.region id ops true).wpIn (Fence.wide.inRound l) n P Q a w :=
  wpIn_region_any hm (wpAnyIn_of_T hd _ _ _ _ h)
end
/-- A REGION THAT DOES NOT DRAW, IN A ROUND. -/
theorem wpIn_region_roundP {P : Program} {L : List Oper} {Q : Exit → Act → World → Prop} {l n id : Nat} {a : Act} {w : World} (hd : L.all plainOp = true)
    (h : wpList P L.toArray (Calm Q) L a w) : (Code.region id L.toArray false).wpIn (Fence.wide.inRound l) n P Q a w := by
  refine wpIn_region_lit ?_
  exact wpListIn_of_wpList L a w (List.all_eq_true.1 hd) h
end Go.Proofs.YthpnenblmkdmcaaDoor

/- grow.tell: its memory. -/
namespace Go.Proofs.YthpnenblmkdmcaaDoor
set_option linter.unusedSimpArgs false
set_option linter.unusedVariables false
open Go.RowKit Go.Deep Go.Shelf

theorem backS_any (va : Option Addr) (vn vc : Nat) (w : World) : Calls Tryd.prog 41 #[.slice va vn vc] w fun e w' => e = .returned (.func (.func 50) #[] #[.pointer (some ⟨w.heap.size, 0, none⟩)]) ∧ w' = w.alloc (.cells #[.slice va vn vc] 47) := by
  have hmf : ∀ (fn : Fn) (first cap : Array Value) (w : World), (Instr.makeFunc fn first cap).run Tryd.prog w = .ok (.func fn first cap) w := fun _ _ _ _ => rfl
  go_enter Tryd.func41, Tryd.ntmps41
  go_wp2
  go_ret
  exact ⟨rfl, rfl⟩
section
variable {P : Program}
theorem wpList_runG {ops : Array Oper} {rest : List Oper} {o : Oper} {a : Act} {w w' : World} {Q : Exit → Act → World → Prop} {v : Value} (hgd : o.guard = none) (hr : (execOp a.eval o).run P w = .ok (.value v) w') (h : wpList P ops Q rest (a.put o.dst v) w') : wpList P ops Q (o :: rest) a w :=
  wpList_plain hgd fun _ hK => wp_of_run hr (hK _ _ h)
end
/-- behind k rounds; w0: where the range begins; b: the first of tell's own boxes. -/
def tellI (w0 : World) (b : Nat) (F Fi : Nat → Prop) (kv : Value) (st : List Nt × (List Int × List Int)) (c : Int) (W : World) : Prop :=
  W.rowIs (b + 4) 29 32 (arrV st.2.1) ∧ W.rowIs (b + 5) 29 32 (arrV st.2.2) ∧ bkAt kv W Fi st.1 c ∧ (∀ j, Fi j → F j ∨ w0.heap.size + 2 ≤ j) ∧ Fr (fun j => F j ∨ j = b + 4 ∨ j = b + 5) w0 W
section
variable {w0 W W' : World} {b : Nat} {F Fi : Nat → Prop} {kv : Value} {st : List Nt × (List Int × List Int)} {c : Int}
theorem tellI.keep (h : tellI w0 b F Fi kv st c W) (hb0 : b + 5 < w0.heap.size) (hF : ∀ j, F j → j < b) (ho : W'.os = W.os ∧ W'.tape = W.tape ∧ W'.output = W.output) (hs : W.heap.size ≤ W'.heap.size)
    (hb : ∀ j, j < W.heap.size → j ≠ w0.heap.size → j ≠ w0.heap.size + 1 → W'.heap[j]? = W.heap[j]?) : tellI w0 b F Fi kv st c W' := by
  obtain ⟨h1, h2, h3, h4, h5⟩ := h
  have hz := h5.size
  refine ⟨World.rowIs.of_block h1 (hb _ (by omega) (by omega) (by omega)), World.rowIs.of_block h2 (hb _ (by omega) (by omega) (by omega)), h3.far (fun j hj hl => hb j hl (fun e => ?_) (fun e => ?_)) hs, h4,
    ⟨ho.1.trans h5.os, ho.2.1.trans h5.tape, ho.2.2.trans h5.output, by omega, fun j hj hn => (hb j (by omega) (by omega) (by omega)).trans (h5.block j hj hn)⟩⟩
  · rcases h4 j hj with h | h
    · have := hF j h; omega
    · omega
  · rcases h4 j hj with h | h
    · have := hF j h; omega
    · omega
/-- one node more. -/
theorem tell_node {N : List Nt} {L : List (List Int)} {sv : Value} {W1 : World} (hk : bkAt kv W Fi N c) (hW : Below W.heap.size W W1) (hsv : sumsAt W1 sv L) (hL : L.length ≤ 1000) (ht : tabIs W) (hF0 : ¬ Fi 0) (hN : N.length < 1000000) (hc : 0 ≤ c ∧ c < 1000000000) :
    Calls Tryd.prog 42 #[kv, sv] W1 fun e w' => ∃ Fj, e = .returned (.agg (rowV 32 (arrV (nodeS L)))) ∧ bkAt kv w' Fj (addN N (ntOf L)) (c + 1) ∧ (∀ j, Fj j → Fi j ∨ W1.heap.size ≤ j) ∧ Fr Fi W1 w' := by
  refine (gnode_k Fi kv N c L sv W1 (hk.below hW (Nat.le_refl _)) hsv hL (ht.below hW ht.1) hF0 hN hc).mono ?_
  rintro e w' ⟨rfl, h1, h2⟩
  exact ⟨_, rfl, h1, fun j hj => by
    rcases hj with h | h
    · exact Or.inl h
    · exact Or.inr h.1, h2⟩
end
theorem Fr.of_belowW {F : Nat → Prop} {w W : World} (h : Below w.heap.size w W) : Fr F w W := Fr.of_below F h
/-- a sum stored into a box of a call's own. -/
theorem tell_store {W : World} {b : Nat} {q : List Int} {t : Nat} {f : Nat → Value} (hr : W.rowIs b t 32 f) :
    ∃ W', (storeVar 29 ⟨b, 0, none⟩ (.agg (rowV 32 (arrV q)))).run Tryd.prog W = .ok () W' ∧ W'.rowIs b t 32 (arrV q) ∧ W'.heap.size = W.heap.size ∧ But W.heap.size b W W' := by
  obtain ⟨h1, h2, h3⟩ := stow32T_row W b q hr
  exact ⟨_, stow32T_run W b q hr, h1, h2, h3⟩
/-- tell's own boxes. -/
def tellRows (b : Nat) (kv stv pv : Value) (o f : List Int) (W : World) : Prop :=
  W.rowIs b 30 1 (fun _ => kv) ∧ W.rowIs (b + 1) 47 1 (fun _ => stv) ∧ W.rowIs (b + 3) 22 1 (fun _ => pv) ∧ W.rowIs (b + 4) 29 32 (arrV o) ∧ W.rowIs (b + 5) 29 32 (arrV f)
theorem tellRows.lt {b : Nat} {kv stv pv : Value} {o f : List Int} {W : World} (h : tellRows b kv stv pv o f W) : b + 5 < W.heap.size := by
  obtain ⟨_, _, _, _, ⟨c, h, _⟩⟩ := h; exact (Array.getElem?_eq_some_iff.1 h).1
theorem tellRows.below {b n : Nat} {kv stv pv : Value} {o f : List Int} {W W' : World} (h : tellRows b kv stv pv o f W) (hb : Below n W W') (hn : b + 5 < n) : tellRows b kv stv pv o f W' := by
  obtain ⟨h1, h2, h3, h4, h5⟩ := h
  exact ⟨hb.row h1 (by omega), hb.row h2 (by omega), hb.row h3 (by omega), hb.row h4 (by omega), hb.row h5 (by omega)⟩
/-- two results that lie in memory. -/
theorem results_two_cells {P : Program} {fn : Func} {p q : Tmp} {ty : TypeId} (h : fn.results = #[.cell p ty, .cell q ty]) (tmps : Array Value) (w : World) (g1 g2 : Nat) (t : TypeId) (f1 f2 : Nat → Value) (n : Nat) (d : TypeDesc)
    (hp : tmps.getD p undef = .pointer (some ⟨g1, 0, none⟩)) (hq : tmps.getD q undef = .pointer (some ⟨g2, 0, none⟩)) (hu : P.underlying ty = some d) (hd : (match d with | .struct _ | .array _ _ => true | _ => false) = true) (hi : (P.info? ty).map (·.size) = some n)
    (h1 : w.rowIs g1 t n f1) (h2 : w.rowIs g2 t n f2) : (results fn tmps).run P w = .ok (.tuple #[.agg (rowV n f1), .agg (rowV n f2)]) w := by
  have hp' : tmps[p]?.getD undef = .pointer (some ⟨g1, 0, none⟩) := by simpa using hp
  have hq' : tmps[q]?.getD undef = .pointer (some ⟨g2, 0, none⟩) := by simpa using hq
  simp [results, h, hp', hq', asAddr, run_loadVar_row w g1 t ty (rowV n f1) (0, 0) d (rowIs_block h1) hu hd (by rw [hi, rowV_size]), run_loadVar_row w g2 t ty (rowV n f2) (0, 0) d (rowIs_block h2) hu hd (by rw [hi, rowV_size])]
/-- behind one round. -/
theorem tell_post {w6 W7 W9 : World} {b : Nat} {F Fi Fj : Nat → Prop} {kv : Value} {st st' : List Nt × (List Int × List Int)} {c c' : Int} (h : tellI w6 b F Fi kv st c W7) (hD : w6.heap.size + 1 < W7.heap.size) (hb0 : b + 5 < w6.heap.size) (hF : ∀ j, F j → j < b)
    (hr4 : W9.rowIs (b + 4) 29 32 (arrV st'.2.1)) (hr5 : W9.rowIs (b + 5) 29 32 (arrV st'.2.2)) (hk : bkAt kv W9 Fj st'.1 c') (hFj : ∀ j, Fj j → Fi j ∨ W7.heap.size ≤ j) (hfr : Fr (fun j => Fi j ∨ j = b + 4 ∨ j = b + 5) W7 W9) :
    W9.heap[w6.heap.size]? = W7.heap[w6.heap.size]? ∧ W9.heap[w6.heap.size + 1]? = W7.heap[w6.heap.size + 1]? ∧ tellI w6 b F Fj kv st' c' W9 := by
  obtain ⟨h1, h2, h3, h4, h5⟩ := h
  have hz := h5.size
  have nFi : ∀ j, b ≤ j → j < w6.heap.size + 2 → ¬ Fi j := fun j hb hj hf => by
    rcases h4 j hf with h | h
    · have := hF j h; omega
    · omega
  refine ⟨hfr.block _ (by omega) (fun h => ?_), hfr.block _ hD (fun h => ?_), hr4, hr5, hk, fun j hj => ?_, h5.trans hfr (fun j hj hG => ?_)⟩
  · rcases h with h | h | h
    · exact nFi _ (by omega) (by omega) h
    · omega
    · omega
  · rcases h with h | h | h
    · exact nFi _ (by omega) (by omega) h
    · omega
    · omega
  · rcases hFj j hj with h | h
    · exact h4 j h
    · exact Or.inr (by omega)
  · rcases hG with h | h | h
    · rcases h4 j h with h | h
      · exact Or.inl h
      · omega
    · exact Or.inr (Or.inl h)
    · exact Or.inr (Or.inr h)
/-- while a round's nodes are made: W7: where it began. -/
def tellS (W7 : World) (Fi : Nat → Prop) (kv : Value) (N : List Nt) (c : Int) (G : Nat → Prop) (W : World) : Prop := bkAt kv W G N c ∧ (∀ j, G j → Fi j ∨ W7.heap.size ≤ j) ∧ Fr Fi W7 W
def freshS (G : Nat → Prop) (W : World) (sv : Value) (L : List (List Int)) : Prop := sumsAt W sv L ∧ ∀ j, sv.ownBlock = some j → ¬ G j ∧ j < W.heap.size
theorem tellS.alloc2 {W7 W : World} {Fi G : Nat → Prop} {kv : Value} {N : List Nt} {c : Int} (h : tellS W7 Fi kv N c G W) (p q : List Int) (hp : isSum p) (hq : isSum q) :
    tellS W7 Fi kv N c G (W.alloc (.cells (rowV 64 (fun j => if j < 32 then arrV p j else arrV q (j - 32))) 29)) ∧ freshS G (W.alloc (.cells (rowV 64 (fun j => if j < 32 then arrV p j else arrV q (j - 32))) 29)) (.slice (some ⟨W.heap.size, 0, none⟩) 2 2) [p, q] := by
  have ba : Below W.heap.size W (W.alloc (.cells (rowV 64 (fun j => if j < 32 then arrV p j else arrV q (j - 32))) 29)) := (Below.refl _ _).alloc (Nat.le_refl _) _
  refine ⟨⟨h.1.below ba (Nat.le_refl _), h.2.1, h.2.2.alloc _⟩, two_sums W p q hp hq, fun j hj => ?_⟩
  have e : W.heap.size = j := by simpa [Value.ownBlock] using hj
  refine ⟨fun hG => ?_, by rw [← e]; simp⟩
  have := h.1.lt j hG
  omega
theorem freshS.alloc {W : World} {G : Nat → Prop} {sv : Value} {L : List (List Int)} (h : freshS G W sv L) (o : Obj) : freshS G (W.alloc o) sv L :=
  ⟨h.1.below ((Below.refl _ _).alloc (Nat.le_refl _) _) (Nat.le_refl _), fun j hj => ⟨(h.2 j hj).1, by have := (h.2 j hj).2; simp; omega⟩⟩
theorem tellS.call {W7 W : World} {Fi G : Nat → Prop} {kv : Value} {N : List Nt} {c : Int} (h : tellS W7 Fi kv N c G W) {sv : Value} {L : List (List Int)} (hsv : freshS G W sv L) (hL : L.length ≤ 1000) (ht : tabIs W7) (hFi0 : ¬ Fi 0) (hz : 0 < W7.heap.size) (hN : N.length < 1000000) (hc : 0 ≤ c ∧ c < 1000000000) :
    Calls Tryd.prog 42 #[kv, sv] W fun e w' => ∃ Gj, e = .returned (.agg (rowV 32 (arrV (nodeS L)))) ∧ tellS W7 Fi kv (addN N (ntOf L)) (c + 1) Gj w' ∧ ∀ sv2 L2, freshS G W sv2 L2 → freshS Gj w' sv2 L2 := by
  obtain ⟨h1, h2, h3⟩ := h
  have hG0 : ¬ G 0 := fun h => by
    rcases h2 0 h with h | h
    · exact hFi0 h
    · omega
  have tW : tabIs W := ht.far (h3.block 0 hz hFi0) h3.size
  refine (gnode_k G kv N c L sv W h1 hsv.1 hL tW hG0 hN hc).mono ?_
  rintro e w' ⟨rfl, g1, g2⟩
  have hs3 := h3.size
  refine ⟨_, rfl, ⟨g1, fun j hj => ?_, h3.trans g2 (fun j hj hG => ?_)⟩, fun sv2 L2 hf => ⟨hf.1.far (fun _ j hj hl => g2.block j hl (hf.2 j hj).1) g2.size, fun j hj => ⟨fun hG => ?_, ?_⟩⟩⟩
  · rcases hj with h | h
    · exact h2 j h
    · exact Or.inr (by omega)
  · rcases h2 j hG with h | h
    · exact h
    · omega
  · rcases hG with h | h
    · exact (hf.2 j hj).1 h
    · have := (hf.2 j hj).2; omega
  · have := (hf.2 j hj).2; have := g2.size; omega
end Go.Proofs.YthpnenblmkdmcaaDoor
