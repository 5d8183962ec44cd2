import Derived.Test.YtkgegihkhdgdoaaDoorOwn1
import Derived.Test.YtkgegihkhdgdoaaDoorOwn4
import Derived.Test.YtkgegihkhdgdoaaDoorOwn5
set_option linter.unusedVariables false
set_option linter.unusedSimpArgs false
/- tree.Lead: the steps that are kept. -/
namespace Go.Proofs.YtkgegihkhdgdoaaDoor
set_option linter.unusedSimpArgs false
set_option linter.unusedVariables false
open Go.RowKit Go.Deep Go.Shelf
attribute [local go_sem] Oper.semAt_some

theorem infoB : (Tryd.prog.info? 4).map (fun i => (i.zero, i.size, i.bytes)) = some (some (.bool false), 1, 1) := by kernel_rfl
/-- append(steps, left). -/
theorem bl_append_run (w : World) (B : Nat) (v u : Value) (xs : List Value) (hv : owns w B 4 v xs) (hu : u.oneCell' = true) (hs : xs.length < 1000000) (hB : B ≤ w.heap.size) :
    ∃ a c w', (Builtin.append_ #[141, 141] 141 #[v, .slice (some ⟨w.heap.size, 0, none⟩) 1 1]).run Tryd.prog (w.alloc (.cells #[u] 4)) = .ok (.slice a (xs.length + 1) c) w' ∧ owns w' B 4 (.slice a (xs.length + 1) c) (xs ++ [u]) ∧
      Below B w w' ∧ (∀ j, j < w.heap.size → v.ownBlock ≠ some j → w'.heap[j]? = w.heap[j]?) ∧ ((Value.slice a (xs.length + 1) c).ownBlock = v.ownBlock ∨ (Value.slice a (xs.length + 1) c).ownBlock = some (w.heap.size + 1)) := by
  have b0 : Below w.heap.size w (w.alloc (.cells #[u] 4)) := (Below.refl _ _).alloc (Nat.le_refl _) _
  have h1 := hv.alloc (.cells #[u] 4)
  obtain ⟨a, c, w', hr, ho, hg, hat⟩ := row_append (P := Tryd.prog) (w.alloc (.cells #[u] 4)) 141 141 4 (.bool false) 1 1 Tryd.underlying141 infoB rfl (by omega)
    B v xs.length xs h1 (.slice (some ⟨w.heap.size, 0, none⟩) 1 1) 1 [u] rfl
    ⟨_, _, rfl, fun _ => ⟨w.heap.size, 0, rfl, fun j x hx => by
      match j with
      | 0 =>
        have : u = x := by simpa using hx
        subst this; exact one_cell w _ _
      | j + 1 => simp at hx⟩⟩
    (fun x hx => by
      have : x = u := by simpa using hx
      subst this; exact hu) (by unfold maxLen; omega) (by omega) (by simp; omega)
  refine ⟨a, c, w', hr, by unfold owns; rw [List.length_append]; exact ho, (b0.mono hB).trans (below_grown hg (fun k hk => (hv.block k hk).1) (by simp; omega)), fun j hj hne => ?_, ?_⟩
  · exact (hg.block j (by simp; omega) (fun e => hne e.symm)).trans (blk_alloc_lt _ _ _ hj)
  · rw [World.size_alloc] at hat; exact hat
def boolsV (l : List (Nat × Bool)) : List Value := l.map fun x => .bool x.2
/-- the box of a slice of bools of the call's own, and what it holds. -/
def stepsAt (W : World) (B bx : Nat) (l : List (Nat × Bool)) : Prop := ∃ v, W.rowIs bx 141 1 (fun _ => v) ∧ owns W B 4 v (boolsV l) ∧ ∀ j, v.ownBlock = some j → j ≠ bx
theorem stepsAt.far {W W' : World} {B bx : Nat} {l : List (Nat × Bool)} (h : stepsAt W B bx l) (hb : ∀ j, B ≤ j → j < W.heap.size → W'.heap[j]? = W.heap[j]?) (hx : W'.heap[bx]? = W.heap[bx]?) : stepsAt W' B bx l := by
  obtain ⟨v, h1, h2, h3⟩ := h
  exact ⟨v, World.rowIs.of_block h1 hx, h2.far (fun k hk => hb k (h2.block k hk).1 (h2.block k hk).2), h3⟩
theorem boolsV_get (l : List (Nat × Bool)) (i : Nat) (h : i < l.length) : (boolsV l)[i]? = some (.bool l[i].2) := by simp [boolsV, h]
theorem owns_not_loop {W : World} {B : Nat} {e : TypeId} {v : Value} {xs : List Value} (h : owns W B e v xs) {b : Nat} {o : Obj} (hb : W.heap[b]? = some o) (ho : o.isCells = false) : ∀ j, v.ownBlock = some j → j ≠ b := by
  intro j hj e'
  subst e'
  obtain ⟨_, h | ⟨g, cap, cur, rfl, _, hg, _⟩⟩ := h
  · rw [h.1] at hj; cases hj
  · obtain rfl : g = j := by simpa [Value.ownBlock] using hj
    rw [hb] at hg; cases hg; cases ho
theorem stepsAt.put {W : World} {B bx : Nat} {l : List (Nat × Bool)} (h : stepsAt W B bx l) {b : Nat} {o : Obj} (o' : Obj) (hb : W.heap[b]? = some o) (ho : o.isCells = false) : stepsAt (W.putObj b o') B bx l := by
  obtain ⟨v, h1, h2, h3⟩ := h
  refine ⟨v, World.rowIs.of_block h1 (putObj_block W b o' (fun e => ?_)), h2.far (fun k hk => putObj_block W b o' (owns_not_loop h2 hb ho k hk)), h3⟩
  subst e
  obtain ⟨cs, hc, _⟩ := h1
  rw [hb] at hc; cases hc; cases ho
set_option maxHeartbeats 1000000 in
set_option maxRecDepth 100000 in
/-- slices.Reverse of the call's own bools. -/
theorem revBools_any (B : Nat) (v : Value) (l : List (Nat × Bool)) (w : World) (h : owns w B 4 v (boolsV l)) (hm : l.length ≤ 1000) :
    Calls Tryd.prog 95 #[v] w fun e w' => e = .returned (.tuple #[]) ∧ owns w' B 4 v (boolsV l.reverse) ∧ w'.heap.size = w.heap.size ∧ (∀ j, v.ownBlock ≠ some j → j < w.heap.size → w'.heap[j]? = w.heap[j]?) ∧ Below B w w' := by
  have hbl : (boolsV l).length = l.length := by simp [boolsV]
  obtain ⟨hl, hh | ⟨g, cap, cur, rfl, hB, hg, hc, hmx, hcs, htk⟩⟩ := h
  · obtain ⟨rfl, h0⟩ := hh
    have e : l = [] := List.eq_nil_of_length_eq_zero (by omega)
    subst e
    go_enter Tryd.func95, Tryd.ntmps95
    go_wp2
    go_loopw [2, 3] (fun x y wr => x = .int .i64 0 ∧ y = .int .i64 (-1) ∧ wr = w) (fun x _ _ => 0)
    case atStart => exact ⟨rfl, rfl, rfl⟩
    case round =>
      obtain ⟨rfl, rfl, rfl⟩ := hrel
      go_wp2
      go_end0
      exact ⟨rfl, owns_nil _ _ _, rfl, fun _ _ _ => rfl, Below.refl _ _⟩
  · rw [Nat.mul_one] at htk hcs
    rw [hbl] at hc htk ⊢
    have hcell : ∀ i (hi : i < l.length), cur.getD i undef = .bool l[i].2 := fun i hi => by
      have h1 := boolsV_get l i hi
      rw [← htk, List.getElem?_take, if_pos hi, Array.getElem?_toList] at h1
      simp [Array.getD_eq_getD_getElem?, h1]
    have hrow : w.rowIs g 4 cap (fun i => cur.getD i undef) := ⟨cur, hg, hcs, fun i hi => by simp [Array.getD, hcs, hi]⟩
    refine (revBool_any g l.length cap (fun i => cur.getD i undef) w hrow (fun i hi => ⟨_, hcell i hi⟩) hc hm).mono ?_
    rintro e w' ⟨rfl, hr, hz, hb⟩
    have hlt := (Array.getElem?_eq_some_iff.1 hg).1
    refine ⟨rfl, ?_, hz, fun j hj hjl => hb.block j hjl (fun e => hj (by rw [e]; rfl)), ⟨hb.os, hb.tape, hb.output, hb.size, fun k hk => hb.block k (by omega) (by omega)⟩⟩
    obtain ⟨c', hb', hs', hc'⟩ := hr
    have hbr : (boolsV l.reverse).length = l.length := by simp [boolsV]
    refine ⟨by rw [Nat.mul_one], Or.inr ⟨g, cap, c', by rw [hbr], hB, hb', by rw [hbr]; exact hc, hmx, by rw [Nat.mul_one]; exact hs', ?_⟩⟩
    refine List.ext_getElem? fun i => ?_
    rw [hbr, Nat.mul_one]
    by_cases hi : i < l.length
    · rw [List.getElem?_take, if_pos hi, Array.getElem?_toList, hc' i (by omega)]
      show some (if i < l.length then cur.getD (l.length - 1 - i) undef else cur.getD i undef) = _
      rw [if_pos hi, hcell _ (by omega), boolsV_get l.reverse i (by rw [List.length_reverse]; exact hi)]
      rw [List.getElem_reverse]
    · rw [List.getElem?_take, if_neg hi, List.getElem?_eq_none (by omega)]
end Go.Proofs.YtkgegihkhdgdoaaDoor

/- tree.Lead: where a path leads. -/
namespace Go.Proofs.YtkgegihkhdgdoaaDoor
set_option linter.unusedSimpArgs false
set_option linter.unusedVariables false
open Go.RowKit Go.Deep Go.Shelf
attribute [local go_sem] Oper.semAt_some

/-- behind k steps up. -/
def leadAt (wL : World) (F : Nat → Prop) (kv : Value) (N : List Nt) (c : Int) (leaf : List Int) (U : List (Bool × List Int)) (sb k : Nat) (wr : World) : Prop :=
  ∃ Fi, bkAt kv wr Fi (leadFN N (U.take k) leaf) (c + k) ∧ (∀ j, Fi j → F j ∨ wL.heap.size ≤ j) ∧ Fr (fun j => F j ∨ j = sb) wL wr ∧ wr.rowIs sb 32 32 (arrV (leadF (U.take k) leaf))
theorem ups_get {w : List (Nat × Bool)} {path : List (List Int)} {k : Nat} (h1 : k < w.length) (h2 : k < path.length) : (ups w path)[k]? = some ((w.reverse[k]'(by rw [List.length_reverse]; exact h1)).2, path[k]) := by
  unfold ups
  rw [List.getElem?_eq_getElem (by rw [List.length_zip, List.length_reverse, List.length_map]; omega), List.getElem_zip]
  simp
theorem leadAt_step {wL : World} {F : Nat → Prop} {kv : Value} {N : List Nt} {c : Int} {leaf : List Int} {U : List (Bool × List Int)} {sb k : Nat} {wr wa wn : World} {Fi : Nat → Prop} (hk : k < U.length)
    (h2 : ∀ j, Fi j → F j ∨ wL.heap.size ≤ j) (h3 : Fr (fun j => F j ∨ j = sb) wL wr) (h4 : wr.rowIs sb 32 32 (arrV (leadF (U.take k) leaf))) (hsb : sb < wL.heap.size) (hF : ¬ F sb)
    (ba : Below wr.heap.size wr wa) (hb : bkAt kv wn (Gr Fi wa wn) (addN (leadFN N (U.take k) leaf) (ntOf (upL (leadF (U.take k) leaf) U[k]))) (c + k + 1)) (hf : Fr Fi wa wn) :
    leadAt wL F kv N c leaf U sb (k + 1) (wn.setCells sb 0 (rowV 32 (arrV (nodeS (upL (leadF (U.take k) leaf) U[k])))).toList) ∧ (wn.setCells sb 0 (rowV 32 (arrV (nodeS (upL (leadF (U.take k) leaf) U[k])))).toList).heap.size = wn.heap.size := by
  have s1 := ba.size
  have s2 := hf.size
  have s3 := h3.size
  have hFi : ¬ Fi sb := fun h => by
    rcases h2 _ h with h | h
    · exact hF h
    · omega
  have ra : wa.rowIs sb 32 32 (arrV (leadF (U.take k) leaf)) := ba.row h4 h4.lt
  have rn : wn.rowIs sb 32 32 (arrV (leadF (U.take k) leaf)) := World.rowIs.of_block ra (hf.block sb (by omega) hFi)
  have hst := stow32T_row wn sb (nodeS (upL (leadF (U.take k) leaf) U[k])) rn
  refine ⟨⟨Gr Fi wa wn, ?_, ?_, ?_, ?_⟩, hst.2.1⟩
  · rw [take_snoc U k hk, leadFN_snoc, show c + ((k + 1 : Nat) : Int) = c + k + 1 by omega]
    refine hb.far (fun j hj hl => hst.2.2.block j hl (fun e => ?_)) (by omega)
    subst e
    rcases hj with hj | hj
    · exact hFi hj
    · omega
  · intro j hj
    rcases hj with hj | hj
    · exact h2 j hj
    · exact Or.inr (by omega)
  · refine ((h3.trans (Fr.of_below (fun _ => False) ba) (fun _ _ h => h.elim)).trans (G := Fi) ⟨hf.os, hf.tape, hf.output, by omega, fun j hj hn => hf.block j (by omega) hn⟩ (fun j hj hfi => ?_)).trans (G := fun j => j = sb) ⟨hst.2.2.os, hst.2.2.tape, hst.2.2.output, hst.2.2.size, fun j hj hn => hst.2.2.block j hj hn⟩ (fun j hj e => Or.inr e)
    rcases h2 j hfi with h | h
    · exact Or.inl h
    · omega
  · rw [take_snoc U k hk, leadF_snoc]; exact hst.1
set_option maxHeartbeats 1000000 in
set_option maxRecDepth 100000 in
theorem lead_yes (F : Nat → Prop) (kv : Value) (N : List Nt) (c : Int) (n at_ : Int) (hn : -9223372036854775808 ≤ n ∧ n ≤ 9223372036854775807) (ha : -9223372036854775808 ≤ at_ ∧ at_ ≤ 9223372036854775807) (leaf : List Int) (path : List (List Int)) (pv : Value) (w : World)
    (hl : isSum leaf) (hk : bkAt kv w F N c) (hp : sumsAt w pv path) (hpF : 0 < path.length → ∀ j, pv.ownBlock = some j → ¬ F j) (ht : tabIs w) (hF0 : ¬ F 1) (hN : N.length + path.length < 100000) (hc : 0 ≤ c ∧ c < 100000000) (hlen : path.length ≤ 1000) (hok : okLead n at_ path = true) :
    Calls Tryd.prog 77 #[kv, .int .i64 n, .int .i64 at_, sumV leaf, pv] w fun e w' => e = .returned (.tuple #[sumV (leadF (ups (wayI n at_) path) leaf), .int .i64 0]) ∧ bkAt kv w' (Gr F w w') (leadFN N (ups (wayI n at_) path) leaf) (c + path.length) ∧ Fr F w w' := by
  have hz32 := zero_s32
  have hth : thereB n at_ = true := by simp [okLead] at hok; exact hok.1
  have hpl : path.length = (wayI n at_).length := by simp [okLead] at hok; exact hok.2
  have hwl := wayI_len n at_ hn.2
  obtain ⟨w1, hw1⟩ : ∃ w1, w1 = (w.alloc (.cells (rowV 32 (arrV leaf)) 32)).alloc (.cells (rowV 32 (fun _ => .int .u8 0)) 32) := ⟨_, rfl⟩
  have s1 : w1.heap.size = w.heap.size + 2 := by rw [hw1]; simp
  have b1 : Below w.heap.size w w1 := by rw [hw1]; exact ((Below.refl _ _).alloc (Nat.le_refl _) _).alloc (by simp) _
  have r1 : w1.rowIs (w.heap.size + 1) 32 32 (fun _ => .int .u8 0) := by
    rw [hw1]
    have := rowIs_box (w.alloc (.cells (rowV 32 (arrV leaf)) 32)) 32 32 (fun _ => .int .u8 0)
    rwa [World.size_alloc] at this
  have l1 : w1.rowIs w.heap.size 32 32 (arrV leaf) := by
    rw [hw1]
    exact ((Below.refl (w.alloc (.cells (rowV 32 (arrV leaf)) 32)).heap.size _).alloc (Nat.le_refl _) _).row (rowIs_box w 32 32 (arrV leaf)) (by simp)
  have X1 := within_any n at_ w1
  have X2 := depth_any n at_ hn ha w1
  rw [hth] at X1
  have HP : Hid _ := hp
  obtain ⟨_, pa, pc, rfl, hpc, _, hpg⟩ := hp
  have q0 : (path.length : Int) ≤ 1000 := by omega
  rw [← hpl] at X2
  refine callsIn_wide (n := 3) |>.1 ?_
  refine callsIn_of_wp_marks Tryd.func77 rfl trivial ?_ rfl
  refine wpIn_wide.2 ?_
  simp only [Tryd.ntmps77, List.size_toArray, List.length_cons, List.length_nil, Nat.reduceAdd, Nat.reduceSub, Array.replicate_succ, Array.replicate_zero, List.push_toArray, List.append_toArray, List.nil_append, List.cons_append]
  unfold sumV
  go_upto_region 1 with fail
  rw [← hw1]
  have S1 : Hid _ := s1
  have B1 : Hid _ := b1
  have HPL : Hid _ := hpl
  have HPG : Hid _ := hpg
  have HK : Hid _ := hk
  have HPF : Hid _ := hpF
  have HT : Hid _ := ht
  have HF0 : Hid _ := hF0
  have HN : Hid _ := hN
  have HC : Hid _ := hc
  have HL : Hid _ := hl
  have HWL : Hid _ := hwl
  clear hw1 s1 b1 hpl hok hpg hz32 hk hpF ht hF0 hN hc hl hwl
  go_wp2_with fail
  refine X1.mono ?_
  rintro e w' ⟨rfl, hw⟩
  obtain rfl := hw.symm
  clear X1 hw
  go_wp2_with fail
  refine X2.mono ?_
  rintro e w2 ⟨rfl, b2⟩
  clear X2
  have s2 := b2.size
  have B2 : Hid _ := b2
  have r2 : w2.rowIs (w.heap.size + 1) 32 32 (fun _ => .int .u8 0) := b2.row r1 (by have := S1.out; omega)
  have l2 : w2.rowIs w.heap.size 32 32 (arrV leaf) := b2.row l1 (by have := S1.out; omega)
  have R2 : Hid _ := r2
  have L2 : Hid _ := l2
  have S2 : Hid _ := s2
  have hmk := run_make_room (P := Tryd.prog) 141 4 (.bool false) 1 Tryd.underlying141 infoB rfl .i64 .i64 path.length (by omega) (by omega) w2
  clear b2 r1 l1 r2 l2 s2
  go_upto_region 4 with (at_make; refine wpList_make_run rfl _ _ _ rfl rfl rfl hmk ?_)
  clear hmk
  obtain ⟨w3, hw3⟩ : ∃ w3, w3 = (w2.alloc (.cells (madeCells #[Value.bool false] path.length) 4)).alloc (.cells #[.slice (some ⟨w2.heap.size, 0, none⟩) 0 path.length] 141) := ⟨_, rfl⟩
  have st3 : stepsAt w3 w2.heap.size (w2.heap.size + 1) [] := by
    rw [hw3]
    refine ⟨.slice (some ⟨w2.heap.size, 0, none⟩) 0 path.length, ?_, ?_, fun j hj => ?_⟩
    · have := rowIs_one (w2.alloc (.cells (madeCells #[Value.bool false] path.length) 4)) (.slice (some ⟨w2.heap.size, 0, none⟩) 0 path.length) 141
      rwa [World.size_alloc] at this
    · refine owns.alloc ?_ _
      exact ⟨rfl, Or.inr ⟨w2.heap.size, path.length, _, rfl, Nat.le_refl _, blk_alloc_new _ _, Nat.zero_le _, by unfold maxLen; omega, by rw [size_madeCells]; simp, by simp [boolsV]⟩⟩
    · have : w2.heap.size = j := by simpa [Value.ownBlock] using hj
      omega
  have s3 : w3.heap.size = w2.heap.size + 2 := by rw [hw3]; simp
  have b3 : Below w2.heap.size w2 w3 := by rw [hw3]; exact ((Below.refl _ _).alloc (Nat.le_refl _) _).alloc (by simp) _
  rw [← hw3]
  have ST3 : Hid _ := st3
  have S3 : Hid _ := s3
  have B3 : Hid _ := b3
  have X3 := way_any n at_ w3
  obtain ⟨W0, hW0⟩ : ∃ W0, W0 = wayW n at_ w3 := ⟨_, rfl⟩
  rw [← hW0] at X3
  have b0 : Below w3.heap.size w3 W0 := by rw [hW0]; unfold wayW; exact ((Below.refl _ _).alloc (Nat.le_refl _) _).alloc (by simp) _
  have hca : W0.cell? ⟨w3.heap.size, 0, none⟩ = some (.int .i64 n) := by
    have r1 : (w3.alloc (.cells #[.int .i64 n] 3)).rowIs w3.heap.size 3 1 (fun _ => .int .i64 n) := rowIs_one _ _ _
    have bb : Below (w3.alloc (.cells #[.int .i64 n] 3)).heap.size (w3.alloc (.cells #[.int .i64 n] 3)) W0 := by rw [hW0]; unfold wayW; exact (Below.refl _ _).alloc (Nat.le_refl _) _
    exact (bb.row r1 (by simp)).cell (i := 0) (by omega)
  have hcb : W0.cell? ⟨w3.heap.size + 1, 0, none⟩ = some (.int .i64 at_) := by
    have r1 : W0.rowIs (w3.alloc (.cells #[.int .i64 n] 3)).heap.size 3 1 (fun _ => .int .i64 at_) := by rw [hW0]; unfold wayW; exact rowIs_one _ _ _
    have := r1.cell (i := 0) (by omega)
    rwa [World.size_alloc] at this
  have sz0 : W0.heap.size = w3.heap.size + 2 := by rw [hW0]; unfold wayW; simp
  have HS := way1_hands 2 n at_ hn ha w3.heap.size (w3.heap.size + 1) W0 (by omega) (by omega) hca hcb
  have HST : Hid _ := HS
  have B0 : Hid _ := b0
  have SZ0 : Hid _ := sz0
  clear hw3 st3 s3 b3 hW0 hca hcb HS b0 sz0
  go_wp2_with fail
  refine X3.mono ?_
  rintro e w' ⟨rfl, hw⟩
  obtain rfl := hw.symm
  clear X3 hw
  go_wp2_with fail
  refine (wpIn_wide (n := 3)).1 ?_
  refine wpIn_range_at (gf := 86) (lb := #[.pointer (some ⟨w3.heap.size, 0, none⟩), .pointer (some ⟨w3.heap.size + 1, 0, none⟩)]) (encs := stepV) (ys := wayI n at_) rfl (enters_of Tryd.func86 (by kernel_rfl) rfl) HST.out (fun _ => rfl)
    (fun k W => stepsAt W w2.heap.size (w2.heap.size + 1) ((wayI n at_).take k) ∧ Below w2.heap.size w2 W)
    (fun k W x y h hx => ⟨h.1.put _ hx rfl, h.2.trans ⟨rfl, rfl, rfl, by simp [World.putObj], fun j hj => putObj_block W _ _ (by have := SZ0.out; have := S3.out; omega)⟩⟩)
    (fun k W h => ⟨h.1, h.2.drew⟩) (fun o o' => ?start)
    (fun x => { tmps := #[kv, .int .i64 n, .int .i64 at_, .agg (rowV 32 (arrV leaf)), .slice pa path.length pc, undef, undef, undef, .pointer (some ⟨w.heap.size, 0, none⟩), undef, .pointer (some ⟨w.heap.size + 1, 0, none⟩), .int .i64 0, .pointer (some ⟨w2.heap.size + 1, 0, none⟩), undef, .bool x.2, undef, undef, undef,
      .int .i64 n, .int .i64 at_, .bool true, .bool false, .bool false, .slice pa path.length pc, .int .i64 path.length, .int .i64 n, .int .i64 at_, .int .i64 path.length, .bool false, .bool false, undef, .slice pa path.length pc, .int .i64 path.length, .slice (some ⟨w2.heap.size, 0, none⟩) 0 path.length, .int .i64 n, .int .i64 at_,
      .func (.func 86) #[] #[.pointer (some ⟨w3.heap.size, 0, none⟩), .pointer (some ⟨w3.heap.size + 1, 0, none⟩)], .int .i64 (x.1 : Int), .bool x.2, undef, undef, undef, undef, undef, undef, undef, undef, undef, undef, undef, undef, undef, undef, undef, undef, undef, undef, undef, undef, undef, undef, undef, undef, undef, undef, undef, undef, undef, undef, undef, undef, undef], defers := [] }) ?assign ?body ?done
  case start =>
    have bb : Below W0.heap.size W0 ((W0.alloc o).alloc o') := ((Below.refl _ _).alloc (Nat.le_refl _) _).alloc (by simp) _
    have b00 : Below w3.heap.size w3 ((W0.alloc o).alloc o') := B0.out.trans (bb.mono (by have := SZ0.out; omega))
    refine ⟨stepsAt.far ST3.out (fun j _ hj => b00.block j hj) (b00.block _ (by have := S3.out; omega)), B3.out.trans (b00.mono (by have := S3.out; omega))⟩
  case assign =>
    intro l x W K hK
    simp only [stepV, List.zip_toArray, List.zip_cons_cons, List.zip_nil_left, List.zip_nil_right, List.foldl_toArray, List.foldl_cons, List.foldl_nil, List.setIfInBounds_toArray, List.set_cons_succ, List.set_cons_zero]
    gi_wp2
    exact hK
  case body =>
    rintro l k hk W x ⟨⟨v, hbx, how, hvb⟩, hB⟩ hDd hDl
    have hkl : ((wayI n at_).take k).length = k := by simp; omega
    have hbk : (boolsV ((wayI n at_).take k)).length = k := by simp [boolsV]; omega
    have szW := hB.size
    have hsv : ∃ va vc, v = .slice va k vc := by
      obtain ⟨va, vc, e, _⟩ := ownsRow_slice how
      rw [hbk] at e; exact ⟨va, vc, e⟩
    obtain ⟨va, vc, rfl⟩ := hsv
    have cbx := hbx.cell (i := 0) (by omega)
    have hnd := owns_not_loop how hDd rfl
    have hnl := owns_not_loop how hDl rfl
    have hlD : W0.heap.size + 1 < W.heap.size := (Array.getElem?_eq_some_iff.1 hDl).1
    obtain ⟨a8, c8, w8, hr8, ho8, hb8, hk8, hat8⟩ := bl_append_run W w2.heap.size _ (.bool (wayI n at_)[k].2) _ how rfl (by rw [hbk]; have := HPL.out; omega) szW
    rw [hbk] at hr8 ho8 hat8
    have hlx : w2.heap.size + 1 < W.heap.size := by have := SZ0.out; have := S3.out; omega
    have hbx8 : w8.rowIs (w2.heap.size + 1) 141 1 (fun _ => .slice va k vc) := World.rowIs.of_block hbx (hk8 _ hlx (fun e => hvb _ e rfl))
    have c8' := hbx8.cell (i := 0) (by omega)
    have f8' := hbx8.frozen 0
    have hne0 : W0.heap.size ≠ w2.heap.size + 1 := by have := SZ0.out; have := S3.out; omega
    have hne1 : W0.heap.size + 1 ≠ w2.heap.size + 1 := by have := SZ0.out; have := S3.out; omega
    have FIN : Hid (stepsAt (w8.setCell ⟨w2.heap.size + 1, 0, none⟩ (.slice a8 (k + 1) c8)) w2.heap.size (w2.heap.size + 1) ((wayI n at_).take (k + 1)) ∧ Below w2.heap.size w2 (w8.setCell ⟨w2.heap.size + 1, 0, none⟩ (.slice a8 (k + 1) c8)) ∧
        (w8.setCell ⟨w2.heap.size + 1, 0, none⟩ (.slice a8 (k + 1) c8)).heap[W0.heap.size]? = W.heap[W0.heap.size]? ∧ (w8.setCell ⟨w2.heap.size + 1, 0, none⟩ (.slice a8 (k + 1) c8)).heap[W0.heap.size + 1]? = W.heap[W0.heap.size + 1]?) := (show _ from by
      have e8 : boolsV ((wayI n at_).take k) ++ [.bool (wayI n at_)[k].2] = boolsV ((wayI n at_).take (k + 1)) := by rw [take_snoc _ _ hk]; unfold boolsV; rw [List.map_append]; rfl
      rw [e8] at ho8
      have h8b : ∀ j, (Value.slice a8 (k + 1) c8).ownBlock = some j → j ≠ w2.heap.size + 1 := fun j hj => by
        rcases hat8 with h | h
        · exact hvb j (h ▸ hj)
        · rw [h] at hj
          have : W.heap.size + 1 = j := by simpa using hj
          omega
      have r9 := World.rowIs.set hbx8 0 (.slice a8 (k + 1) c8)
      refine ⟨⟨.slice a8 (k + 1) c8, r9.congr (fun i hi => by rw [if_pos (by omega)]), ho8.far (fun j hj => blk_setCell_other _ _ _ _ (h8b j hj)), h8b⟩, (hB.trans hb8).setCell (p := ⟨w2.heap.size + 1, 0, none⟩) (Nat.le_succ _) _, ?_, ?_⟩
      · exact (blk_setCell_other _ _ _ _ (fun e => hne0 e)).trans (hk8 _ (by omega) (fun e => hnd _ e rfl))
      · exact (blk_setCell_other _ _ _ _ (fun e => hne1 e)).trans (hk8 _ (by omega) (fun e => hnl _ e rfl)))
    clear how hvb hB hDd hDl hbx hbx8 ho8 hb8 hk8 hat8 hkl hbk hnd hnl szW
    generalize (wayI n at_)[k] = y at hr8 ⊢
    gi_wp2_with (gi_at_builtin; refine wpListIn_append_run rfl _ _ _ rfl rfl rfl hr8 ?_)
    exact ⟨FIN.out.2.2.1, FIN.out.2.2.2, FIN.out.1, FIN.out.2.1⟩
  case done =>
    rintro W ⟨⟨v, hbx, how, hvb⟩, hB⟩ hDd
    rw [List.take_length] at how
    have hbl : (boolsV (wayI n at_)).length = path.length := by rw [HPL.out]; simp [boolsV]
    have hsv : ∃ va vc, v = .slice va path.length vc := by
      obtain ⟨va, vc, e, _⟩ := ownsRow_slice how
      rw [hbl] at e; exact ⟨va, vc, e⟩
    obtain ⟨va, vc, rfl⟩ := hsv
    have XR := revBools_any w2.heap.size _ (wayI n at_) W how (by have := HPL.out; omega)
    have cbx := hbx.cell (i := 0) (by omega)
    have hDw : W0.heap.size < W.heap.size := (Array.getElem?_eq_some_iff.1 hDd).1
    have hnd := owns_not_loop how hDd rfl
    have szW := hB.size
    have HDD : Hid _ := hDd
    have HB : Hid _ := hB
    have HBX : Hid _ := hbx
    have HVB : Hid _ := hvb
    have HND : Hid _ := hnd
    have HDW : Hid _ := hDw
    have SZW : Hid _ := szW
    have HBLE : Hid _ := hbl
    clear how hB hDd hbx hvb hnd hDw szW hbl
    go_wp2_with fail
    refine XR.mono ?_
    rintro e w4 ⟨rfl, how4, hs4, hk4, b4⟩
    clear XR cbx
    have hlx : w2.heap.size + 1 < W.heap.size := by have := HDW.out; have := SZ0.out; have := S3.out; omega
    have hbx4 : w4.rowIs (w2.heap.size + 1) 141 1 (fun _ => .slice va path.length vc) := World.rowIs.of_block HBX.out (hk4 _ (fun e => HVB.out _ e rfl) hlx)
    have hDd4 : w4.heap[W0.heap.size]? = some (.deferred (some [])) := (hk4 _ (fun e => HND.out _ e rfl) HDW.out).trans HDD.out
    have b24 : Below w2.heap.size w2 w4 := Below.trans HB.out b4
    have l4 : w4.rowIs w.heap.size 32 32 (arrV leaf) := b24.row L2.out (by have := S2.out; have := S1.out; omega)
    have rb4 : w4.rowIs (w.heap.size + 1) 32 32 (fun _ => .int .u8 0) := b24.row R2.out (by have := S2.out; have := S1.out; omega)
    have ld4 : ∀ j, j < 32 → w4.cell? ⟨w.heap.size, 0 + j, none⟩ = some (arrV leaf j) := fun j hj => by rw [Nat.zero_add]; exact l4.cell hj
    have rn4 := rowIs_box w4 32 32 (fun _ => .int .u8 0)
    have bn4 : Below w4.heap.size w4 (w4.alloc (.cells (rowV 32 (fun _ => .int .u8 0)) 32)) := (Below.refl _ _).alloc (Nat.le_refl _) _
    have LD4 : Hid _ := ld4
    have RN4 : Hid _ := rn4
    have BN4 : Hid _ := bn4
    have HBX4 : Hid _ := hbx4
    have HDD4 : Hid _ := hDd4
    have B24 : Hid _ := b24
    have RB4 : Hid _ := rb4
    have HS4 : Hid _ := hs4
    have HOW4 : Hid _ := how4
    clear how4 hs4 hk4 b4 hlx hbx4 hDd4 b24 l4 rb4 ld4 rn4 bn4
    have hz32 := zero_s32
    go_upto_region 9 with (first | (refine wpList_load_seg rfl 32 _ rfl w.heap.size 0 32 (arrV leaf) rfl _ Tryd.underlying32 rfl hi32' LD4.out ?_) | (refine wpList_store_row rfl 32 _ _ rfl rfl w4.heap.size 0 32 (arrV leaf) rfl rfl hi32' (fun _ _ => rfl) _ _ _ RN4.out (by omega) ?_; intro w6 r6 hz6 hb6))
    clear hz32
    have s6 : w6.heap.size = w4.heap.size + 1 := by rw [hz6]; simp
    have b46 : Below w4.heap.size w4 w6 := BN4.out.trans ((hb6.mono (by simp)).below (Nat.le_refl _))
    have hw24 : w.heap.size + 2 ≤ w2.heap.size := by have := S1.out; have := S2.out; omega
    have hw2W : W0.heap.size = w2.heap.size + 4 := by have := SZ0.out; have := S3.out; omega
    have hD4 : W0.heap.size < w4.heap.size := by have := HS4.out; have := HDW.out; omega
    have b06 : Below w.heap.size w w6 := (B1.out.trans ((B2.out.mono (by have := S1.out; omega)).trans ((B24.out.mono (by omega)).trans (b46.mono (by omega)))))
    have hFlt : ∀ j, F j → j < w.heap.size := bkAt.lt HK.out
    have cbx6 : w6.cell? ⟨w2.heap.size + 1, 0, none⟩ = some (.slice va path.length vc) := (b46.row HBX4.out (by omega)).cell (i := 0) (by omega)
    have L0 : leadAt w6 F kv N c leaf (ups (wayI n at_) path) w4.heap.size 0 w6 := ⟨F, by
      rw [List.take_zero, leadFN_nil, show c + ((0 : Nat) : Int) = c by omega]
      exact bkAt.below HK.out b06 (Nat.le_refl _), fun j hj => Or.inl hj, Fr.refl _ _, r6.congr fun i hi => by rw [if_pos (by omega), Nat.sub_zero]; rfl⟩
    have hUl : (ups (wayI n at_) path).length = path.length := by rw [ups_len HPL.out]; exact HPL.out.symm
    -- what lies in a round's world
    have FACT : Hid (∀ (wr : World) (k : Nat), leadAt w6 F kv N c leaf (ups (wayI n at_) path) w4.heap.size k wr → w6.heap.size ≤ wr.heap.size ∧ wr.rowIs (w.heap.size + 1) 32 32 (fun _ => .int .u8 0) ∧ wr.heap[W0.heap.size]? = some (.deferred (some [])) ∧ tabIs wr ∧
        ∀ (hk : k < path.length), ∃ g o gs y, pa = some ⟨g, o, none⟩ ∧ va = some ⟨gs, 0, none⟩ ∧ (∀ j, j < 32 → wr.cell? ⟨g, o + k * 32 + j, none⟩ = some (arrV path[k] j)) ∧ wr.cell? ⟨gs, k, none⟩ = some (.bool y.1) ∧ (ups (wayI n at_) path)[k]? = some y ∧ y.2 = path[k]) := (show _ from by
      intro wr k ⟨Fi, h1, h2, h3, h4⟩
      have hsz := h3.size
      have keep : ∀ j, j < w6.heap.size → ¬ F j → j ≠ w4.heap.size → wr.heap[j]? = w6.heap[j]? := fun j hj hf hn => h3.block j hj (fun h => by rcases h with h | h; exact hf h; exact hn h)
      have nF : ∀ j, w.heap.size ≤ j → ¬ F j := fun j hj hf => by have := hFlt j hf; omega
      refine ⟨hsz, ?_, ?_, ?_, fun hk => ?_⟩
      · exact World.rowIs.of_block (b46.row RB4.out (by omega)) (keep _ (by omega) (nF _ (by omega)) (by omega))
      · exact (keep _ (by omega) (nF _ (by omega)) (by omega)).trans ((b46.block _ hD4).trans HDD4.out)
      · have := HT.out.1
        exact tabIs.far (tabIs.below HT.out b06 this) (keep 1 (by omega) HF0.out (by omega)) hsz
      · obtain ⟨g, o, hpa, hg, hcell⟩ := HPG.out (by omega)
        have how4 := HOW4.out
        obtain ⟨gs, gcap, e, hgs, hgl, _, _, hgc, _⟩ := owns.shape how4 (by simp [boolsV]; have := HPL.out; omega)
        have e2 : va = some ⟨gs, 0, none⟩ := by
          injection e
        have hgF : ¬ F g := HPF.out (by omega) g (by rw [hpa]; rfl)
        have hku : k < (ups (wayI n at_) path).length := by rw [hUl]; exact hk
        have hkw : k < (wayI n at_).length := by have := HPL.out; omega
        refine ⟨g, o, gs, _, hpa, e2, fun j hj => ?_, ?_, ups_get hkw hk, rfl⟩
        · have e3 : wr.heap[g]? = w.heap[g]? := (keep g (by omega) hgF (by omega)).trans (b06.block g hg)
          exact (World.cell?_of_block (w := w) (a := ⟨g, o + k * 32 + j, none⟩) e3).trans (hcell k hk j hj)
        · have e3 : wr.heap[gs]? = w4.heap[gs]? := (keep gs (by omega) (nF _ (by omega)) (by omega)).trans (b46.block gs hgl)
          refine (World.cell?_of_block (w := w4) (a := ⟨gs, k, none⟩) e3).trans (hgc k _ ?_)
          rw [boolsV_get _ k (by rw [List.length_reverse]; have := HPL.out; omega)])
    have RES : Hid (∀ (wr : World), leadAt w6 F kv N c leaf (ups (wayI n at_) path) w4.heap.size path.length wr → ∀ wz, wz.rowIs (w.heap.size + 1) 32 32 (arrV (leadF (ups (wayI n at_) path) leaf)) → wz.heap.size = wr.heap.size → But wr.heap.size (w.heap.size + 1) wr wz →
        wz.heap[W0.heap.size]? = some (.deferred (some [])) ∧ (wz.putObj W0.heap.size (.deferred none)).rowIs (w.heap.size + 1) 32 32 (arrV (leadF (ups (wayI n at_) path) leaf)) ∧ bkAt kv (wz.putObj W0.heap.size (.deferred none)) (Gr F w (wz.putObj W0.heap.size (.deferred none))) (leadFN N (ups (wayI n at_) path) leaf) (c + path.length) ∧ Fr F w (wz.putObj W0.heap.size (.deferred none))) := (show _ from by
      intro wr hL wz hr hz hb
      have hf := FACT.out wr _ hL
      obtain ⟨Fi, h1, h2, h3, h4⟩ := hL
      rw [List.take_of_length_le (by omega)] at h1
      have hpz : (wz.putObj W0.heap.size (.deferred none)).heap.size = wz.heap.size := by simp [World.putObj]
      have hFi : ∀ j, w.heap.size ≤ j → j < w6.heap.size → ¬ Fi j := fun j h5 h6 h => by
        rcases h2 j h with h | h
        · have := hFlt j h; omega
        · omega
      have hblk : ∀ j, j < wr.heap.size → j ≠ w.heap.size + 1 → j ≠ W0.heap.size → (wz.putObj W0.heap.size (.deferred none)).heap[j]? = wr.heap[j]? := fun j hj h5 h6 => (putObj_block wz _ _ h6).trans (hb.block j hj h5)
      refine ⟨(hb.block _ (by omega) (by omega)).trans hf.2.2.1, World.rowIs.of_block hr (putObj_block wz _ _ (by omega)), ?_, ?_⟩
      · refine (bkAt.far h1 (fun j hj hl => hblk j hl (fun e => hFi j (by omega) (by omega) hj) (fun e => hFi j (by omega) (by omega) hj)) (by omega)).grow (fun j hj => ?_) (fun j hj => ?_)
        · rcases h2 j hj with h | h
          · exact Or.inl h
          · exact Or.inr ⟨by omega, by have := h1.lt j hj; omega⟩
        · rcases hj with h | h
          · have := hFlt j h; omega
          · exact h.2
      · refine ⟨hb.os.trans (h3.os.trans b06.os), hb.tape.trans (h3.tape.trans b06.tape), hb.output.trans (h3.output.trans b06.output), by omega, fun j hj hn => ?_⟩
        exact (hblk j (by omega) (by omega) (by omega)).trans ((h3.block j (by omega) (fun h => by rcases h with h | h; exact hn h; omega)).trans (b06.block j hj)))
    have HLL : Hid _ := L0
    have HUL : Hid _ := hUl
    have H0 : Hid _ := hw24
    have H1 : Hid _ := hFlt
    have h6p : w4.heap.size < w6.heap.size ∧ w.heap.size ≤ w4.heap.size := by omega
    have H6 : Hid _ := h6p
    clear h6p
    clear L0 hUl b06 b46 s6 hw24 hw2W hD4 hFlt r6 hz6 hb6
    go_wp2
    go_loopw [48] (fun i wr => ∃ k : Nat, i = .int .i64 k ∧ k ≤ path.length ∧ leadAt w6 F kv N c leaf (ups (wayI n at_) path) w4.heap.size k wr) (fun i _ => path.length - (intOf i).toNat)
    case atStart => exact ⟨0, rfl, by omega, HLL.out⟩
    case round =>
      obtain ⟨k, rfl, hk, hL⟩ := hrel
      obtain ⟨f1, f2, f3, f4, f5⟩ := FACT.out wr k hL
      have RES2 := RES.out wr
      have HRES : Hid _ := RES2
      clear HLL RES RES2 FACT cbx6
      by_cases hlt : k < path.length
      · obtain ⟨g, o, gs, y, rfl, rfl, cp, cs, hy, ey⟩ := f5 hlt
        have hys : isSum y.2 := by rw [ey]; exact HP.out.1 _ (List.getElem_mem _)
        rw [← ey] at cp
        obtain ⟨Fi, h1, h2, h3, h4⟩ := hL
        obtain ⟨S, hS⟩ : ∃ S, S = leadF ((ups (wayI n at_) path).take k) leaf := ⟨_, rfl⟩
        have hSs : isSum S := by rw [hS]; exact leadF_sum _ _ HL.out
        obtain ⟨wd, hwd⟩ : ∃ wd, wd = wr.drew := ⟨_, rfl⟩
        have cpd : ∀ j, j < 32 → wd.cell? ⟨g, o + k * 32 + j, none⟩ = some (arrV y.2 j) := by rw [hwd]; exact cp
        have csd : ∀ j, j < 32 → wd.cell? ⟨w4.heap.size, 0 + j, none⟩ = some (arrV S j) := fun j hj => by rw [hwd, Nat.zero_add, hS]; exact h4.cell hj
        obtain ⟨L2, hL2⟩ : ∃ L2, L2 = upL S y := ⟨_, rfl⟩
        have hL2s : ∀ x ∈ L2, isSum x := by rw [hL2]; exact upL_sums hSs hys
        have hL22 : L2.length = 2 := by rw [hL2]; unfold upL; split <;> rfl
        have lnN := leadFN_len ((ups (wayI n at_) path).take k) N leaf
        have lnT : ((ups (wayI n at_) path).take k).length ≤ path.length := by rw [List.length_take, HUL.out]; omega
        have szd : wd.heap.size = wr.heap.size := by rw [hwd]; rfl
        have bd : Below wr.heap.size wr wd := by rw [hwd]; exact (Below.refl _ _).drew
        have NODE : Hid (∀ p q, L2 = [p, q] → Calls Tryd.prog 70 #[kv, .slice (some ⟨wd.heap.size, 0, none⟩) 2 2] (wd.alloc (.cells (rowV 64 (fun j => if j < 32 then arrV p j else arrV q (j - 32))) 32)) fun e w' => e = .returned (.agg (rowV 32 (arrV (nodeS L2)))) ∧
            w'.rowIs w4.heap.size 32 32 (arrV S) ∧ leadAt w6 F kv N c leaf (ups (wayI n at_) path) w4.heap.size (k + 1) (w'.setCells w4.heap.size 0 (rowV 32 (arrV (nodeS L2))).toList)) := (show _ from by
          intro p q hpq
          have ba : Below wd.heap.size wd (wd.alloc (.cells (rowV 64 (fun j => if j < 32 then arrV p j else arrV q (j - 32))) 32)) := (Below.refl _ _).alloc (Nat.le_refl _) _
          have bra := bd.trans (ba.mono (show wr.heap.size ≤ _ by omega))
          have h1a := bkAt.below h1 bra (Nat.le_refl _)
          have ht2 := two_sums wd p q (hL2s p (by rw [hpq]; simp)) (hL2s q (by rw [hpq]; simp))
          rw [← hpq] at ht2
          have hX := node_k Fi kv _ _ L2 _ _ h1a ht2 (by omega) (tabIs.below f4 bra f4.1) (fun h => by
            rcases h2 1 h with h | h
            · exact HF0.out h
            · have := H6.out; have := HT.out.1; omega) (by have hn0 : N.length + path.length < 100000 := HN.out; omega) (by have hc0 : 0 ≤ c ∧ c < 100000000 := HC.out; omega)
          refine hX.mono ?_
          rintro e wn ⟨rfl, hb, hf⟩
          have hk' : k < (ups (wayI n at_) path).length := by rw [HUL.out]; exact hlt
          have hy' : (ups (wayI n at_) path)[k] = y := by
            rw [List.getElem?_eq_getElem hk'] at hy; exact Option.some.inj hy
          have hst := leadAt_step hk' h2 h3 h4 H6.out.1 (fun h => by have := H1.out _ h; have := H6.out; omega) bra (by rw [hy', ← hS, ← hL2]; exact hb) hf
          rw [hy', ← hS, ← hL2] at hst
          refine ⟨rfl, ?_, hst.1⟩
          refine World.rowIs.of_block (bra.row (hS ▸ h4) h4.lt) (hf.block _ (by have := h4.lt; have := bra.size; omega) (fun h => ?_))
          rcases h2 _ h with h | h
          · have := H1.out _ h; have := H6.out; omega
          · have := H6.out; omega)
        have k0 : (0 : Int) ≤ (k : Int) := by omega
        have k1 : (k : Int) < (path.length : Int) := by omega
        obtain ⟨yb, ys⟩ := y
        have HL2 : Hid _ := hL2
        have HWD : Hid _ := hwd
        clear f1 f2 f3 f4 f5 hy hys ey h1 h2 h3 h4 hS hSs hL2 hL2s hL22 lnN lnT szd bd cp hwd
        simp only at cs cpd
        cases yb with
        | true =>
          have EL : Hid (L2 = [S, ys]) := (show L2 = [S, ys] from HL2.out)
          have X7 := NODE.out S ys EL.out
          clear NODE HL2
          go_upto_region 13 with fail
          refine wp_region_noPanic ?_
          refine wp_region_held_drew (S := fun w' => True) (by kernel_rfl) trivial (fun hHeld => ?_)
          rw [← HWD.out]
          refine take_op (i := 0) (v := ?vm590) rfl (by kernel_rfl) (by kernel_rfl) (by kernel_rfl) (fun _ _ _ h => h) rfl hHeld ?ym590 ?rm590
          case ym590 => (intro wz hz; go_simp; first | done | with_reducible rfl)
          try simp only [Act.put, List.setIfInBounds_toArray, List.set_cons_zero, List.set_cons_succ]
          refine take_op (i := 2) (v := ?vm592) rfl (by kernel_rfl) (by kernel_rfl) (by kernel_rfl) (fun _ _ _ h => h) rfl hHeld ?ym592 ?rm592
          case ym592 => (intro wz hz; go_simp; first | done | with_reducible rfl)
          try simp only [Act.put, List.setIfInBounds_toArray, List.set_cons_zero, List.set_cons_succ]
          refine take_op (i := 3) (v := ?vm593) rfl (by kernel_rfl) (by kernel_rfl) (by kernel_rfl) (fun _ _ _ h => h) rfl hHeld ?ym593 ?rm593
          case ym593 => (intro wz hz; go_simp; first | done | with_reducible rfl)
          try simp only [Act.put, List.setIfInBounds_toArray, List.set_cons_zero, List.set_cons_succ]
          refine take_op (i := 4) (v := ?vm594) rfl (by kernel_rfl) (by kernel_rfl) (by kernel_rfl) (fun _ _ _ h => h) rfl hHeld ?ym594 ?rm594
          case ym594 => (intro wz hz; go_simp; first | done | with_reducible rfl)
          try simp only [Act.put, List.setIfInBounds_toArray, List.set_cons_zero, List.set_cons_succ]
          refine take_two (i := 1) (j := 5) (u := .agg (rowV 32 (arrV S))) (v := .agg (rowV 32 (arrV ys))) rfl rfl (by kernel_rfl) rfl rfl trivial ?ha59 ?hb59 ?oa59 ?ob59
          case ha59 => exact exec_load_row 32 _ rfl w4.heap.size 0 32 (arrV S) rfl _ Tryd.underlying32 rfl hi32' csd
          case hb59 => exact exec_load_row 32 _ rfl g (o + k * 32) 32 (arrV ys) rfl _ Tryd.underlying32 rfl hi32' cpd
          case oa59 =>
            try simp only [Act.put, List.setIfInBounds_toArray, List.set_cons_zero, List.set_cons_succ]
            refine take_run (i := 5) (v := .agg (rowV 32 (arrV ys))) (w' := wd) rfl (by kernel_rfl) rfl ?hc59 trivial ?_
            case hc59 => exact exec_load_row 32 _ rfl g (o + k * 32) 32 (arrV ys) rfl _ Tryd.underlying32 rfl hi32' cpd
            try simp only [Act.put, List.setIfInBounds_toArray, List.set_cons_zero, List.set_cons_succ]
            refine take_one (i := 6) rfl (by kernel_rfl) rfl (fun K hK => ?_)
            refine wp_of_run (exec_bslice2' 39 2 0 1 (.tmp 55) (.tmp 59) _ _ rfl rfl rfl (build_two (arrV S) (arrV ys) wd)) ?_
            refine hK.out _ _ trivial (fun hHeld => ?_)
            clear hK K
            try simp only [Act.put, List.setIfInBounds_toArray, List.set_cons_zero, List.set_cons_succ]
            refine take_one (i := 7) rfl (by kernel_rfl) rfl (fun K hK => ?_)
            go_simp
            refine Calls.mono X7 ?_
            rintro e wn ⟨rfl, rn, hfin⟩
            refine hK.out _ _ trivial (fun hHeld => ?_)
            clear hK K
            try simp only [Act.put, List.setIfInBounds_toArray, List.set_cons_zero, List.set_cons_succ]
            refine take_one (i := 8) rfl (by kernel_rfl) rfl (fun K hK => ?_)
            have hst := stow32T_run wn w4.heap.size (nodeS L2) rn
            unfold Oper.wp execOp
            simp only [Instr.storeAt, Instr.sureAddr, Sem.run_bind, Sem.run_pure, Result.andThen_ok]
            simp [Act.eval, hst, Oper.upon]
            clear hst
            generalize wn.setCells w4.heap.size 0 (rowV 32 (arrV (nodeS L2))).toList = w9 at hfin ⊢
            refine hK.out _ _ trivial (fun hHeld => ?_)
            clear hK K hHeld
            try simp only [Act.put, List.setIfInBounds_toArray, List.set_cons_zero, List.set_cons_succ]
            refine wpAnyH_done (by kernel_rfl) ?_ _
            refine NoPanic.normal ?_
            have HFIN : Hid _ := hfin
            clear hfin rn cpd csd cs
            go_wp2
            go_light
            exact ⟨⟨k + 1, by go_num, by omega, HFIN.out⟩, by simp [intOf]; omega⟩
          case ob59 =>
            try simp only [Act.put, List.setIfInBounds_toArray, List.set_cons_zero, List.set_cons_succ]
            refine take_run (i := 1) (v := .agg (rowV 32 (arrV S))) (w' := wd) rfl (by kernel_rfl) rfl ?hd59 trivial ?_
            case hd59 => exact exec_load_row 32 _ rfl w4.heap.size 0 32 (arrV S) rfl _ Tryd.underlying32 rfl hi32' csd
            try simp only [Act.put, List.setIfInBounds_toArray, List.set_cons_zero, List.set_cons_succ]
            refine take_one (i := 6) rfl (by kernel_rfl) rfl (fun K hK => ?_)
            refine wp_of_run (exec_bslice2' 39 2 0 1 (.tmp 55) (.tmp 59) _ _ rfl rfl rfl (build_two (arrV S) (arrV ys) wd)) ?_
            refine hK.out _ _ trivial (fun hHeld => ?_)
            clear hK K
            try simp only [Act.put, List.setIfInBounds_toArray, List.set_cons_zero, List.set_cons_succ]
            refine take_one (i := 7) rfl (by kernel_rfl) rfl (fun K hK => ?_)
            go_simp
            refine Calls.mono X7 ?_
            rintro e wn ⟨rfl, rn, hfin⟩
            refine hK.out _ _ trivial (fun hHeld => ?_)
            clear hK K
            try simp only [Act.put, List.setIfInBounds_toArray, List.set_cons_zero, List.set_cons_succ]
            refine take_one (i := 8) rfl (by kernel_rfl) rfl (fun K hK => ?_)
            have hst := stow32T_run wn w4.heap.size (nodeS L2) rn
            unfold Oper.wp execOp
            simp only [Instr.storeAt, Instr.sureAddr, Sem.run_bind, Sem.run_pure, Result.andThen_ok]
            simp [Act.eval, hst, Oper.upon]
            clear hst
            generalize wn.setCells w4.heap.size 0 (rowV 32 (arrV (nodeS L2))).toList = w9 at hfin ⊢
            refine hK.out _ _ trivial (fun hHeld => ?_)
            clear hK K hHeld
            try simp only [Act.put, List.setIfInBounds_toArray, List.set_cons_zero, List.set_cons_succ]
            refine wpAnyH_done (by kernel_rfl) ?_ _
            refine NoPanic.normal ?_
            have HFIN : Hid _ := hfin
            clear hfin rn cpd csd cs
            go_wp2
            go_light
            exact ⟨⟨k + 1, by go_num, by omega, HFIN.out⟩, by simp [intOf]; omega⟩
        | false =>
          have EL : Hid (L2 = [ys, S]) := (show L2 = [ys, S] from HL2.out)
          have X7 := NODE.out ys S EL.out
          clear NODE HL2
          go_upto_region 14 with fail
          refine wp_region_noPanic ?_
          refine wp_region_held_drew (S := fun w' => True) (by kernel_rfl) trivial (fun hHeld => ?_)
          rw [← HWD.out]
          refine take_op (i := 0) (v := ?vm660) rfl (by kernel_rfl) (by kernel_rfl) (by kernel_rfl) (fun _ _ _ h => h) rfl hHeld ?ym660 ?rm660
          case ym660 => (intro wz hz; go_simp; first | done | with_reducible rfl)
          try simp only [Act.put, List.setIfInBounds_toArray, List.set_cons_zero, List.set_cons_succ]
          refine take_op (i := 1) (v := ?vm661) rfl (by kernel_rfl) (by kernel_rfl) (by kernel_rfl) (fun _ _ _ h => h) rfl hHeld ?ym661 ?rm661
          case ym661 => (intro wz hz; go_simp; first | done | with_reducible rfl)
          try simp only [Act.put, List.setIfInBounds_toArray, List.set_cons_zero, List.set_cons_succ]
          refine take_op (i := 2) (v := ?vm662) rfl (by kernel_rfl) (by kernel_rfl) (by kernel_rfl) (fun _ _ _ h => h) rfl hHeld ?ym662 ?rm662
          case ym662 => (intro wz hz; go_simp; first | done | with_reducible rfl)
          try simp only [Act.put, List.setIfInBounds_toArray, List.set_cons_zero, List.set_cons_succ]
          refine take_op (i := 3) (v := ?vm663) rfl (by kernel_rfl) (by kernel_rfl) (by kernel_rfl) (fun _ _ _ h => h) rfl hHeld ?ym663 ?rm663
          case ym663 => (intro wz hz; go_simp; first | done | with_reducible rfl)
          try simp only [Act.put, List.setIfInBounds_toArray, List.set_cons_zero, List.set_cons_succ]
          refine take_two (i := 4) (j := 5) (u := .agg (rowV 32 (arrV ys))) (v := .agg (rowV 32 (arrV S))) rfl rfl (by kernel_rfl) rfl rfl trivial ?ha66 ?hb66 ?oa66 ?ob66
          case ha66 => exact exec_load_row 32 _ rfl g (o + k * 32) 32 (arrV ys) rfl _ Tryd.underlying32 rfl hi32' cpd
          case hb66 => exact exec_load_row 32 _ rfl w4.heap.size 0 32 (arrV S) rfl _ Tryd.underlying32 rfl hi32' csd
          case oa66 =>
            try simp only [Act.put, List.setIfInBounds_toArray, List.set_cons_zero, List.set_cons_succ]
            refine take_run (i := 5) (v := .agg (rowV 32 (arrV S))) (w' := wd) rfl (by kernel_rfl) rfl ?hc66 trivial ?_
            case hc66 => exact exec_load_row 32 _ rfl w4.heap.size 0 32 (arrV S) rfl _ Tryd.underlying32 rfl hi32' csd
            try simp only [Act.put, List.setIfInBounds_toArray, List.set_cons_zero, List.set_cons_succ]
            refine take_one (i := 6) rfl (by kernel_rfl) rfl (fun K hK => ?_)
            refine wp_of_run (exec_bslice2' 39 2 0 1 (.tmp 66) (.tmp 67) _ _ rfl rfl rfl (build_two (arrV ys) (arrV S) wd)) ?_
            refine hK.out _ _ trivial (fun hHeld => ?_)
            clear hK K
            try simp only [Act.put, List.setIfInBounds_toArray, List.set_cons_zero, List.set_cons_succ]
            refine take_one (i := 7) rfl (by kernel_rfl) rfl (fun K hK => ?_)
            go_simp
            refine Calls.mono X7 ?_
            rintro e wn ⟨rfl, rn, hfin⟩
            refine hK.out _ _ trivial (fun hHeld => ?_)
            clear hK K
            try simp only [Act.put, List.setIfInBounds_toArray, List.set_cons_zero, List.set_cons_succ]
            refine take_one (i := 8) rfl (by kernel_rfl) rfl (fun K hK => ?_)
            have hst := stow32T_run wn w4.heap.size (nodeS L2) rn
            unfold Oper.wp execOp
            simp only [Instr.storeAt, Instr.sureAddr, Sem.run_bind, Sem.run_pure, Result.andThen_ok]
            simp [Act.eval, hst, Oper.upon]
            clear hst
            generalize wn.setCells w4.heap.size 0 (rowV 32 (arrV (nodeS L2))).toList = w9 at hfin ⊢
            refine hK.out _ _ trivial (fun hHeld => ?_)
            clear hK K hHeld
            try simp only [Act.put, List.setIfInBounds_toArray, List.set_cons_zero, List.set_cons_succ]
            refine wpAnyH_done (by kernel_rfl) ?_ _
            refine NoPanic.normal ?_
            have HFIN : Hid _ := hfin
            clear hfin rn cpd csd cs
            go_wp2
            go_light
            exact ⟨⟨k + 1, by go_num, by omega, HFIN.out⟩, by simp [intOf]; omega⟩
          case ob66 =>
            try simp only [Act.put, List.setIfInBounds_toArray, List.set_cons_zero, List.set_cons_succ]
            refine take_run (i := 4) (v := .agg (rowV 32 (arrV ys))) (w' := wd) rfl (by kernel_rfl) rfl ?hd66 trivial ?_
            case hd66 => exact exec_load_row 32 _ rfl g (o + k * 32) 32 (arrV ys) rfl _ Tryd.underlying32 rfl hi32' cpd
            try simp only [Act.put, List.setIfInBounds_toArray, List.set_cons_zero, List.set_cons_succ]
            refine take_one (i := 6) rfl (by kernel_rfl) rfl (fun K hK => ?_)
            refine wp_of_run (exec_bslice2' 39 2 0 1 (.tmp 66) (.tmp 67) _ _ rfl rfl rfl (build_two (arrV ys) (arrV S) wd)) ?_
            refine hK.out _ _ trivial (fun hHeld => ?_)
            clear hK K
            try simp only [Act.put, List.setIfInBounds_toArray, List.set_cons_zero, List.set_cons_succ]
            refine take_one (i := 7) rfl (by kernel_rfl) rfl (fun K hK => ?_)
            go_simp
            refine Calls.mono X7 ?_
            rintro e wn ⟨rfl, rn, hfin⟩
            refine hK.out _ _ trivial (fun hHeld => ?_)
            clear hK K
            try simp only [Act.put, List.setIfInBounds_toArray, List.set_cons_zero, List.set_cons_succ]
            refine take_one (i := 8) rfl (by kernel_rfl) rfl (fun K hK => ?_)
            have hst := stow32T_run wn w4.heap.size (nodeS L2) rn
            unfold Oper.wp execOp
            simp only [Instr.storeAt, Instr.sureAddr, Sem.run_bind, Sem.run_pure, Result.andThen_ok]
            simp [Act.eval, hst, Oper.upon]
            clear hst
            generalize wn.setCells w4.heap.size 0 (rowV 32 (arrV (nodeS L2))).toList = w9 at hfin ⊢
            refine hK.out _ _ trivial (fun hHeld => ?_)
            clear hK K hHeld
            try simp only [Act.put, List.setIfInBounds_toArray, List.set_cons_zero, List.set_cons_succ]
            refine wpAnyH_done (by kernel_rfl) ?_ _
            refine NoPanic.normal ?_
            have HFIN : Hid _ := hfin
            clear hfin rn cpd csd cs
            go_wp2
            go_light
            exact ⟨⟨k + 1, by go_num, by omega, HFIN.out⟩, by simp [intOf]; omega⟩
      · obtain rfl : k = path.length := by omega
        have k1 : ¬ (path.length : Int) < (path.length : Int) := by omega
        obtain ⟨Fi, h1, h2, h3, h4⟩ := id hL
        rw [List.take_of_length_le (Nat.le_of_eq HUL.out)] at h4
        have HLL : Hid _ := hL
        have lds : ∀ j, j < 32 → wr.cell? ⟨w4.heap.size, 0 + j, none⟩ = some (arrV (leadF (ups (wayI n at_) path) leaf) j) := fun j hj => by rw [Nat.zero_add]; exact h4.cell hj
        have LDS : Hid _ := lds
        have RF2 : Hid _ := f2
        clear lds f1 f2 f3 f4 f5 h1 h2 h3 h4 hL
        go_wp2_with (first | (refine wpList_load_seg rfl 32 _ rfl w4.heap.size 0 32 (arrV (leadF (ups (wayI n at_) path) leaf)) rfl _ Tryd.underlying32 rfl hi32' LDS.out ?_) | (refine wpList_store_row rfl 32 _ _ rfl rfl (w.heap.size + 1) 0 32 (arrV (leadF (ups (wayI n at_) path) leaf)) rfl rfl hi32' (fun _ _ => rfl) _ _ _ RF2.out (by omega) ?_; intro w9 r9 hz9 hb9))
        obtain ⟨e1, e2, e3, e4⟩ := HRES.out HLL.out w9 (r9.congr fun i hi => by rw [if_pos (by omega), Nat.sub_zero]) hz9 hb9
        exact bodyPostM_mark rfl e1 (results_cell_seg2 rfl _ _ (w.heap.size + 1) 32 32 (arrV (leadF (ups (wayI n at_) path) leaf)) _ rfl Tryd.underlying32 rfl hi32' e2) ⟨rfl, e3, e4⟩
end Go.Proofs.YtkgegihkhdgdoaaDoor

/- keyed.Root. -/
namespace Go.Proofs.YtkgegihkhdgdoaaDoor
set_option linter.unusedSimpArgs false
set_option linter.unusedVariables false
open Go.RowKit Go.Deep

/-- the root of pairs; what is noted, how often is hashed. -/
def keyS (x : Nat → Pr) (n : Nat) : List Int := krootS n (rootS (leavesTo x n))
def keyN (N : List Nt) (x : Nat → Pr) (n : Nat) : List Nt := addN (rootN (leavesN N x n) (leavesTo x n)) (krootNt n (rootS (leavesTo x n)))
def keyC (c : Int) (n : Nat) : Int := c + n + callsR n + 1
theorem keyS_sum (x : Nat → Pr) (n : Nat) : isSum (keyS x n) := krootS_sum _ _
/-- frames, one behind the other: what the later one may turn is the first one's, or new. -/
theorem Fr.step {F G : Nat → Prop} {w w1 w2 : World} {B : Nat} (h : Fr F w w1) (k : Fr G w1 w2) (hG : ∀ j, G j → F j ∨ B ≤ j) (hB : w.heap.size ≤ B) : Fr F w w2 :=
  h.trans k fun i hi hg => by
    rcases hG i hg with h | h
    · exact h
    · omega
set_option maxHeartbeats 2000000 in
set_option maxRecDepth 100000 in
theorem kRoot_k (F : Nat → Prop) (B : Nat) (kv : Value) (N : List Nt) (c : Int) (n : Nat) (v : Value) (x : Nat → Pr) (w : World) (hk : bkAt kv w F N c) (hFB : ∀ j, F j → B ≤ j) (hB : B ≤ w.heap.size) (hp : ∀ wz, Below B w wz → pairsAt wz v n x ∧ tabIs wz) (hn : n ≤ 1000) (hx : ∀ i, i < n → (x i).1.length + (x i).2.length ≤ 1000000) (hF0 : ¬ F 1) (hN : N.length < 90000) (hc : 0 ≤ c ∧ c < 90000000) :
    Calls Tryd.prog 15 #[kv, v] w fun e w' => e = .returned (sumV (keyS x n)) ∧ (∃ Fo, bkAt kv w' Fo (keyN N x n) (keyC c n) ∧ ∀ j, Fo j → F j ∨ w.heap.size ≤ j) ∧ Fr F w w' := by
  have hz32 := zero_s32
  have hlt := hk.lt
  obtain ⟨w1, hw1⟩ : ∃ w1, w1 = w.alloc (.cells (rowV 32 (fun _ => .int .u8 0)) 32) := ⟨_, rfl⟩
  have b1 : Below w.heap.size w w1 := by rw [hw1]; exact (Below.refl _ _).alloc (Nat.le_refl _) _
  have z1 : w1.heap.size = w.heap.size + 1 := by rw [hw1]; simp
  have rz : w1.rowIs w.heap.size 32 32 (fun _ => .int .u8 0) := by rw [hw1]; exact rowIs_box _ _ _ _
  have XL := leaves_k F B kv N c n v x w1 (hk.below b1 (Nat.le_refl _)) hFB (by omega) (fun wz hz => hp wz ((b1.mono hB).trans hz)) (by omega) hx hF0 (by omega) (by omega)
  have HP : Hid (∀ wz, Fr F w wz → tabIs wz) := (show _ from fun wz hz => (hp wz (hz.below hFB hB)).2)
  have hsl : ∃ a cap, v = .slice a n cap := by
    obtain ⟨a, cap, e, _⟩ := (hp w (Below.refl _ _)).1; exact ⟨a, cap, e⟩
  obtain ⟨va, vc, rfl⟩ := hsl
  have hn' : (n : Int) ≤ 1000 := by omega
  have hn0 : (0 : Int) ≤ (n : Int) := by omega
  have HW : Hid (tabIs w ∧ (∀ j, F j → j < w.heap.size) ∧ ¬ F 1 ∧ Fr F w w1 ∧ w1.heap.size = w.heap.size + 1 ∧ w1.rowIs w.heap.size 32 32 (fun _ => .int .u8 0)) := (show _ from ⟨(hp w (Below.refl _ _)).2, hlt, hF0, Fr.of_below F b1, z1, rz⟩)
  have HQ : Hid (n ≤ 1000 ∧ N.length < 90000 ∧ 0 ≤ c ∧ c < 90000000) := (show _ from ⟨hn, hN, hc⟩)
  clear hk hp hx hlt hF0 hN hc hFB hB b1 z1 rz
  unfold sumV
  go_enter Tryd.func15, Tryd.ntmps15
  go_upto_region 1 with fail
  rw [← hw1]
  clear hw1
  go_wp2_with fail
  refine XL.mono ?_
  rintro e w2 ⟨s, rfl, hns, Fi, hbk, hFi, hsF, hfr⟩
  obtain ⟨t0, hlt, hF0, fr1, z1, rz⟩ := HW.out
  obtain ⟨hn1, hN1, hc1⟩ := HQ.out
  have fr2 : Fr F w w2 := fr1.trans hfr fun i _ h => h
  have nFi : ∀ j, j < w1.heap.size → ¬ F j → ¬ Fi j := fun j hj hn h => by
    rcases hFi j h with h | h
    · exact hn h
    · omega
  have hFi0 : ¬ Fi 1 := nFi 1 (by have := t0.1; omega) hF0
  have hll := leavesTo_len x n
  have hnl := leavesN_len N x n
  have XR := root_k Fi kv (leavesN N x n) (c + n) (leavesTo x n) s w2 hbk hns.is (fun _ j hj => hsF j hj) (by rw [hll]; omega) (HP.out w2 fr2) hFi0 (by rw [hll]; omega) (by rw [hll]; omega)
  have hS : isSum (rootS (leavesTo x n)) := rootS_sum (leavesTo_sum x n)
  have hcr : 0 ≤ callsR n ∧ callsR n ≤ 1001 := by unfold callsR; split <;> omega
  have hrl := (rootNF_length (leavesTo x n).length (leavesN N x n) (leavesTo x n) (Nat.le_refl _)).1
  have hrl' : (rootN (leavesN N x n) (leavesTo x n)).length ≤ 100000 := by
    have e : rootN (leavesN N x n) (leavesTo x n) = rootNF (leavesTo x n).length (leavesN N x n) (leavesTo x n) := rfl
    rw [e]; rw [hll] at hrl; rw [hll]; omega
  rw [hll] at XR
  have ST : Hid (∀ w3, bkAt kv w3 (Gr Fi w2 w3) (rootN (leavesN N x n) (leavesTo x n)) (c + n + callsR n) → Fr Fi w2 w3 →
      Calls Tryd.prog 39 #[kv, .int .i64 (n : Int), .agg (rowV 32 (arrV (rootS (leavesTo x n))))] w3 fun e w' => e = .returned (.agg (rowV 32 (arrV (keyS x n)))) ∧ w'.rowIs w.heap.size 32 32 (fun _ => .int .u8 0) ∧ ∀ w5, But w'.heap.size w.heap.size w' w5 → w5.heap.size = w'.heap.size → (∃ Fo, bkAt kv w5 Fo (keyN N x n) (keyC c n) ∧ ∀ j, Fo j → F j ∨ w.heap.size ≤ j) ∧ Fr F w w5) := (show _ from fun w3 k3 f3 => by
    have s2 := fr2.size
    have s12 := hfr.size
    have s3 := f3.size
    have fr3 : Fr F w w3 := fr2.step f3 hFi (by omega)
    have hlt3 := k3.lt
    have nG : ∀ j, j < w1.heap.size → ¬ F j → ¬ Gr Fi w2 w3 j := fun j hj hn h => by
      rcases h with h | h
      · exact nFi j hj hn h
      · omega
    have nFw : ¬ F w.heap.size := fun h => by have := hlt _ h; omega
    refine (rootOf_k (Gr Fi w2 w3) kv _ _ n (rootS (leavesTo x n)) w3 k3 hn0 (by omega) hS (HP.out w3 fr3) (nG 1 (by have := t0.1; omega) hF0) (by omega) (by omega)).mono ?_
    rintro e w' ⟨rfl, k4, f4⟩
    have s4 := f4.size
    have nFi0 : ¬ Fi w.heap.size := nFi _ (by omega) nFw
    have rz2 : w2.rowIs w.heap.size 32 32 (fun _ => .int .u8 0) := World.rowIs.of_block rz (hfr.block _ (by omega) nFw)
    have rz3 : w3.rowIs w.heap.size 32 32 (fun _ => .int .u8 0) := World.rowIs.of_block rz2 (f3.block _ (by omega) nFi0)
    have rz4 : w'.rowIs w.heap.size 32 32 (fun _ => .int .u8 0) := World.rowIs.of_block rz3 (f4.block _ (by omega) (nG _ (by omega) nFw))
    refine ⟨rfl, rz4, fun w5 b5 z5 => ⟨⟨Gr (Gr Fi w2 w3) w3 w', ?_, fun j hj => ?_⟩, ?_⟩⟩
    · refine bkAt.far k4 (fun j hj hl => b5.block j hl (fun e => ?_)) b5.size
      subst e
      rcases hj with hj | hj
      · exact nG _ (by omega) nFw hj
      · omega
    · rcases hj with (hj | hj) | hj
      · rcases hFi j hj with h | h
        · exact Or.inl h
        · exact Or.inr (by omega)
      · exact Or.inr (by omega)
      · exact Or.inr (by omega)
    · have fr4 : Fr F w w' := fr3.step f4 (B := w1.heap.size) (fun j hj => by
        rcases hj with hj | hj
        · exact hFi j hj
        · exact Or.inr (by omega)) (by omega)
      exact ⟨b5.os.trans fr4.os, b5.tape.trans fr4.tape, b5.output.trans fr4.output, by have := fr4.size; omega, fun j hj hn => (b5.block j (by omega) (by omega)).trans (fr4.block j hj hn)⟩)
  obtain ⟨sa, sc, hse⟩ : ∃ sa sc, s = .slice sa n sc := by
    obtain ⟨a, c, e, _⟩ := ownsRow_slice hns.2
    rw [hll] at e; exact ⟨a, c, e⟩
  subst hse
  unfold sumV at XR
  clear XL hll hns hbk hFi hsF hfr t0 hlt hF0 fr1 z1 rz nFi hFi0 hnl hS hrl hrl' fr2
  go_wp2_with fail
  refine XR.mono ?_
  rintro e w3 ⟨rfl, k3, f3⟩
  have XO := ST.out w3 k3 f3
  clear XR ST k3 f3
  go_wp2_with fail
  refine XO.mono ?_
  rintro e w4 ⟨rfl, r4, K4⟩
  have HK4 : Hid _ := K4
  clear XO K4
  go_wp2_with (refine wpList_store_row rfl 32 _ _ rfl rfl w.heap.size 0 32 (arrV (keyS x n)) rfl rfl hi32' (fun _ _ => rfl) _ _ _ r4 (by omega) ?_; intro w5 r5 hz5 hb5)
  exact bodyPost_ret (results_cell_seg rfl _ _ w.heap.size 32 32 (arrV (keyS x n)) _ rfl Tryd.underlying32 rfl hi32' (r5.congr fun i hi => by rw [if_pos (by omega), Nat.sub_zero])) rfl ⟨rfl, HK4.out w5 hb5 hz5⟩
end Go.Proofs.YtkgegihkhdgdoaaDoor

/- keyed.lead: what it comes to; the book and one box, made at any time. -/
namespace Go.Proofs.YtkgegihkhdgdoaaDoor
set_option linter.unusedSimpArgs false
set_option linter.unusedVariables false
open Go.RowKit Go.Deep

/-- where a spot leads; what was noted, how often was hashed. -/
def toA (n : Int) (y : Sp) : Option (List Int) := if okLead n y.at_ y.path = true then some (leadF (ups (wayI n y.at_) y.path) (leafS y.pr)) else none
def toN (N : List Nt) (n : Int) (y : Sp) : List Nt := if okLead n y.at_ y.path = true then leadFN (addN N (leafNt y.pr)) (ups (wayI n y.at_) y.path) (leafS y.pr) else addN N (leafNt y.pr)
def toC (c : Int) (n : Int) (y : Sp) : Int := if okLead n y.at_ y.path = true then c + 1 + y.path.length else c + 1
def toV (n : Int) (y : Sp) : Nat → Value := match toA n y with
  | some s => arrV s
  | none => fun _ => .int .u8 0
def toE (n : Int) (y : Sp) : Int := match toA n y with
  | some _ => 0
  | none => 10
theorem toA_sum {n : Int} {y : Sp} {s : List Int} (h : toA n y = some s) : isSum s := by
  unfold toA at h
  split at h
  · rw [← Option.some.inj h]; exact leadF_sum _ _ (leafS_sum _)
  · cases h
/-- leaf and Lead together: where a spot leads. -/
theorem lead_both (F : Nat → Prop) (kv : Value) (N : List Nt) (c n : Int) (hn : inI64 n) (y : Sp) (hat : inI64 y.at_) (pv : Value) (w : World)
    (hk : bkAt kv w F N c) (hp : sumsAt w pv y.path) (hpF : 0 < y.path.length → ∀ j, pv.ownBlock = some j → ¬ F j) (ht : tabIs w) (hF0 : ¬ F 1) (hN : N.length + y.path.length < 100000) (hc : 0 ≤ c ∧ c < 100000000) (hlen : y.path.length ≤ 1000) :
    Calls Tryd.prog 77 #[kv, .int .i64 n, .int .i64 y.at_, .agg (rowV 32 (arrV (leafS y.pr))), pv] w fun e w' => e = .returned (.tuple #[.agg (rowV 32 (toV n y)), .int .i64 (toE n y)]) ∧ bkAt kv w' (Gr F w w') (if okLead n y.at_ y.path = true then leadFN N (ups (wayI n y.at_) y.path) (leafS y.pr) else N) (if okLead n y.at_ y.path = true then c + y.path.length else c) ∧ Fr F w w' := by
  have hlt := hk.lt
  cases hok : okLead n y.at_ y.path with
  | true =>
    refine (lead_yes F kv N c n y.at_ hn hat (leafS y.pr) y.path pv w (leafS_sum _) hk hp hpF ht hF0 hN hc hlen hok).mono ?_
    rintro e w' ⟨rfl, hb, hf⟩
    refine ⟨?_, by rw [if_pos rfl, if_pos rfl]; exact hb, hf⟩
    unfold toV toE toA
    rw [if_pos hok]; rfl
  | false =>
    refine (lead_no kv n y.at_ hn hat (leafS y.pr) y.path pv w hp hlen hok).mono ?_
    rintro e w' ⟨rfl, hb⟩
    have hs := hb.size
    refine ⟨?_, ?_, Fr.of_below F hb⟩
    · unfold toV toE toA
      rw [if_neg (by rw [hok]; simp)]
    · rw [if_neg (by simp), if_neg (by simp)]
      exact (hk.below hb (Nat.le_refl _)).grow (fun j hj => Or.inl hj) (fun j hj => by
        rcases hj with hj | hj
        · have := hlt j hj; omega
        · exact hj.2)
/-- the book, and a box that may be made by now. -/
def ldS (w0 : World) (F : Nat → Prop) (kv : Value) (N : List Nt) (c : Int) (W : World) (x : Option Nat) : Prop :=
  Fr F w0 W ∧ ∃ Fi : Nat → Prop, bkAt kv W Fi N c ∧ (∀ j, Fi j → F j ∨ w0.heap.size ≤ j) ∧ ∀ b, x = some b → w0.heap.size ≤ b ∧ W.rowIs b 32 32 (fun _ => .int .u8 0) ∧ ¬ Fi b
section
variable {w0 W : World} {F : Nat → Prop} {kv : Value} {N : List Nt} {c : Int} {x : Option Nat}
theorem ldS.call (h : ldS w0 F kv N c W x) : ∃ Fi : Nat → Prop, bkAt kv W Fi N c ∧ (∀ j, Fi j → F j ∨ w0.heap.size ≤ j) ∧ ∀ W' N' c', bkAt kv W' (Gr Fi W W') N' c' → Fr Fi W W' → ldS w0 F kv N' c' W' x := by
  obtain ⟨h1, Fi, h2, h3, h4⟩ := h
  refine ⟨Fi, h2, h3, fun W' N' c' k f => ⟨h1.step f h3 (Nat.le_refl _), Gr Fi W W', k, fun j hj => ?_, fun b hb => ?_⟩⟩
  · rcases hj with hj | hj
    · exact h3 j hj
    · exact Or.inr (by have := h1.size; omega)
  · obtain ⟨a1, a2, a3⟩ := h4 b hb
    refine ⟨a1, World.rowIs.of_block a2 (f.block b a2.lt a3), fun hg => ?_⟩
    rcases hg with hg | hg
    · exact a3 hg
    · have := a2.lt; omega
theorem ldS.al (h : ldS w0 F kv N c W none) : ldS w0 F kv N c (W.alloc (.cells (rowV 32 (fun _ => .int .u8 0)) 32)) (some W.heap.size) := by
  obtain ⟨h1, Fi, h2, h3, _⟩ := h
  have hb : Below W.heap.size W (W.alloc (.cells (rowV 32 (fun _ => .int .u8 0)) 32)) := (Below.refl _ _).alloc (Nat.le_refl _) _
  refine ⟨h1.trans (Fr.of_below (fun _ => False) hb) (fun i _ f => f.elim), Fi, h2.below hb (Nat.le_refl _), h3, fun b e => ?_⟩
  have e' : W.heap.size = b := Option.some.inj e
  subst e'
  exact ⟨h1.size, rowIs_box W _ _ _, fun hf => by have := h2.lt _ hf; omega⟩
theorem ldS.fin {b : Nat} (h : ldS w0 F kv N c W (some b)) (g : Nat → Value) (h1 : ∀ i, i < 32 → (g i).oneCell' = true) : ∃ V, (storeVar 32 ⟨b, 0, none⟩ (.agg (rowV 32 g))).run Tryd.prog W = .ok () V ∧
    Fr F w0 V ∧ w0.heap.size ≤ b ∧ V.rowIs b 32 32 g ∧ ∃ Fi : Nat → Prop, bkAt kv V Fi N c ∧ (∀ j, Fi j → F j ∨ w0.heap.size ≤ j) ∧ ¬ Fi b := by
  obtain ⟨f0, Fi, h2, h3, h4⟩ := h
  obtain ⟨a1, a2, a3⟩ := h4 b rfl
  have hr : (W.setCells b 0 (rowV 32 g).toList).rowIs b 32 32 g := (rowIs_splice a2).congr fun i hi => by rw [if_pos (by omega), Nat.sub_zero]
  have hB : But W.heap.size b W (W.setCells b 0 (rowV 32 g).toList) := but_setCells _ _ (But.refl _ _ _)
  refine ⟨_, stowR_run W 32 b 0 32 g hi32' h1 (there_of_row a2 (by omega)), ⟨hB.os.trans f0.os, hB.tape.trans f0.tape, hB.output.trans f0.output, by have := f0.size; have := hB.size; omega, fun j hj hn => (hB.block j (by have := f0.size; omega) (by omega)).trans (f0.block j hj hn)⟩, a1, hr, Fi, bkAt.far h2 (fun j hj hl => hB.block j hl (fun e => a3 (e ▸ hj))) hB.size, h3, a3⟩
end
theorem toV_one (n : Int) (y : Sp) : ∀ i, i < 32 → (toV n y i).oneCell' = true := fun i hi => by
  unfold toV
  cases toA n y <;> rfl
end Go.Proofs.YtkgegihkhdgdoaaDoor

/- keyed.lead. -/
namespace Go.Proofs.YtkgegihkhdgdoaaDoor
set_option linter.unusedSimpArgs false
set_option linter.unusedVariables false
open Go.RowKit Go.Deep

theorem al32K (w : World) : (Instr.alloc 32 true (.tuple #[])).run Tryd.prog w = .ok (.pointer (some ⟨w.heap.size, 0, none⟩)) (w.alloc (.cells (rowV 32 (fun _ => .int .u8 0)) 32)) := by
  show (_ : Result Value) = _
  kernel_rfl
theorem exec_alloc32 {o : Oper} {ev : Operand → Value} {w : World} (ho : o.op = .alloc 32) :
    (execOp ev o).run Tryd.prog w = .ok (.value (.pointer (some ⟨w.heap.size, 0, none⟩))) (w.alloc (.cells (rowV 32 (fun _ => .int .u8 0)) 32)) := by
  unfold execOp
  simp only [ho, Sem.run_bind, al32K, Result.andThen_ok, Sem.run_pure]
theorem regionKK {P : Program} {md : Region.Mode} {ops : Array Oper} {Q : Exit → Act → World → Prop} {S : World → Prop} {fuel : Nat} {listed : Array Bool} {a : Act} {w : World} (h : ∀ G : Nat → Array Bool → Act → World → Prop, (∀ f l a w, G f l a w = wpAnyH P md ops Q S f l a w) → G fuel listed a w) : wpAnyH P md ops Q S fuel listed a w :=
  h (wpAnyH P md ops Q S) (fun _ _ _ _ => rfl)
theorem actKK {p : Act → Prop} {a : Act} (h : ∀ a0, a0 = a → p a0) : p a := h a rfl
theorem listKK {p : Array Bool → Prop} {a : Array Bool} (h : ∀ a0, a0 = a → p a0) : p a := h a rfl
theorem lcongK {P : Program} {md : Region.Mode} {ops : Array Oper} {Q : Exit → Act → World → Prop} {S : World → Prop} {fuel : Nat} {l l' : Array Bool} {a : Act} {w : World} (e : l = l') (h : wpAnyH P md ops Q S fuel l a w) : wpAnyH P md ops Q S fuel l' a w := e ▸ h
/-- the notes, the calls behind k spots. -/
def spN (N : List Nt) (n : Int) (y : Nat → Sp) : Nat → List Nt
  | 0 => N
  | k + 1 => toN (spN N n y k) n (y k)
def spC (c n : Int) (y : Nat → Sp) : Nat → Int
  | 0 => c
  | k + 1 => toC (spC c n y k) n (y k)
theorem toN_len (N : List Nt) (n : Int) (y : Sp) : (toN N n y).length ≤ N.length + 1 + y.path.length := by
  have h1 := (addN_le N (leafNt y.pr)).2
  unfold toN
  split
  · have h2 := leadFN_len (ups (wayI n y.at_) y.path) (addN N (leafNt y.pr)) (leafS y.pr)
    have h3 : (ups (wayI n y.at_) y.path).length ≤ y.path.length := by unfold ups; rw [List.length_zip]; omega
    omega
  · omega
theorem spN_len (N : List Nt) (n : Int) (y : Nat → Sp) (hy : ∀ i, (y i).path.length ≤ 1000) : ∀ k, (spN N n y k).length ≤ N.length + 1001 * k
  | 0 => Nat.le_refl _
  | k + 1 => by
    have h1 := spN_len N n y hy k
    have h2 := toN_len (spN N n y k) n (y k)
    have h3 := hy k
    rw [spN]; omega
theorem spC_le (c n : Int) (y : Nat → Sp) (hy : ∀ i, (y i).path.length ≤ 1000) : ∀ k, c ≤ spC c n y k ∧ spC c n y k ≤ c + 1001 * k
  | 0 => by simp [spC]
  | k + 1 => by
    have h1 := spC_le c n y hy k
    have h3 := hy k
    rw [spC]; unfold toC
    split <;> omega
def okLd (cnt : Int) (m : Nat) (y : Nat → Sp) (s : List Int) : Prop := (m = 0 ∧ s = rootS []) ∨ (0 < m ∧ ∀ i, i < m → toA cnt (y i) = some s)
def badLd (cnt : Int) (m : Nat) (y : Nat → Sp) : Prop := 0 < m ∧ ¬ ∃ s, ∀ i, i < m → toA cnt (y i) = some s
def ldPost (F : Nat → Prop) (kv : Value) (N : List Nt) (c cnt : Int) (m : Nat) (y : Nat → Sp) (w : World) (e : Ending) (w' : World) : Prop :=
  ((∃ s, okLd cnt m y s ∧ e = .returned (.tuple #[.agg (rowV 32 (arrV s)), .int .i64 0]) ∧ ∃ Fo : Nat → Prop, bkAt kv w' Fo (if m = 0 then rootN N [] else spN N cnt y m) (if m = 0 then c + 1 else spC c cnt y m) ∧ ∀ j, Fo j → F j ∨ w.heap.size ≤ j) ∨ (badLd cnt m y ∧ e = .returned (.tuple #[.agg (rowV 32 (fun _ => .int .u8 0)), .int .i64 10]))) ∧ Fr F w w'
/-- behind k spots: the box of the sum, the book. -/
def ldL (F : Nat → Prop) (kv : Value) (N : List Nt) (c cnt : Int) (y : Nat → Sp) (w w2 : World) (k : Nat) (wr : World) : Prop :=
  Fr (fun j => F j ∨ j = w.heap.size + 2) w2 wr ∧ (∃ f : Nat → Value, wr.rowIs (w.heap.size + 2) 32 32 f ∧ (0 < k → ∃ s, f = arrV s ∧ ∀ i, i < k → toA cnt (y i) = some s)) ∧ ∃ Fi : Nat → Prop, bkAt kv wr Fi (spN N cnt y k) (spC c cnt y k) ∧ ∀ j, Fi j → F j ∨ w2.heap.size ≤ j
theorem build_z32 (w : World) : (Instr.build 32 #[]).run Tryd.prog w = .ok (.agg (rowV 32 (fun _ => .int .u8 0))) w := by kernel_rfl
set_option maxHeartbeats 8000000 in
set_option maxRecDepth 100000 in
theorem klead_some (F : Nat → Prop) (kv : Value) (N : List Nt) (c cnt : Int) (hcn : inI64 cnt) (m : Nat) (sv : Value) (y : Nat → Sp) (w0 w : World) (hw0 : Below w0.heap.size w0 w) (hFB : ∀ j, F j → w0.heap.size ≤ j) (hp : spotsAt w0 sv m y) (ht : tabIs w0) (hk : bkAt kv w F N c) (h0m : 0 < m) (hm : m ≤ 10) (hy : ∀ i, (y i).path.length ≤ 1000) (hx : ∀ i, i < m → (y i).pr.1.length + (y i).pr.2.length ≤ 1000000) (hN : N.length < 50000) (hc : 0 ≤ c ∧ c < 50000000) :
    Calls Tryd.prog 48 #[kv, .agg #[.int .i64 cnt, sv]] w fun e w' => ldPost F kv N c cnt m y w e w' := by
  have hz32 := zero_s32
  have hlt := hk.lt
  have hs0 := hw0.size
  obtain ⟨g, o, cap, rfl, hg, hcell⟩ := hp.at h0m
  obtain ⟨w1, hw1⟩ : ∃ w1, w1 = (w.alloc (.cells #[.int .i64 cnt, .slice (some ⟨g, o, none⟩) m cap] 29)).alloc (.cells (rowV 32 (fun _ => .int .u8 0)) 32) := ⟨_, rfl⟩
  obtain ⟨w2, hw2⟩ : ∃ w2, w2 = w1.alloc (.cells (rowV 32 (fun _ => .int .u8 0)) 32) := ⟨_, rfl⟩
  have b1 : Below w.heap.size w w1 := by rw [hw1]; exact ((Below.refl _ _).alloc (Nat.le_refl _) _).alloc (by simp) _
  have z1 : w1.heap.size = w.heap.size + 2 := by rw [hw1]; simp
  have b2 : Below w1.heap.size w1 w2 := by rw [hw2]; exact (Below.refl _ _).alloc (Nat.le_refl _) _
  have z2 : w2.heap.size = w.heap.size + 3 := by rw [hw2]; simp; omega
  have b02 : Below w.heap.size w w2 := b1.trans (b2.mono (by omega))
  have hb0 : w1.heap[w.heap.size]? = some (.cells #[.int .i64 cnt, .slice (some ⟨g, o, none⟩) m cap] 29) := by rw [hw1, blk_alloc_lt _ _ _ (by simp), blk_alloc_new]
  have hb2 : w2.heap[w.heap.size]? = some (.cells #[.int .i64 cnt, .slice (some ⟨g, o, none⟩) m cap] 29) := (b2.block _ (by omega)).trans hb0
  have c1 : w1.cell? ⟨w.heap.size, 1, none⟩ = some (.slice (some ⟨g, o, none⟩) m cap) := by rw [cell_of_row _ _ _ _ _ _ hb0]; rfl
  have d1 : w2.cell? ⟨w.heap.size, 1, none⟩ = some (.slice (some ⟨g, o, none⟩) m cap) := by rw [cell_of_row _ _ _ _ _ _ hb2]; rfl
  have rz4 : w2.rowIs (w.heap.size + 1) 32 32 (fun _ => .int .u8 0) := by
    have r := rowIs_box (w.alloc (.cells #[.int .i64 cnt, .slice (some ⟨g, o, none⟩) m cap] 29)) 32 32 (fun _ => .int .u8 0)
    rw [World.size_alloc, ← hw1] at r; exact b2.row r (by omega)
  have rz6 : w2.rowIs (w.heap.size + 2) 32 32 (fun _ => .int .u8 0) := by
    have r := rowIs_box w1 32 32 (fun _ => .int .u8 0)
    rw [← hw2, z1] at r; exact r
  have S0 : Hid (ldL F kv N c cnt y w w2 0 w2) := (show ldL F kv N c cnt y w w2 0 w2 from ⟨Fr.refl _ _, ⟨_, rz6, fun h => by omega⟩, F, hk.below b02 (Nat.le_refl _), fun j hj => Or.inl hj⟩)
  -- what holds wherever the loop has come to
  have HW : Hid (∀ wr, Fr (fun j => F j ∨ j = w.heap.size + 2) w2 wr → Below w0.heap.size w0 wr ∧ tabIs wr ∧ wr.heap[w.heap.size]? = some (.cells #[.int .i64 cnt, .slice (some ⟨g, o, none⟩) m cap] 29) ∧ wr.rowIs (w.heap.size + 1) 32 32 (fun _ => .int .u8 0)) := (show _ from fun wr hr => by
    have nF : ∀ j, w.heap.size ≤ j → ¬ F j := fun j hj hf => by have := hlt j hf; omega
    have hb : Below w0.heap.size w0 wr := (hw0.trans (b02.mono hs0)).trans (hr.below (fun j hj => by
      rcases hj with hj | hj
      · exact hFB j hj
      · omega) (by omega))
    refine ⟨hb, ht.below hb ht.1, (hr.block _ (by omega) (fun h => by rcases h with h | h; exact nF _ (Nat.le_refl _) h; omega)).trans hb2, World.rowIs.of_block rz4 (hr.block _ (by omega) (fun h => by rcases h with h | h; exact nF _ (by omega) h; omega))⟩)
  have HFR : Hid (∀ wr, Fr (fun j => F j ∨ j = w.heap.size + 2) w2 wr → ∀ V, But wr.heap.size (w.heap.size + 1) wr V → Fr F w V) := (show _ from fun wr hr V hv => ⟨hv.os.trans (hr.os.trans b02.os), hv.tape.trans (hr.tape.trans b02.tape), hv.output.trans (hr.output.trans b02.output), by have := hv.size; have := hr.size; omega, fun j hj hn => (hv.block j (by have := hr.size; omega) (by omega)).trans ((hr.block j (by omega) (fun h => by rcases h with h | h; exact hn h; omega)).trans (b02.block j hj))⟩)
  have HT' : Hid (∀ W, Below w0.heap.size w0 W → tabIs W) := (show _ from fun W hW => ht.below hW ht.1)
  have Z1 : Hid (w1.heap.size = w.heap.size + 2) := (show w1.heap.size = w.heap.size + 2 from z1)
  have HSZ : Hid (w2.heap.size = w.heap.size + 3 ∧ w0.heap.size ≤ w.heap.size ∧ (∀ j, F j → j < w.heap.size) ∧ (∀ j, F j → w0.heap.size ≤ j) ∧ 1 < w0.heap.size) := (show _ from ⟨z2, hs0, hlt, hFB, ht.1⟩)
  have HPB : Hid (∀ k, k < m → ∃ ka kcap va vcap pa pcap, inI64 (y k).at_ ∧ (0 < (y k).path.length → ∀ j, (Value.slice pa (y k).path.length pcap).ownBlock = some j → j < w0.heap.size) ∧ ∀ wz, Below w0.heap.size w0 wz →
      wz.cell? ⟨g, o + k * 4, none⟩ = some (.int .i64 (y k).at_) ∧ wz.cell? ⟨g, o + k * 4 + 1, none⟩ = some (.slice ka (y k).pr.1.length kcap) ∧ wz.cell? ⟨g, o + k * 4 + 2, none⟩ = some (.slice va (y k).pr.2.length vcap) ∧ wz.cell? ⟨g, o + k * 4 + 3, none⟩ = some (.slice pa (y k).path.length pcap) ∧
      anyBytes wz (.slice ka (y k).pr.1.length kcap) (y k).pr.1 ∧ anyBytes wz (.slice va (y k).pr.2.length vcap) (y k).pr.2 ∧ sumsAt wz (.slice pa (y k).path.length pcap) (y k).path) := (show _ from fun k hk => by
    obtain ⟨ka, kcap, va, vcap, pa, pcap, hi, H⟩ := hcell k hk
    refine ⟨ka, kcap, va, vcap, pa, pcap, hi, fun h0 j hj => ?_, H⟩
    obtain ⟨_, a, cc, e, _, _, h5⟩ := (H w0 (Below.refl _ _)).2.2.2.2.2.2
    obtain ⟨g', o', rfl, hg', _⟩ := h5 h0
    injection e with e1 _ _
    subst e1
    have : g' = j := by simpa [Value.ownBlock] using hj
    omega)
  have HY : Hid ((∀ i, (y i).path.length ≤ 1000) ∧ (∀ i, i < m → (y i).pr.1.length + (y i).pr.2.length ≤ 1000000) ∧ N.length < 50000 ∧ 0 ≤ c ∧ c < 50000000 ∧ inI64 cnt) := (show _ from ⟨hy, hx, hN, hc.1, hc.2, hcn⟩)
  have HM0 : Hid (0 < m) := (show 0 < m from h0m)
  have hm' : (m : Int) ≤ 10 := by omega
  have hm0 : (0 : Int) < (m : Int) := by omega
  have hmz : ((m : Int) == 0) = false := by simp; omega
  have hmn : ¬ (m : Int) = 0 := by omega
  have hbz := build_z32
  clear hp hcell hk hlt hs0 hFB ht hw0 b1 z1 b2 z2 b02 hb0 hb2 rz4 rz6 hy hx hN hc hcn hg
  go_enter Tryd.func48, Tryd.ntmps48
  go_upto_region 1 with fail
  rw [← hw1]
  clear hw1
  go_upto_region 4 with fail
  rw [← hw2]
  clear hw2 c1
  go_wp2_with fail
  have z1e := Z1.out
  rw [z1e]
  clear z1e
  go_loopw [20] (fun i wr => ∃ k : Nat, k ≤ m ∧ i = .int .i64 (k : Int) ∧ ldL F kv N c cnt y w w2 k wr) (fun i _ => m - (intOf i).toNat)
  case atStart => exact ⟨0, by omega, rfl, S0.out⟩
  case round =>
    obtain ⟨k, hkm, rfl, hfr, ⟨f6, r6, hf6⟩, Fi, hbk, hFi⟩ := hrel
    have p0 : (0 : Int) ≤ (k : Int) := by omega
    clear S0 d1
    by_cases hlt : k < m
    · have p1 : (k : Int) < (m : Int) := by omega
      obtain ⟨ka, kcap, va, vcap, pa, pcap, hat, hpb, H⟩ := HPB.out k hlt
      obtain ⟨bw0, htr, hbox, _⟩ := HW.out wr hfr
      obtain ⟨q0, q1, q2, q3, q4, q5, q6⟩ := H wr bw0
      obtain ⟨z2, hs0, hFl, hFB, h00⟩ := HSZ.out
      obtain ⟨hyl, hxl, hNl, hc0, hc1, hcn⟩ := HY.out
      have hsr := hfr.size
      obtain ⟨w3, hw3⟩ : ∃ w3, w3 = wr.alloc (.cells #[.int .i64 (y k).at_, .slice ka (y k).pr.1.length kcap, .slice va (y k).pr.2.length vcap, .slice pa (y k).path.length pcap] 41) := ⟨_, rfl⟩
      have b3 : Below wr.heap.size wr w3 := by rw [hw3]; exact (Below.refl _ _).alloc (Nat.le_refl _) _
      have z3 : w3.heap.size = wr.heap.size + 1 := by rw [hw3]; simp
      have hb3 : w3.heap[wr.heap.size]? = some (.cells #[.int .i64 (y k).at_, .slice ka (y k).pr.1.length kcap, .slice va (y k).pr.2.length vcap, .slice pa (y k).path.length pcap] 41) := by rw [hw3, blk_alloc_new]
      have hFil : ∀ j, Fi j → j < wr.heap.size := hbk.lt
      have nFi : ∀ j, w0.heap.size ≤ j → j < w.heap.size + 3 → ¬ F j → ¬ Fi j := fun j h1 h2 h3 h => by
        rcases hFi j h with h | h
        · exact h3 h
        · omega
      have nFw : ∀ j, w.heap.size ≤ j → ¬ F j := fun j hj hf => by have := hFl j hf; omega
      have FB3 : ∀ W, Fr Fi w3 W → Below w0.heap.size w0 W := fun W hW => (bw0.trans (b3.mono (by omega))).trans (hW.below (fun j hj => by
        rcases hFi j hj with h | h
        · exact hFB j h
        · omega) (by omega))
      have CELLS : Hid (∀ W, Fr Fi w3 W → W.cell? ⟨w.heap.size, 0, none⟩ = some (.int .i64 cnt) ∧ W.cell? ⟨wr.heap.size, 0, none⟩ = some (.int .i64 (y k).at_) ∧ W.cell? ⟨wr.heap.size, 1, none⟩ = some (.slice ka (y k).pr.1.length kcap) ∧ W.cell? ⟨wr.heap.size, 2, none⟩ = some (.slice va (y k).pr.2.length vcap) ∧ W.cell? ⟨wr.heap.size, 3, none⟩ = some (.slice pa (y k).path.length pcap)) := (show _ from fun W hW => by
        have e1 : W.heap[w.heap.size]? = some (.cells #[.int .i64 cnt, .slice (some ⟨g, o, none⟩) m cap] 29) := (hW.block _ (by omega) (nFi _ (by omega) (by omega) (nFw _ (Nat.le_refl _)))).trans ((b3.block _ (by omega)).trans hbox)
        have e2 := (hW.block wr.heap.size (by omega) (fun h => by have := hFil _ h; omega)).trans hb3
        refine ⟨by rw [cell_of_row _ _ _ _ _ _ e1]; rfl, by rw [cell_of_row _ _ _ _ _ _ e2]; rfl, by rw [cell_of_row _ _ _ _ _ _ e2]; rfl, by rw [cell_of_row _ _ _ _ _ _ e2]; rfl, by rw [cell_of_row _ _ _ _ _ _ e2]; rfl⟩)
      obtain ⟨N1, hN1⟩ : ∃ N1, N1 = spN N cnt y k := ⟨_, rfl⟩
      obtain ⟨c1, hc1e⟩ : ∃ c1, c1 = spC c cnt y k := ⟨_, rfl⟩
      have hNk : N1.length ≤ 61000 := by have := spN_len N cnt y hyl k; rw [hN1]; omega
      have hck : 0 ≤ c1 ∧ c1 ≤ 60000000 := by have := spC_le c cnt y hyl k; rw [hc1e]; omega
      rw [← hN1, ← hc1e] at hbk
      have memB : ∀ (W : World) (Fj : Nat → Prop), (∀ j, Fj j → Fi j ∨ w3.heap.size ≤ j) → ∀ j, Fj j → w0.heap.size ≤ j := fun W Fj hFj j hj => by
        rcases hFj j hj with h | h
        · rcases hFi j h with h | h
          · exact hFB j h
          · omega
        · omega
      have RLF : Hid (∀ W x, ldS w3 Fi kv N1 c1 W x → Calls Tryd.prog 63 #[kv, .agg #[.slice ka (y k).pr.1.length kcap, .slice va (y k).pr.2.length vcap]] W fun e w' => e = .returned (.agg (rowV 32 (arrV (leafS (y k).pr)))) ∧ ldS w3 Fi kv (addN N1 (leafNt (y k).pr)) (c1 + 1) w' x) := (show _ from fun W x hS => by
        obtain ⟨Fj, k1, k2, k3⟩ := hS.call
        have hB := FB3 W hS.1
        obtain ⟨_, _, _, _, a4, a5, _⟩ := H W hB
        refine (leaf_k Fj kv N1 c1 _ _ (y k).pr W k1 a4 a5 (hxl k hlt) (HT'.out W hB) (fun h => by have := memB W Fj k2 _ h; omega) (by omega) (by omega)).mono ?_
        rintro e w' ⟨rfl, kk, ff⟩
        exact ⟨rfl, k3 w' _ _ kk ff⟩)
      have RLD : Hid (∀ W x, ldS w3 Fi kv (addN N1 (leafNt (y k).pr)) (c1 + 1) W x → Calls Tryd.prog 77 #[kv, .int .i64 cnt, .int .i64 (y k).at_, .agg (rowV 32 (arrV (leafS (y k).pr))), .slice pa (y k).path.length pcap] W fun e w' => e = .returned (.tuple #[.agg (rowV 32 (toV cnt (y k))), .int .i64 (toE cnt (y k))]) ∧ ldS w3 Fi kv (toN N1 cnt (y k)) (toC c1 cnt (y k)) w' x) := (show _ from fun W x hS => by
        obtain ⟨Fj, k1, k2, k3⟩ := hS.call
        have hB := FB3 W hS.1
        obtain ⟨_, _, _, _, _, _, a6⟩ := H W hB
        have hal := (addN_le N1 (leafNt (y k).pr)).2
        refine (lead_both Fj kv _ (c1 + 1) cnt hcn (y k) hat _ W k1 a6 (fun h0 j hj hf => by have := memB W Fj k2 _ hf; have := hpb h0 j hj; omega) (HT'.out W hB) (fun h => by have := memB W Fj k2 _ h; omega) (by have := hyl k; omega) (by omega) (hyl k)).mono ?_
        rintro e w' ⟨rfl, kk, ff⟩
        refine ⟨rfl, ?_⟩
        have := k3 w' _ _ kk ff
        have e1 : toN N1 cnt (y k) = if okLead cnt (y k).at_ (y k).path = true then leadFN (addN N1 (leafNt (y k).pr)) (ups (wayI cnt (y k).at_) (y k).path) (leafS (y k).pr) else addN N1 (leafNt (y k).pr) := rfl
        have e2 : toC c1 cnt (y k) = if okLead cnt (y k).at_ (y k).path = true then c1 + 1 + ((y k).path.length : Int) else c1 + 1 := rfl
        rw [e1, e2]; exact this)
      have I0 : Hid (ldS w3 Fi kv N1 c1 w3.drew none) := (show ldS w3 Fi kv N1 c1 w3.drew none from ⟨(Fr.refl Fi w3).drew, Fi, (hbk.below b3 (Nat.le_refl _)).drew, fun j hj => Or.inl hj, fun b e => (by cases e)⟩)
      -- what the round leaves
      have BEH : Hid (∀ V b9, Fr Fi w3 V → w3.heap.size ≤ b9 → V.rowIs b9 32 32 (toV cnt (y k)) → (∃ Fj : Nat → Prop, bkAt kv V Fj (toN N1 cnt (y k)) (toC c1 cnt (y k)) ∧ (∀ j, Fj j → Fi j ∨ w3.heap.size ≤ j) ∧ ¬ Fj b9) →
          Fr (fun j => F j ∨ j = w.heap.size + 2) w2 V ∧ V.rowIs (w.heap.size + 2) 32 32 f6 ∧ V.rowIs (w.heap.size + 1) 32 32 (fun _ => .int .u8 0) ∧ b9 ≠ w.heap.size + 2 ∧ ∃ Fj : Nat → Prop, bkAt kv V Fj (spN N cnt y (k + 1)) (spC c cnt y (k + 1)) ∧ ∀ j, Fj j → F j ∨ w2.heap.size ≤ j) := (show _ from fun V b9 hV hb9 hr9 ⟨Fj, j1, j2, j3⟩ => by
        have hfV : Fr (fun j => F j ∨ j = w.heap.size + 2) w2 V := by
          refine ⟨hV.os.trans (b3.os.trans hfr.os), hV.tape.trans (b3.tape.trans hfr.tape), hV.output.trans (b3.output.trans hfr.output), by have := hV.size; omega, fun j hj hn => ?_⟩
          have n1 : ¬ Fi j := fun h => by
            rcases hFi j h with h | h
            · exact hn (Or.inl h)
            · omega
          exact (hV.block j (by omega) n1).trans ((b3.block j (by omega)).trans (hfr.block j hj hn))
        refine ⟨hfV, World.rowIs.of_block (b3.row r6 (by omega)) (hV.block _ (by omega) (nFi _ (by omega) (by omega) (nFw _ (by omega)))), (HW.out V hfV).2.2.2, by omega, Fj, ?_, fun j hj => ?_⟩
        · rw [spN, spC, ← hN1, ← hc1e]; exact j1
        · rcases j2 j hj with h | h
          · exact hFi j h
          · exact Or.inr (by omega))
      clear hbk hFi r6 bw0 htr hbox H hpb hat b3 hb3 hFil nFi nFw FB3 hN1 hc1e hNk hck memB q4 q5 q6 hfr
      go_upto_region 7 with fail
      rw [← hw3]
      clear hw3 q0 q1 q2 q3
      go_cut [9, 10] from 25 to 39 (fun p9 e9 wx => ∃ b9, p9 = .pointer (some ⟨b9, 0, none⟩) ∧ e9 = .int .i64 (toE cnt (y k)) ∧ Fr Fi w3 wx ∧ w3.heap.size ≤ b9 ∧ wx.rowIs b9 32 32 (toV cnt (y k)) ∧ ∃ Fj : Nat → Prop, bkAt kv wx Fj (toN N1 cnt (y k)) (toC c1 cnt (y k)) ∧ (∀ j, Fj j → Fi j ∨ w3.heap.size ≤ j) ∧ ¬ Fj b9)
      case first =>
        have H := I0.out
        refine wp_region_noPanic ?_
        refine wp_region_held_drew (S := fun w' => Fr Fi w3 w') (by kernel_rfl) H.1 (fun hHeld => ?_)
        generalize w3.drew = W at H hHeld ⊢
        refine take_op (i := 0) (v := ?va0) rfl (by kernel_rfl) (by kernel_rfl) (by kernel_rfl) (fun _ _ _ h => h) rfl hHeld ?ya0 ?ra0
        case ya0 => (intro wz hz; go_simp; first | done | with_reducible rfl)
        try simp only [Act.put, List.setIfInBounds_toArray, List.set_cons_zero, List.set_cons_succ]
        refine take_op (i := 1) (v := ?va1) rfl (by kernel_rfl) (by kernel_rfl) (by kernel_rfl) (fun _ _ _ h => h) rfl hHeld ?ya1 ?ra1
        case ya1 => (intro wz hz; go_simp; first | done | with_reducible rfl)
        try simp only [Act.put, List.setIfInBounds_toArray, List.set_cons_zero, List.set_cons_succ]
        refine take_op (i := 2) (v := ?va2) rfl (by kernel_rfl) (by kernel_rfl) (by kernel_rfl) (fun _ _ _ h => h) rfl hHeld ?ya2 ?ra2
        case ya2 => (intro wz hz; have hcz := (CELLS.out wz hz).1; go_simp; first | done | with_reducible rfl)
        try simp only [Act.put, List.setIfInBounds_toArray, List.set_cons_zero, List.set_cons_succ]
        refine take_op (i := 3) (v := ?va3) rfl (by kernel_rfl) (by kernel_rfl) (by kernel_rfl) (fun _ _ _ h => h) rfl hHeld ?ya3 ?ra3
        case ya3 => (intro wz hz; go_simp; first | done | with_reducible rfl)
        try simp only [Act.put, List.setIfInBounds_toArray, List.set_cons_zero, List.set_cons_succ]
        refine take_op (i := 4) (v := ?va4) rfl (by kernel_rfl) (by kernel_rfl) (by kernel_rfl) (fun _ _ _ h => h) rfl hHeld ?ya4 ?ra4
        case ya4 => (intro wz hz; have hcz := (CELLS.out wz hz).2.1; go_simp; first | done | with_reducible rfl)
        try simp only [Act.put, List.setIfInBounds_toArray, List.set_cons_zero, List.set_cons_succ]
        refine take_op (i := 5) (v := ?va5) rfl (by kernel_rfl) (by kernel_rfl) (by kernel_rfl) (fun _ _ _ h => h) rfl hHeld ?ya5 ?ra5
        case ya5 => (intro wz hz; go_simp; first | done | with_reducible rfl)
        try simp only [Act.put, List.setIfInBounds_toArray, List.set_cons_zero, List.set_cons_succ]
        refine take_op (i := 6) (v := ?va6) rfl (by kernel_rfl) (by kernel_rfl) (by kernel_rfl) (fun _ _ _ h => h) rfl hHeld ?ya6 ?ra6
        case ya6 => (intro wz hz; go_simp; first | done | with_reducible rfl)
        try simp only [Act.put, List.setIfInBounds_toArray, List.set_cons_zero, List.set_cons_succ]
        refine take_op (i := 7) (v := ?va7) rfl (by kernel_rfl) (by kernel_rfl) (by kernel_rfl) (fun _ _ _ h => h) rfl hHeld ?ya7 ?ra7
        case ya7 => (intro wz hz; have hcz := (CELLS.out wz hz).2.2.1; have hcy := (CELLS.out wz hz).2.2.2.1; go_simp; first | done | with_reducible rfl)
        try simp only [Act.put, List.setIfInBounds_toArray, List.set_cons_zero, List.set_cons_succ]
        refine take_op (i := 9) (v := ?va9) rfl (by kernel_rfl) (by kernel_rfl) (by kernel_rfl) (fun _ _ _ h => h) rfl hHeld ?ya9 ?ra9
        case ya9 => (intro wz hz; go_simp; first | done | with_reducible rfl)
        try simp only [Act.put, List.setIfInBounds_toArray, List.set_cons_zero, List.set_cons_succ]
        refine take_op (i := 10) (v := ?va10) rfl (by kernel_rfl) (by kernel_rfl) (by kernel_rfl) (fun _ _ _ h => h) rfl hHeld ?ya10 ?ra10
        case ya10 => (intro wz hz; have hcz := (CELLS.out wz hz).2.2.2.2; go_simp; first | done | with_reducible rfl)
        try simp only [Act.put, List.setIfInBounds_toArray, List.set_cons_zero, List.set_cons_succ]
        refine regionKK (fun G hG => ?_)
        refine actKK (p := fun a => G 8 _ a W) (fun a0 ha0 => ?_)
        refine listKK (p := fun l => G 8 l a0 W) (fun l0 hl0 => ?_)
        have HG : Hid _ := hG
        have HA0 : Hid _ := ha0
        have HL0 : Hid _ := hl0
        clear hG ha0 hl0 hHeld
        have ST21 : Hid (∀ b9, ∀ W : World, ldS w3 Fi kv (toN N1 cnt (y k)) (toC c1 cnt (y k)) W (some b9) → G 2 ((((((l0.setIfInBounds 8 true).setIfInBounds 11 true).setIfInBounds 12 true).setIfInBounds 13 true).setIfInBounds 14 true).setIfInBounds 15 true) ((((((a0.put (some 34) (.agg (rowV 32 (arrV (leafS (y k).pr))))).put (some 37) (.tuple #[.agg (rowV 32 (toV cnt (y k))), .int .i64 (toE cnt (y k))])).put (some 25) (.tuple #[.agg (rowV 32 (toV cnt (y k))), .int .i64 (toE cnt (y k))])).put (some 38) (.agg (rowV 32 (toV cnt (y k))))).put (some 39) (.int .i64 (toE cnt (y k)))).put (some 9) (.pointer (some ⟨b9, 0, none⟩))) W) := (show ∀ b9, ∀ W : World, ldS w3 Fi kv (toN N1 cnt (y k)) (toC c1 cnt (y k)) W (some b9) → G 2 ((((((l0.setIfInBounds 8 true).setIfInBounds 11 true).setIfInBounds 12 true).setIfInBounds 13 true).setIfInBounds 14 true).setIfInBounds 15 true) ((((((a0.put (some 34) (.agg (rowV 32 (arrV (leafS (y k).pr))))).put (some 37) (.tuple #[.agg (rowV 32 (toV cnt (y k))), .int .i64 (toE cnt (y k))])).put (some 25) (.tuple #[.agg (rowV 32 (toV cnt (y k))), .int .i64 (toE cnt (y k))])).put (some 38) (.agg (rowV 32 (toV cnt (y k))))).put (some 39) (.int .i64 (toE cnt (y k)))).put (some 9) (.pointer (some ⟨b9, 0, none⟩))) W from by
          intro b9 W H
          rw [HA0.out, HL0.out, HG.out]
          try simp only [Act.put, List.setIfInBounds_toArray, List.set_cons_zero, List.set_cons_succ]
          obtain ⟨V, e1, F1, hb9, rV, FB⟩ := H.fin (toV cnt (y k)) (toV_one _ _)
          refine take_one (i := 16) rfl (by kernel_rfl) rfl (fun K hK => ?_)
          unfold Oper.wp execOp
          simp only [Instr.storeAt, Instr.sureAddr, Sem.run_bind, Sem.run_pure, Result.andThen_ok]
          simp [Act.eval, e1, Oper.upon]
          refine hK.out _ _ F1 (fun hHeld => ?_)
          clear hK K
          try simp only [Act.put, List.setIfInBounds_toArray, List.set_cons_zero, List.set_cons_succ]
          refine take_op (i := 17) (v := ?vz17) rfl (by kernel_rfl) (by kernel_rfl) (by kernel_rfl) (fun _ _ _ h => h) rfl hHeld ?yz17 ?rz17
          case yz17 => (intro wz hz; go_simp; first | done | with_reducible rfl)
          try simp only [Act.put, List.setIfInBounds_toArray, List.set_cons_zero, List.set_cons_succ]
          refine wpAnyH_done (by kernel_rfl) ?_ _
          refine NoPanic.normal ?_
          clear e1 H hHeld
          go_wp2_with fail
          go_meet
          case rel => exact ⟨b9, rfl, rfl, F1, hb9, rV, FB⟩)
        have ST20 : Hid (∀ W : World, ldS w3 Fi kv (toN N1 cnt (y k)) (toC c1 cnt (y k)) W none → G 3 (((((l0.setIfInBounds 8 true).setIfInBounds 11 true).setIfInBounds 12 true).setIfInBounds 13 true).setIfInBounds 14 true) (((((a0.put (some 34) (.agg (rowV 32 (arrV (leafS (y k).pr))))).put (some 37) (.tuple #[.agg (rowV 32 (toV cnt (y k))), .int .i64 (toE cnt (y k))])).put (some 25) (.tuple #[.agg (rowV 32 (toV cnt (y k))), .int .i64 (toE cnt (y k))])).put (some 38) (.agg (rowV 32 (toV cnt (y k))))).put (some 39) (.int .i64 (toE cnt (y k)))) W) := (show ∀ W : World, ldS w3 Fi kv (toN N1 cnt (y k)) (toC c1 cnt (y k)) W none → G 3 (((((l0.setIfInBounds 8 true).setIfInBounds 11 true).setIfInBounds 12 true).setIfInBounds 13 true).setIfInBounds 14 true) (((((a0.put (some 34) (.agg (rowV 32 (arrV (leafS (y k).pr))))).put (some 37) (.tuple #[.agg (rowV 32 (toV cnt (y k))), .int .i64 (toE cnt (y k))])).put (some 25) (.tuple #[.agg (rowV 32 (toV cnt (y k))), .int .i64 (toE cnt (y k))])).put (some 38) (.agg (rowV 32 (toV cnt (y k))))).put (some 39) (.int .i64 (toE cnt (y k)))) W from by
          intro W H
          rw [HA0.out, HL0.out, HG.out]
          try simp only [Act.put, List.setIfInBounds_toArray, List.set_cons_zero, List.set_cons_succ]
          refine take_one (i := 15) rfl (by kernel_rfl) rfl (fun K hK => ?_)
          refine wp_of_run (exec_alloc32 rfl) ?_
          have H2 := H.al
          refine hK.out _ _ H2.1 (fun hHeld => ?_)
          try simp only [Act.put, List.setIfInBounds_toArray, List.set_cons_zero, List.set_cons_succ]
          have T := ST21.out W.heap.size (W.alloc (.cells (rowV 32 (fun _ => .int .u8 0)) 32)) H2
          rw [HA0.out, HL0.out, HG.out] at T
          try simp only [Act.put, List.setIfInBounds_toArray, List.set_cons_zero, List.set_cons_succ] at T
          exact lcongK (by kernel_rfl) T)
        have ST11 : Hid (∀ b9, ∀ W : World, ldS w3 Fi kv (addN N1 (leafNt (y k).pr)) (c1 + 1) W (some b9) → G 6 ((l0.setIfInBounds 8 true).setIfInBounds 15 true) ((a0.put (some 34) (.agg (rowV 32 (arrV (leafS (y k).pr))))).put (some 9) (.pointer (some ⟨b9, 0, none⟩))) W) := (show ∀ b9, ∀ W : World, ldS w3 Fi kv (addN N1 (leafNt (y k).pr)) (c1 + 1) W (some b9) → G 6 ((l0.setIfInBounds 8 true).setIfInBounds 15 true) ((a0.put (some 34) (.agg (rowV 32 (arrV (leafS (y k).pr))))).put (some 9) (.pointer (some ⟨b9, 0, none⟩))) W from by
          intro b9 W H
          rw [HA0.out, HL0.out, HG.out]
          try simp only [Act.put, List.setIfInBounds_toArray, List.set_cons_zero, List.set_cons_succ]
          refine take_one (i := 11) rfl (by kernel_rfl) rfl (fun K hK => ?_)
          go_simp
          refine Calls.mono (RLD.out _ _ H) ?_
          rintro e W2 ⟨rfl, H2⟩
          refine hK.out _ _ H2.1 (fun hHeld => ?_)
          try simp only [Act.put, List.setIfInBounds_toArray, List.set_cons_zero, List.set_cons_succ]
          refine take_op (i := 12) (v := ?vc11_12) rfl (by kernel_rfl) (by kernel_rfl) (by kernel_rfl) (fun _ _ _ h => h) rfl hHeld ?yc11_12 ?rc11_12
          case yc11_12 => (intro wz hz; go_simp; first | done | with_reducible rfl)
          try simp only [Act.put, List.setIfInBounds_toArray, List.set_cons_zero, List.set_cons_succ]
          refine take_op (i := 13) (v := ?vc11_13) rfl (by kernel_rfl) (by kernel_rfl) (by kernel_rfl) (fun _ _ _ h => h) rfl hHeld ?yc11_13 ?rc11_13
          case yc11_13 => (intro wz hz; go_simp; first | done | with_reducible rfl)
          try simp only [Act.put, List.setIfInBounds_toArray, List.set_cons_zero, List.set_cons_succ]
          refine take_op (i := 14) (v := ?vc11_14) rfl (by kernel_rfl) (by kernel_rfl) (by kernel_rfl) (fun _ _ _ h => h) rfl hHeld ?yc11_14 ?rc11_14
          case yc11_14 => (intro wz hz; go_simp; first | done | with_reducible rfl)
          try simp only [Act.put, List.setIfInBounds_toArray, List.set_cons_zero, List.set_cons_succ]
          have T := ST21.out b9 W2 H2
          rw [HA0.out, HL0.out, HG.out] at T
          try simp only [Act.put, List.setIfInBounds_toArray, List.set_cons_zero, List.set_cons_succ] at T
          exact lcongK (by kernel_rfl) T)
        have ST10 : Hid (∀ W : World, ldS w3 Fi kv (addN N1 (leafNt (y k).pr)) (c1 + 1) W none → G 7 (l0.setIfInBounds 8 true) (a0.put (some 34) (.agg (rowV 32 (arrV (leafS (y k).pr))))) W) := (show ∀ W : World, ldS w3 Fi kv (addN N1 (leafNt (y k).pr)) (c1 + 1) W none → G 7 (l0.setIfInBounds 8 true) (a0.put (some 34) (.agg (rowV 32 (arrV (leafS (y k).pr))))) W from by
          intro W H
          rw [HA0.out, HL0.out, HG.out]
          try simp only [Act.put, List.setIfInBounds_toArray, List.set_cons_zero, List.set_cons_succ]
          refine take_pair (i := 11) (j := 15) rfl rfl (by kernel_rfl) rfl rfl (fun K hK => ?_) (fun K hK => ?_)
          · go_simp
            refine Calls.mono (RLD.out _ _ H) ?_
            rintro e W2 ⟨rfl, H2⟩
            refine hK.out _ _ H2.1 (fun hHeld => ?_)
            try simp only [Act.put, List.setIfInBounds_toArray, List.set_cons_zero, List.set_cons_succ]
            refine take_op (i := 12) (v := ?vc10_12) rfl (by kernel_rfl) (by kernel_rfl) (by kernel_rfl) (fun _ _ _ h => h) rfl hHeld ?yc10_12 ?rc10_12
            case yc10_12 => (intro wz hz; go_simp; first | done | with_reducible rfl)
            try simp only [Act.put, List.setIfInBounds_toArray, List.set_cons_zero, List.set_cons_succ]
            refine take_op (i := 13) (v := ?vc10_13) rfl (by kernel_rfl) (by kernel_rfl) (by kernel_rfl) (fun _ _ _ h => h) rfl hHeld ?yc10_13 ?rc10_13
            case yc10_13 => (intro wz hz; go_simp; first | done | with_reducible rfl)
            try simp only [Act.put, List.setIfInBounds_toArray, List.set_cons_zero, List.set_cons_succ]
            refine take_op (i := 14) (v := ?vc10_14) rfl (by kernel_rfl) (by kernel_rfl) (by kernel_rfl) (fun _ _ _ h => h) rfl hHeld ?yc10_14 ?rc10_14
            case yc10_14 => (intro wz hz; go_simp; first | done | with_reducible rfl)
            try simp only [Act.put, List.setIfInBounds_toArray, List.set_cons_zero, List.set_cons_succ]
            have T := ST20.out W2 H2
            rw [HA0.out, HL0.out, HG.out] at T
            try simp only [Act.put, List.setIfInBounds_toArray, List.set_cons_zero, List.set_cons_succ] at T
            exact lcongK (by kernel_rfl) T
          · refine wp_of_run (exec_alloc32 rfl) ?_
            have H2 := H.al
            refine hK.out _ _ H2.1 (fun hHeld => ?_)
            try simp only [Act.put, List.setIfInBounds_toArray, List.set_cons_zero, List.set_cons_succ]
            have T := ST11.out W.heap.size (W.alloc (.cells (rowV 32 (fun _ => .int .u8 0)) 32)) H2
            rw [HA0.out, HL0.out, HG.out] at T
            try simp only [Act.put, List.setIfInBounds_toArray, List.set_cons_zero, List.set_cons_succ] at T
            exact lcongK (by kernel_rfl) T)
        have ST01 : Hid (∀ b9, ∀ W : World, ldS w3 Fi kv N1 c1 W (some b9) → G 7 (l0.setIfInBounds 15 true) (a0.put (some 9) (.pointer (some ⟨b9, 0, none⟩))) W) := (show ∀ b9, ∀ W : World, ldS w3 Fi kv N1 c1 W (some b9) → G 7 (l0.setIfInBounds 15 true) (a0.put (some 9) (.pointer (some ⟨b9, 0, none⟩))) W from by
          intro b9 W H
          rw [HA0.out, HL0.out, HG.out]
          try simp only [Act.put, List.setIfInBounds_toArray, List.set_cons_zero, List.set_cons_succ]
          refine take_one (i := 8) rfl (by kernel_rfl) rfl (fun K hK => ?_)
          go_simp
          refine Calls.mono (RLF.out _ _ H) ?_
          rintro e W2 ⟨rfl, H2⟩
          refine hK.out _ _ H2.1 (fun hHeld => ?_)
          try simp only [Act.put, List.setIfInBounds_toArray, List.set_cons_zero, List.set_cons_succ]
          have T := ST11.out b9 W2 H2
          rw [HA0.out, HL0.out, HG.out] at T
          try simp only [Act.put, List.setIfInBounds_toArray, List.set_cons_zero, List.set_cons_succ] at T
          exact lcongK (by kernel_rfl) T)
        have ST00 : Hid (∀ W : World, ldS w3 Fi kv N1 c1 W none → G 8 l0 a0 W) := (show ∀ W : World, ldS w3 Fi kv N1 c1 W none → G 8 l0 a0 W from by
          intro W H
          rw [HA0.out, HL0.out, HG.out]
          try simp only [Act.put, List.setIfInBounds_toArray, List.set_cons_zero, List.set_cons_succ]
          refine take_pair (i := 8) (j := 15) rfl rfl (by kernel_rfl) rfl rfl (fun K hK => ?_) (fun K hK => ?_)
          · go_simp
            refine Calls.mono (RLF.out _ _ H) ?_
            rintro e W2 ⟨rfl, H2⟩
            refine hK.out _ _ H2.1 (fun hHeld => ?_)
            try simp only [Act.put, List.setIfInBounds_toArray, List.set_cons_zero, List.set_cons_succ]
            have T := ST10.out W2 H2
            rw [HA0.out, HL0.out, HG.out] at T
            try simp only [Act.put, List.setIfInBounds_toArray, List.set_cons_zero, List.set_cons_succ] at T
            exact lcongK (by kernel_rfl) T
          · refine wp_of_run (exec_alloc32 rfl) ?_
            have H2 := H.al
            refine hK.out _ _ H2.1 (fun hHeld => ?_)
            try simp only [Act.put, List.setIfInBounds_toArray, List.set_cons_zero, List.set_cons_succ]
            have T := ST01.out W.heap.size (W.alloc (.cells (rowV 32 (fun _ => .int .u8 0)) 32)) H2
            rw [HA0.out, HL0.out, HG.out] at T
            try simp only [Act.put, List.setIfInBounds_toArray, List.set_cons_zero, List.set_cons_succ] at T
            exact lcongK (by kernel_rfl) T)
        exact ST00.out W H
      case rest =>
        obtain ⟨b9, rfl, rfl, fV, hb9, r9, hFj⟩ := hcut
        rename World => V
        obtain ⟨fr2, rf6, rz4, nb9, Fj, k1, k2⟩ := BEH.out V b9 fV hb9 r9 hFj
        clear BEH RLF RLD I0 CELLS fV hb9 hFj
        have NEXT : Hid (∀ V' s, V'.rowIs (w.heap.size + 2) 32 32 (arrV s) → But V.heap.size (w.heap.size + 2) V V' → (∀ i, i < k + 1 → toA cnt (y i) = some s) → ldL F kv N c cnt y w w2 (k + 1) V') := (show _ from fun V' s hr hb hs => by
          have z2 := HSZ.out.1
          have hFl := HSZ.out.2.2.1
          have hsz := fr2.size
          have hsz2 := hb.size
          refine ⟨⟨hb.os.trans fr2.os, hb.tape.trans fr2.tape, hb.output.trans fr2.output, by omega, fun j hj hn => (hb.block j (by omega) (fun e => hn (Or.inr e))).trans (fr2.block j hj hn)⟩, ⟨_, hr, fun _ => ⟨s, rfl, hs⟩⟩, Fj, bkAt.far k1 (fun j hj hl => hb.block j hl (fun e => ?_)) hb.size, k2⟩
          rcases k2 j hj with h | h
          · have := hFl j h; omega
          · omega)
        have FRV : Hid (∀ V', But V.heap.size (w.heap.size + 1) V V' → Fr F w V') := (show _ from fun V' hb => HFR.out V fr2 V' hb)
        have h0m := HM0.out
        clear fr2 k1 k2
        cases hA : toA cnt (y k) with
        | none =>
          have eE : toE cnt (y k) = 10 := by unfold toE; rw [hA]
          have BAD : Hid (badLd cnt m y) := (show badLd cnt m y from ⟨h0m, fun ⟨s, h⟩ => by have := h k hlt; rw [hA] at this; cases this⟩)
          rw [eE]
          clear NEXT r9 eE hA rf6
          go_wp2_with (first | (refine wpList_store_row rfl 32 _ _ rfl rfl (w.heap.size + 1) 0 32 (fun _ => .int .u8 0) rfl rfl hi32' (fun _ _ => rfl) _ _ _ rz4 (by omega) ?_; intro w6 r7 hz6 hb6))
          exact bodyPost_ret (results_cell_seg2 rfl _ _ (w.heap.size + 1) 32 32 (fun _ => .int .u8 0) _ rfl Tryd.underlying32 rfl hi32' (r7.congr fun i hi => by rw [if_pos (by omega)])) rfl ⟨Or.inr ⟨BAD.out, rfl⟩, FRV.out w6 hb6⟩
        | some s =>
          have eE : toE cnt (y k) = 0 := by unfold toE; rw [hA]
          have eV : toV cnt (y k) = arrV s := by unfold toV; rw [hA]
          rw [eV] at r9
          have l9 : ∀ j, j < 32 → V.cell? ⟨b9, 0 + j, none⟩ = some (arrV s j) := fun j hj => by rw [Nat.zero_add]; exact r9.cell hj
          have l6 : ∀ j, j < 32 → V.cell? ⟨w.heap.size + 2, 0 + j, none⟩ = some (f6 j) := fun j hj => by rw [Nat.zero_add]; exact rf6.cell hj
          rw [eE]
          clear eE eV
          by_cases hk0 : k = 0
          · have ALLS : Hid (∀ i, i < k + 1 → toA cnt (y i) = some s) := (show _ from fun i hi => by rw [show i = k by omega]; exact hA)
            have hk1 : ¬ (k : Int) > 0 := by omega
            clear hA l6 hf6
            go_wp2_with (first | (refine wpList_load_w 32 (.tmp 9) rfl rfl b9 0 32 (arrV s) rfl _ Tryd.underlying32 rfl hi32' l9 ?_) | (refine wpList_store_row rfl 32 (.tmp 6) _ rfl rfl (w.heap.size + 2) 0 32 (arrV s) rfl rfl hi32' (fun _ _ => rfl) _ _ _ rf6 (by omega) ?_; intro w6 r7 hz6 hb6))
            have NX : Hid (ldL F kv N c cnt y w w2 (k + 1) w6) := (show ldL F kv N c cnt y w w2 (k + 1) w6 from NEXT.out w6 s (r7.congr fun i hi => by rw [if_pos (by omega), Nat.sub_zero]) hb6 ALLS.out)
            clear r7 hz6 hb6 NEXT FRV rf6 rz4 r9 l9
            go_light
            exact ⟨⟨k + 1, by omega, by go_num, NX.out⟩, by simp [intOf]; omega⟩
          · obtain ⟨s', rfl, hs'⟩ := hf6 (by omega)
            have hk1 : (k : Int) > 0 := by omega
            have hk2 : 0 < k := by omega
            have hk3 : (0 : Int) < (k : Int) := by omega
            have hk4 : k ≠ 0 := by omega
            have hk5 : ¬ (k : Int) = 0 := by omega
            have hSum : isSum s := toA_sum hA
            have hSum' : isSum s' := toA_sum (hs' 0 (by omega))
            have heq : ∀ wz : World, (Op.equalIn 10000 32 (.agg (rowV 32 (arrV s))) (.agg (rowV 32 (arrV s')))).run Tryd.prog wz = .ok (decide (s = s')) wz := fun wz => run_eq_sums wz 9998 hSum hSum'
            by_cases hse : s = s'
            · subst hse
              rw [decide_eq_true rfl] at heq
              have ALLS : Hid (∀ i, i < k + 1 → toA cnt (y i) = some s) := (show _ from fun i hi => by
                by_cases e : i = k
                · rw [e]; exact hA
                · exact hs' i (by omega))
              clear hA hs' hSum hSum' hf6
              go_wp2_with (first | (refine wpList_load_w 32 (.tmp 9) rfl rfl b9 0 32 (arrV s) rfl _ Tryd.underlying32 rfl hi32' l9 ?_) | (refine wpList_load_w 32 (.tmp 6) rfl rfl (w.heap.size + 2) 0 32 (arrV s) rfl _ Tryd.underlying32 rfl hi32' l6 ?_) | (refine wpList_load_w 32 (.tmp 9) rfl rfl b9 0 32 (arrV s) rfl _ Tryd.underlying32 rfl hi32' l9 ?_) | (refine wpList_store_row rfl 32 (.tmp 6) _ rfl rfl (w.heap.size + 2) 0 32 (arrV s) rfl rfl hi32' (fun _ _ => rfl) _ _ _ rf6 (by omega) ?_; intro w6 r7 hz6 hb6))
              have NX : Hid (ldL F kv N c cnt y w w2 (k + 1) w6) := (show ldL F kv N c cnt y w w2 (k + 1) w6 from NEXT.out w6 s (r7.congr fun i hi => by rw [if_pos (by omega), Nat.sub_zero]) hb6 ALLS.out)
              clear r7 hz6 hb6 NEXT FRV rf6 rz4 r9 l9
              go_light
              exact ⟨⟨k + 1, by omega, by go_num, NX.out⟩, by simp [intOf]; omega⟩
            · rw [decide_eq_false hse] at heq
              have BAD : Hid (badLd cnt m y) := (show badLd cnt m y from ⟨h0m, fun ⟨t, h⟩ => by
                have e1 := h k hlt
                have e2 := h 0 (by omega)
                rw [hA] at e1
                rw [hs' 0 (by omega)] at e2
                exact hse ((Option.some.inj e1).trans (Option.some.inj e2).symm)⟩)
              clear hA hs' hSum hSum' hf6 NEXT
              go_wp2_with (first | (refine wpList_load_w 32 (.tmp 9) rfl rfl b9 0 32 (arrV s) rfl _ Tryd.underlying32 rfl hi32' l9 ?_) | (refine wpList_load_w 32 (.tmp 6) rfl rfl (w.heap.size + 2) 0 32 (arrV s') rfl _ Tryd.underlying32 rfl hi32' l6 ?_) | (refine wpList_store_row rfl 32 _ _ rfl rfl (w.heap.size + 1) 0 32 (fun _ => .int .u8 0) rfl rfl hi32' (fun _ _ => rfl) _ _ _ rz4 (by omega) ?_; intro w6 r7 hz6 hb6))
              exact bodyPost_ret (results_cell_seg2 rfl _ _ (w.heap.size + 1) 32 32 (fun _ => .int .u8 0) _ rfl Tryd.underlying32 rfl hi32' (r7.congr fun i hi => by rw [if_pos (by omega)])) rfl ⟨Or.inr ⟨BAD.out, rfl⟩, FRV.out w6 hb6⟩
    · obtain rfl : k = m := by omega
      have h0m := HM0.out
      obtain ⟨s, rfl, hs⟩ := hf6 h0m
      have p1 : ¬ (k : Int) < (k : Int) := by omega
      obtain ⟨z2, hs0, hFl, hFB, h00⟩ := HSZ.out
      have rz4 := (HW.out wr hfr).2.2.2
      have l6 : ∀ j, j < 32 → wr.cell? ⟨w.heap.size + 2, 0 + j, none⟩ = some (arrV s j) := fun j hj => by rw [Nat.zero_add]; exact r6.cell hj
      have DONE : Hid (∀ V, But wr.heap.size (w.heap.size + 1) wr V → (∃ Fo : Nat → Prop, bkAt kv V Fo (if k = 0 then rootN N [] else spN N cnt y k) (if k = 0 then c + 1 else spC c cnt y k) ∧ ∀ j, Fo j → F j ∨ w.heap.size ≤ j) ∧ Fr F w V) := (show _ from fun V hb => by
        refine ⟨⟨Fi, ?_, fun j hj => ?_⟩, HFR.out wr hfr V hb⟩
        · rw [if_neg (by omega), if_neg (by omega)]
          refine bkAt.far hbk (fun j hj hl => hb.block j hl (fun e => ?_)) hb.size
          rcases hFi j hj with h | h
          · have := hFl j h; omega
          · omega
        · rcases hFi j hj with h | h
          · exact Or.inl h
          · exact Or.inr (by omega))
      have OKL : Hid (okLd cnt k y s) := (show okLd cnt k y s from Or.inr ⟨h0m, hs⟩)
      clear hfr r6 hf6 hbk hFi hs z2 hs0 hFl hFB h00
      go_wp2_with (first | (refine wpList_load_w 32 (.tmp 6) rfl rfl (w.heap.size + 2) 0 32 (arrV s) rfl _ Tryd.underlying32 rfl hi32' l6 ?_) | (refine wpList_store_row rfl 32 _ _ rfl rfl (w.heap.size + 1) 0 32 (arrV s) rfl rfl hi32' (fun _ _ => rfl) _ _ _ rz4 (by omega) ?_; intro w6 r7 hz6 hb6))
      exact bodyPost_ret (results_cell_seg2 rfl _ _ (w.heap.size + 1) 32 32 (arrV s) _ rfl Tryd.underlying32 rfl hi32' (r7.congr fun i hi => by rw [if_pos (by omega), Nat.sub_zero])) rfl ⟨Or.inl ⟨s, OKL.out, rfl, (DONE.out w6 hb6).1⟩, (DONE.out w6 hb6).2⟩
end Go.Proofs.YtkgegihkhdgdoaaDoor

/- keyed.lead of no spots; of any. -/
namespace Go.Proofs.YtkgegihkhdgdoaaDoor
set_option linter.unusedSimpArgs false
set_option linter.unusedVariables false
open Go.RowKit Go.Deep

set_option maxHeartbeats 4000000 in
set_option maxRecDepth 100000 in
theorem klead_none (F : Nat → Prop) (kv : Value) (N : List Nt) (c cnt : Int) (sv : Value) (y : Nat → Sp) (w : World) (hp : spotsAt w sv 0 y) (ht : tabIs w) (hk : bkAt kv w F N c) (hF0 : ¬ F 1) (hN : N.length < 50000) (hc : 0 ≤ c ∧ c < 50000000) :
    Calls Tryd.prog 48 #[kv, .agg #[.int .i64 cnt, sv]] w fun e w' => ldPost F kv N c cnt 0 y w e w' := by
  have hz32 := zero_s32
  have hlt := hk.lt
  obtain ⟨a, cap, rfl, _⟩ := hp
  obtain ⟨w1, hw1⟩ : ∃ w1, w1 = (w.alloc (.cells #[.int .i64 cnt, .slice a 0 cap] 29)).alloc (.cells (rowV 32 (fun _ => .int .u8 0)) 32) := ⟨_, rfl⟩
  have b1 : Below w.heap.size w w1 := by rw [hw1]; exact ((Below.refl _ _).alloc (Nat.le_refl _) _).alloc (by simp) _
  have z1 : w1.heap.size = w.heap.size + 2 := by rw [hw1]; simp
  have hb0 : w1.heap[w.heap.size]? = some (.cells #[.int .i64 cnt, .slice a 0 cap] 29) := by rw [hw1, blk_alloc_lt _ _ _ (by simp), blk_alloc_new]
  have c1 : w1.cell? ⟨w.heap.size, 1, none⟩ = some (.slice a 0 cap) := by rw [cell_of_row _ _ _ _ _ _ hb0]; rfl
  have rz : w1.rowIs (w.heap.size + 1) 32 32 (fun _ => .int .u8 0) := by
    have r := rowIs_box (w.alloc (.cells #[.int .i64 cnt, .slice a 0 cap] 29)) 32 32 (fun _ => .int .u8 0)
    rw [World.size_alloc, ← hw1] at r; exact r
  have XR := root_k F kv N c [] (.slice none 0 0) w1 (hk.below b1 (Nat.le_refl _)) ⟨fun x h => (by cases h), none, 0, rfl, Nat.le_refl _, by decide, fun h => (by cases h)⟩ (fun h => (by cases h)) (by simp) (ht.below b1 ht.1) hF0 (by simp; omega) (by simp; omega)
  obtain ⟨s, hs⟩ : ∃ s, s = rootS [] := ⟨_, rfl⟩
  obtain ⟨N1, hN1⟩ : ∃ N1, N1 = rootN N [] := ⟨_, rfl⟩
  rw [← hs, ← hN1] at XR
  unfold sumV at XR
  have POST : Hid (∀ w2 V, bkAt kv w2 (Gr F w1 w2) N1 (c + 1) → Fr F w1 w2 → But w2.heap.size (w.heap.size + 1) w2 V → ldPost F kv N c cnt 0 y w (.returned (.tuple #[.agg (rowV 32 (arrV s)), .int .i64 0])) V) := (show _ from fun w2 V hb2 f2 hb => by
    have s2 := f2.size
    refine ⟨Or.inl ⟨s, Or.inl ⟨rfl, hs⟩, rfl, Gr F w1 w2, ?_, fun j hj => ?_⟩, ⟨hb.os.trans (f2.os.trans b1.os), hb.tape.trans (f2.tape.trans b1.tape), hb.output.trans (f2.output.trans b1.output), by have := hb.size; omega, fun j hj hn => (hb.block j (by omega) (by omega)).trans ((f2.block j (by omega) hn).trans (b1.block j hj))⟩⟩
    · rw [if_pos rfl, if_pos rfl, ← hN1]
      refine bkAt.far hb2 (fun j hj hl => hb.block j hl (fun e => ?_)) hb.size
      rcases hj with h | h
      · have := hlt j h; omega
      · omega
    · rcases hj with h | h
      · exact Or.inl h
      · exact Or.inr (by omega))
  have RZ : Hid (∀ w2, Fr F w1 w2 → w2.rowIs (w.heap.size + 1) 32 32 (fun _ => .int .u8 0)) := (show _ from fun w2 f2 => World.rowIs.of_block rz (f2.block _ (by omega) (fun h => by have := hlt _ h; omega)))
  clear hk hlt ht hF0 hN hc b1 z1 hb0 rz hs hN1
  go_enter Tryd.func48, Tryd.ntmps48
  go_upto_region 1 with fail
  rw [← hw1]
  clear hw1
  go_wp2_with fail
  refine XR.mono ?_
  rintro e w2 ⟨rfl, hb2, f2⟩
  have rz4 := RZ.out w2 f2
  have P := fun V h => POST.out w2 V hb2 f2 h
  clear XR POST RZ c1 hb2 f2
  go_wp2_with (first | (refine wpList_store_row rfl 32 _ _ rfl rfl (w.heap.size + 1) 0 32 (arrV s) rfl rfl hi32' (fun _ _ => rfl) _ _ _ rz4 (by omega) ?_; intro w6 r7 hz6 hb6))
  exact bodyPost_ret (results_cell_seg2 rfl _ _ (w.heap.size + 1) 32 32 (arrV s) _ rfl Tryd.underlying32 rfl hi32' (r7.congr fun i hi => by rw [if_pos (by omega), Nat.sub_zero])) rfl (by exact P w6 hb6)
/-- lead. -/
theorem klead_any (F : Nat → Prop) (kv : Value) (N : List Nt) (c cnt : Int) (hcn : inI64 cnt) (m : Nat) (sv : Value) (y : Nat → Sp) (w0 w : World) (hw0 : Below w0.heap.size w0 w) (hFB : ∀ j, F j → w0.heap.size ≤ j) (hp : spotsAt w0 sv m y) (ht : tabIs w0) (hk : bkAt kv w F N c) (hm : m ≤ 10) (hy : ∀ i, (y i).path.length ≤ 1000) (hx : ∀ i, i < m → (y i).pr.1.length + (y i).pr.2.length ≤ 1000000) (hN : N.length < 50000) (hc : 0 ≤ c ∧ c < 50000000) :
    Calls Tryd.prog 48 #[kv, .agg #[.int .i64 cnt, sv]] w fun e w' => ldPost F kv N c cnt m y w e w' := by
  by_cases h0 : m = 0
  · subst h0
    exact klead_none F kv N c cnt sv y w (hp.below hw0 (Nat.le_refl _)) (ht.below hw0 ht.1) hk (fun h => by have := hFB _ h; have := ht.1; omega) hN hc
  · exact klead_some F kv N c cnt hcn m sv y w0 w hw0 hFB hp ht hk (by omega) hm hy hx hN hc
end Go.Proofs.YtkgegihkhdgdoaaDoor

/- Texts of bytes are alike just where the bytes are. -/
namespace Go.Proofs.YtkgegihkhdgdoaaDoor
set_option linter.unusedSimpArgs false
set_option linter.unusedVariables false
open Go.RowKit Go.Deep

theorem anyBytes.byte {w : World} {v : Value} {l : List Int} (h : anyBytes w v l) (i : Nat) : 0 ≤ l.getD i 0 ∧ l.getD i 0 ≤ 255 := by
  rcases h with h | ⟨_, rfl⟩
  · exact h.byte i
  · exact ⟨by simp, by simp⟩
theorem strOf_eq {w w' : World} {u v : Value} {l m : List Int} (hu : anyBytes w u l) (hv : anyBytes w' v m) : strOf l = strOf m ↔ l = m := ⟨fun h => strOf_inj hu.byte hv.byte h, fun h => by rw [h]⟩
end Go.Proofs.YtkgegihkhdgdoaaDoor

/- bytes.Equal. -/
namespace Go.Proofs.YtkgegihkhdgdoaaDoor
set_option linter.unusedSimpArgs false
set_option linter.unusedVariables false
open Go.RowKit Go.Deep

theorem convK (w : World) (v : Value) (l : List Int) (h : anyBytes w v l) : (convert 23 9 v).run Tryd.prog w = .ok (.string (strOf l)) w :=
  run_convert_any (P := Tryd.prog) w 23 9 5 v l Tryd.underlying23 Tryd.underlying5 Tryd.underlying9 h
set_option maxHeartbeats 1000000 in
set_option maxRecDepth 100000 in
/-- bytes.Equal. -/
theorem equal_any (v u : Value) (l k : List Int) (w : World) (hv : anyBytes w v l) (hu : anyBytes w u k) :
    Calls Tryd.prog 49 #[v, u] w fun e w' => e = .returned (.bool (decide (l = k))) ∧ w' = w := by
  have h1 := convK w v l hv
  have h2 := convK w u k hu
  have hE : decide (strOf l = strOf k) = decide (l = k) := decide_eq_decide.mpr (strOf_eq hv hu)
  clear hv hu
  go_enter Tryd.func49, Tryd.ntmps49
  go_wp2_with (first | (refine wpList_convert_run rfl _ _ _ rfl rfl h1 ?_) | (refine wpList_convert_run rfl _ _ _ rfl rfl h2 ?_))
  rw [str_beq, hE]
  go_ret
  exact ⟨rfl, rfl⟩
/-- append([]byte{}, u...) of any bytes. -/
theorem any_copy_run (w : World) (u : Value) (l : List Int) (hu : anyBytes w u l) (hl : l.length ≤ 1099511627776) :
    ∃ v' w', (Builtin.append_ #[23, 23] 23 #[.slice (some ⟨w.heap.size, 0, none⟩) 0 0, u]).run Tryd.prog (w.alloc (.cells #[] 5)) = .ok v' w' ∧ newBytes w' w.heap.size v' l ∧ Below w.heap.size w w' := by
  have hb1 : Below w.heap.size w (w.alloc (.cells #[] 5)) := (Below.refl _ _).alloc (Nat.le_refl _) _
  have hO : newBytes (w.alloc (.cells #[] 5)) w.heap.size (.slice (some ⟨w.heap.size, 0, none⟩) 0 0) [] :=
    ⟨⟨rfl, Or.inr ⟨w.heap.size, 0, #[], rfl, Nat.le_refl _, blk_alloc_new _ _, Nat.le_refl _, by unfold maxLen; omega, rfl, rfl⟩⟩, fun i => by simp⟩
  obtain ⟨v', w', hr, hn, hg, _⟩ := any_append_run _ w.heap.size _ u [] l hO (hu.below hb1 (Nat.le_refl _)) (by simp; omega) (by simp)
  exact ⟨v', w', hr, hn, hb1.trans (below_grown hg (fun k hk => (hO.block k hk).1) (by simp))⟩
set_option maxHeartbeats 1000000 in
set_option maxRecDepth 100000 in
/-- bytes.Clone. -/
theorem clone_x (v : Value) (l : List Int) (w : World) (hv : anyBytes w v l) (hl : l.length ≤ 1099511627776) :
    Calls Tryd.prog 36 #[v] w fun e w' => ∃ v', e = .returned v' ∧ newBytes w' w.heap.size v' l ∧ Below w.heap.size w w' := by
  obtain ⟨v', w', hr, hn', hb'⟩ := any_copy_run w v l hv hl
  have hsh : (v = .slice none 0 0 ∧ l = []) ∨ ∃ g cap, v = .slice (some g) l.length cap := by
    rcases hv with (⟨h, h2⟩ | ⟨pb, po, cap, h, _⟩) | ⟨⟨a, rfl⟩, rfl⟩
    · exact Or.inl ⟨h, h2⟩
    · exact Or.inr ⟨_, _, h⟩
    · cases a with
      | none => exact Or.inl ⟨rfl, rfl⟩
      | some a => exact Or.inr ⟨a, 0, rfl⟩
  have HN : Hid (newBytes w' w.heap.size v' l) := hn'
  have HB : Hid (Below w.heap.size w w') := hb'
  clear hv hn' hb'
  rcases hsh with ⟨rfl, rfl⟩ | ⟨g, cap, rfl⟩
  · have hq := fun wx : World => Go.Lib.run_eql_slice_nil (P := Tryd.prog) wx 23 5 none 0 0 0 0 Tryd.underlying23
    clear hr
    go_enter Tryd.func36, Tryd.ntmps36
    go_wp2
    go_ret
    exact ⟨_, rfl, newBytes.nil _ _, Below.refl _ _⟩
  · have hq := fun wx : World => Go.Lib.run_eql_slice_nil (P := Tryd.prog) wx 23 5 (some g) l.length cap 0 0 Tryd.underlying23
    go_enter Tryd.func36, Tryd.ntmps36
    go_wp2_with (first | (at_builtin; refine wpList_append_run rfl _ _ _ rfl rfl rfl hr ?_))
    go_ret
    exact ⟨_, rfl, HN.out, HB.out⟩
end Go.Proofs.YtkgegihkhdgdoaaDoor

/- keyed.says, of two spots; of none, of more; whole. -/
namespace Go.Proofs.YtkgegihkhdgdoaaDoor
set_option linter.unusedSimpArgs false
set_option linter.unusedVariables false
open Go.RowKit Go.Deep

theorem two_sp (w : World) : ((w.alloc (.cells (rowV 4 spZ) 41)).alloc (.cells (rowV 4 spZ) 41)).rowIs w.heap.size 41 4 spZ ∧ ((w.alloc (.cells (rowV 4 spZ) 41)).alloc (.cells (rowV 4 spZ) 41)).rowIs (w.heap.size + 1) 41 4 spZ ∧ Below w.heap.size w ((w.alloc (.cells (rowV 4 spZ) 41)).alloc (.cells (rowV 4 spZ) 41)) := by
  refine ⟨(((Below.refl (w.alloc (.cells (rowV 4 spZ) 41)).heap.size _).alloc (Nat.le_refl _) _)).row (rowIs_box w 41 4 spZ) (by simp), ?_, ((Below.refl _ _).alloc (Nat.le_refl _) _).alloc (by simp) _⟩
  have r1 := rowIs_box (w.alloc (.cells (rowV 4 spZ) 41)) 41 4 spZ
  rw [World.size_alloc] at r1
  exact r1
set_option maxHeartbeats 4000000 in
set_option maxRecDepth 100000 in
theorem says_two (cnt : Int) (v tv : Value) (y : Nat → Sp) (key : List Int) (w : World) (hp : spotsAt w v 2 y) (hk : anyBytes w tv key) :
    Calls Tryd.prog 47 #[.agg #[.int .i64 cnt, v], tv] w fun e w' => e = .returned (.bool (saysB cnt 2 y key)) ∧ Below w.heap.size w w' := by
  obtain ⟨g, o, cap, rfl, hg, hc⟩ := hp.at (by omega)
  obtain ⟨ka, kcap, va, vcap, pa, pcap, hin, H⟩ := hc 0 (by omega)
  obtain ⟨kb, kbcap, vb, vbcap, pb, pbcap, hin1, H1⟩ := hc 1 (by omega)
  obtain ⟨w1, hw1⟩ : ∃ w1, w1 = w.alloc (.cells #[.int .i64 cnt, .slice (some ⟨g, o, none⟩) 2 cap] 29) := ⟨_, rfl⟩
  have b1 : Below w.heap.size w w1 := by rw [hw1]; exact (Below.refl _ _).alloc (Nat.le_refl _) _
  have z1 : w1.heap.size = w.heap.size + 1 := by rw [hw1]; simp
  have hb0 : w1.heap[w.heap.size]? = some (.cells #[.int .i64 cnt, .slice (some ⟨g, o, none⟩) 2 cap] 29) := by rw [hw1, blk_alloc_new]
  have c0 : w1.cell? ⟨w.heap.size, 0, none⟩ = some (.int .i64 cnt) := by rw [cell_of_row _ _ _ _ _ _ hb0]; rfl
  have c1 : w1.cell? ⟨w.heap.size, 1, none⟩ = some (.slice (some ⟨g, o, none⟩) 2 cap) := by rw [cell_of_row _ _ _ _ _ _ hb0]; rfl
  have FACT : Hid (∀ wz, Below w1.heap.size w1 wz → Below w.heap.size w wz ∧ wz.cell? ⟨w.heap.size, 1, none⟩ = some (.slice (some ⟨g, o, none⟩) 2 cap) ∧ (∀ i, i < 4 → wz.cell? ⟨g, o + i, none⟩ = some (spG (y 0).at_ (.slice ka (y 0).pr.1.length kcap) (.slice va (y 0).pr.2.length vcap) (.slice pa (y 0).path.length pcap) i)) ∧ (∀ i, i < 4 → wz.cell? ⟨g, o + 4 + i, none⟩ = some (spG (y 1).at_ (.slice kb (y 1).pr.1.length kbcap) (.slice vb (y 1).pr.2.length vbcap) (.slice pb (y 1).path.length pbcap) i)) ∧ anyBytes wz (.slice ka (y 0).pr.1.length kcap) (y 0).pr.1 ∧ anyBytes wz (.slice kb (y 1).pr.1.length kbcap) (y 1).pr.1 ∧ anyBytes wz tv key) := (show _ from fun wz hz => by
    have hz' : Below w.heap.size w wz := b1.trans (hz.mono (by omega))
    obtain ⟨p0, p1, p2, p3, p4, _, _⟩ := H wz hz'
    obtain ⟨q0, q1, q2, q3, q4, _, _⟩ := H1 wz hz'
    refine ⟨hz', (hz.cell (p := ⟨w.heap.size, 1, none⟩) (by show w.heap.size < _; omega)).trans c1, fun i hi => ?_, fun i hi => ?_, p4, q4, hk.below hz' (Nat.le_refl _)⟩
    · have : i = 0 ∨ i = 1 ∨ i = 2 ∨ i = 3 := by omega
      rcases this with rfl | rfl | rfl | rfl
      · simpa [spG] using p0
      · simpa [spG] using p1
      · simpa [spG] using p2
      · simpa [spG] using p3
    · have : i = 0 ∨ i = 1 ∨ i = 2 ∨ i = 3 := by omega
      rcases this with rfl | rfl | rfl | rfl
      · simpa [spG] using q0
      · simpa [spG] using q1
      · simpa [spG] using q2
      · simpa [spG] using q3)
  obtain ⟨ta, tcap, rfl, _⟩ := hk.slice
  have ES : Hid (saysB cnt 2 y key = decide (cmpI (y 0).pr.1 key < 0 ∧ 0 < cmpI (y 1).pr.1 key ∧ 0 ≤ (y 0).at_ ∧ (y 1).at_ = (y 0).at_ + 1)) := (show saysB cnt 2 y key = decide (cmpI (y 0).pr.1 key < 0 ∧ 0 < cmpI (y 1).pr.1 key ∧ 0 ≤ (y 0).at_ ∧ (y 1).at_ = (y 0).at_ + 1) from by unfold saysB; rw [if_neg (by omega), if_neg (by omega), if_pos rfl])
  have HIN : Hid (inI64 (y 0).at_ ∧ inI64 (y 1).at_) := (show _ ∧ _ from ⟨hin, hin1⟩)
  clear hp hc H H1 hk b1 hb0 hg z1 hin hin1
  go_enter Tryd.func47, Tryd.ntmps47
  go_upto_region 1 with fail
  rw [← hw1]
  clear hw1
  go_upto_region 9 with fail
  go_cut [7, 8] from 54 to 61 (fun p7 p8 wx => ∃ b7 b8, p7 = .pointer (some ⟨b7, 0, none⟩) ∧ p8 = .pointer (some ⟨b8, 0, none⟩) ∧ wx.rowIs b7 41 4 (spG (y 0).at_ (.slice ka (y 0).pr.1.length kcap) (.slice va (y 0).pr.2.length vcap) (.slice pa (y 0).path.length pcap)) ∧ wx.rowIs b8 41 4 (spG (y 1).at_ (.slice kb (y 1).pr.1.length kbcap) (.slice vb (y 1).pr.2.length vbcap) (.slice pb (y 1).path.length pbcap)) ∧ Below w1.heap.size w1 wx)
  case first =>
    have BD : Hid (Below w1.heap.size w1 w1.drew) := (show Below w1.heap.size w1 w1.drew from (Below.refl _ _).drew)
    refine wp_region_noPanic ?_
    refine wp_region_held_drew (S := fun w' => Below w1.heap.size w1 w') (by kernel_rfl) BD.out (fun hHeld => ?_)
    generalize w1.drew = wd at BD hHeld ⊢
    refine take_op (i := 0) (v := ?va0) rfl (by kernel_rfl) (by kernel_rfl) (by kernel_rfl) (fun _ _ _ h => h) rfl hHeld ?ya0 ?ra0
    case ya0 => (intro wz hz; go_simp; first | done | with_reducible rfl)
    try simp only [Act.put, List.setIfInBounds_toArray, List.set_cons_zero, List.set_cons_succ]
    refine take_op (i := 1) (v := ?va1) rfl (by kernel_rfl) (by kernel_rfl) (by kernel_rfl) (fun _ _ _ h => h) rfl hHeld ?ya1 ?ra1
    case ya1 => (intro wz hz; have hcz := (FACT.out wz hz).2.1; go_simp; first | done | with_reducible rfl)
    try simp only [Act.put, List.setIfInBounds_toArray, List.set_cons_zero, List.set_cons_succ]
    refine take_op (i := 2) (v := ?va2) rfl (by kernel_rfl) (by kernel_rfl) (by kernel_rfl) (fun _ _ _ h => h) rfl hHeld ?ya2 ?ra2
    case ya2 => (intro wz hz; go_simp; first | done | with_reducible rfl)
    try simp only [Act.put, List.setIfInBounds_toArray, List.set_cons_zero, List.set_cons_succ]
    refine take_load (i := 3) rfl (by kernel_rfl) (by kernel_rfl) (by kernel_rfl) 41 _ rfl g o 4 (spG (y 0).at_ (.slice ka (y 0).pr.1.length kcap) (.slice va (y 0).pr.2.length vcap) (.slice pa (y 0).path.length pcap)) rfl _ Tryd.underlying41 rfl (by kernel_rfl) (fun _ _ _ h => h) rfl hHeld (fun wz hz => (FACT.out wz hz).2.2.1) ?_
    try simp only [Act.put, List.setIfInBounds_toArray, List.set_cons_zero, List.set_cons_succ]
    refine take_op (i := 4) (v := ?va4) rfl (by kernel_rfl) (by kernel_rfl) (by kernel_rfl) (fun _ _ _ h => h) rfl hHeld ?ya4 ?ra4
    case ya4 => (intro wz hz; go_simp; first | done | with_reducible rfl)
    try simp only [Act.put, List.setIfInBounds_toArray, List.set_cons_zero, List.set_cons_succ]
    refine take_op (i := 5) (v := ?va5) rfl (by kernel_rfl) (by kernel_rfl) (by kernel_rfl) (fun _ _ _ h => h) rfl hHeld ?ya5 ?ra5
    case ya5 => (intro wz hz; have hcz := (FACT.out wz hz).2.1; go_simp; first | done | with_reducible rfl)
    try simp only [Act.put, List.setIfInBounds_toArray, List.set_cons_zero, List.set_cons_succ]
    refine take_op (i := 6) (v := ?va6) rfl (by kernel_rfl) (by kernel_rfl) (by kernel_rfl) (fun _ _ _ h => h) rfl hHeld ?ya6 ?ra6
    case ya6 => (intro wz hz; go_simp; first | done | with_reducible rfl)
    try simp only [Act.put, List.setIfInBounds_toArray, List.set_cons_zero, List.set_cons_succ]
    refine take_load (i := 7) rfl (by kernel_rfl) (by kernel_rfl) (by kernel_rfl) 41 _ rfl g (o + 4) 4 (spG (y 1).at_ (.slice kb (y 1).pr.1.length kbcap) (.slice vb (y 1).pr.2.length vbcap) (.slice pb (y 1).path.length pbcap)) rfl _ Tryd.underlying41 rfl (by kernel_rfl) (fun _ _ _ h => h) rfl hHeld (fun wz hz => (FACT.out wz hz).2.2.2.1) ?_
    try simp only [Act.put, List.setIfInBounds_toArray, List.set_cons_zero, List.set_cons_succ]
    refine take_pair (i := 8) (j := 9) rfl rfl (by kernel_rfl) rfl rfl (fun K hK => ?_) (fun K hK => ?_)
    · refine wp_of_run (exec_allocSp rfl) ?_
      refine hK.out _ _ (BD.out.alloc BD.out.size _) (fun hHeld => ?_)
      clear hK K
      try simp only [Act.put, List.setIfInBounds_toArray, List.set_cons_zero, List.set_cons_succ]
      refine take_one (i := 9) rfl (by kernel_rfl) rfl (fun K hK => ?_)
      refine wp_of_run (exec_allocSp rfl) ?_
      obtain ⟨z1, z2, bz⟩ := two_sp wd
      rw [World.size_alloc]
      generalize (wd.alloc (.cells (rowV 4 spZ) 41)).alloc (.cells (rowV 4 spZ) 41) = W at z1 z2 bz ⊢
      have BW : Hid (Below w1.heap.size w1 W) := (show Below w1.heap.size w1 W from BD.out.trans (bz.mono BD.out.size))
      refine hK.out _ _ BW.out (fun hHeld => ?_)
      clear hK K
      try simp only [Act.put, List.setIfInBounds_toArray, List.set_cons_zero, List.set_cons_succ]
      obtain ⟨V1, s1, q1, y1, c1'⟩ := sp_store W wd.heap.size (spG (y 0).at_ (.slice ka (y 0).pr.1.length kcap) (.slice va (y 0).pr.2.length vcap) (.slice pa (y 0).path.length pcap)) z1 (spG_one _ _ _ _ _ _ _ _ _ _)
      obtain ⟨V2, s2, q2, y2, c2'⟩ := sp_store V1 (wd.heap.size + 1) (spG (y 1).at_ (.slice kb (y 1).pr.1.length kbcap) (.slice vb (y 1).pr.2.length vbcap) (.slice pb (y 1).path.length pbcap)) (c1'.row z2 z2.lt (by omega)) (spG_one _ _ _ _ _ _ _ _ _ _)
      have q1' := c2'.row q1 q1.lt (by omega)
      have hwd := BD.out.size
      have bV1 : Below w1.heap.size w1 V1 := BW.out.trans ((c1'.mono BW.out.size).below (by omega))
      have bV2 : Below w1.heap.size w1 V2 := bV1.trans ((c2'.mono bV1.size).below (by omega))
      refine take_one (i := 10) rfl (by kernel_rfl) rfl (fun K hK => ?_)
      unfold Oper.wp execOp
      simp only [Instr.storeAt, Instr.sureAddr, Sem.run_bind, Sem.run_pure, Result.andThen_ok]
      simp [Act.eval, s1, Oper.upon]
      refine hK.out _ _ bV1 (fun hHeld => ?_)
      clear hK K
      try simp only [Act.put, List.setIfInBounds_toArray, List.set_cons_zero, List.set_cons_succ]
      refine take_one (i := 11) rfl (by kernel_rfl) rfl (fun K hK => ?_)
      unfold Oper.wp execOp
      simp only [Instr.storeAt, Instr.sureAddr, Sem.run_bind, Sem.run_pure, Result.andThen_ok]
      simp [Act.eval, s2, Oper.upon]
      refine hK.out _ _ bV2 (fun hHeld => ?_)
      clear hK K
      try simp only [Act.put, List.setIfInBounds_toArray, List.set_cons_zero, List.set_cons_succ]
      refine wpAnyH_done (by kernel_rfl) ?_ _
      refine NoPanic.normal ?_
      have FIN : Hid (V2.rowIs wd.heap.size 41 4 (spG (y 0).at_ (.slice ka (y 0).pr.1.length kcap) (.slice va (y 0).pr.2.length vcap) (.slice pa (y 0).path.length pcap)) ∧ V2.rowIs (wd.heap.size + 1) 41 4 (spG (y 1).at_ (.slice kb (y 1).pr.1.length kbcap) (.slice vb (y 1).pr.2.length vbcap) (.slice pb (y 1).path.length pbcap)) ∧ Below w1.heap.size w1 V2) := (show _ ∧ _ ∧ _ from ⟨q1', q2, bV2⟩)
      clear s1 s2 q1 q2 y1 y2 c1' c2' q1' bV1 bV2 z1 z2 bz hHeld hwd
      go_wp2_with fail
      go_meet
      case rel => exact ⟨_, _, rfl, rfl, FIN.out.1, FIN.out.2.1, FIN.out.2.2⟩
    · refine wp_of_run (exec_allocSp rfl) ?_
      refine hK.out _ _ (BD.out.alloc BD.out.size _) (fun hHeld => ?_)
      clear hK K
      try simp only [Act.put, List.setIfInBounds_toArray, List.set_cons_zero, List.set_cons_succ]
      refine take_one (i := 8) rfl (by kernel_rfl) rfl (fun K hK => ?_)
      refine wp_of_run (exec_allocSp rfl) ?_
      obtain ⟨z1, z2, bz⟩ := two_sp wd
      rw [World.size_alloc]
      generalize (wd.alloc (.cells (rowV 4 spZ) 41)).alloc (.cells (rowV 4 spZ) 41) = W at z1 z2 bz ⊢
      have BW : Hid (Below w1.heap.size w1 W) := (show Below w1.heap.size w1 W from BD.out.trans (bz.mono BD.out.size))
      refine hK.out _ _ BW.out (fun hHeld => ?_)
      clear hK K
      try simp only [Act.put, List.setIfInBounds_toArray, List.set_cons_zero, List.set_cons_succ]
      obtain ⟨V1, s1, q1, y1, c1'⟩ := sp_store W (wd.heap.size + 1) (spG (y 0).at_ (.slice ka (y 0).pr.1.length kcap) (.slice va (y 0).pr.2.length vcap) (.slice pa (y 0).path.length pcap)) z2 (spG_one _ _ _ _ _ _ _ _ _ _)
      obtain ⟨V2, s2, q2, y2, c2'⟩ := sp_store V1 wd.heap.size (spG (y 1).at_ (.slice kb (y 1).pr.1.length kbcap) (.slice vb (y 1).pr.2.length vbcap) (.slice pb (y 1).path.length pbcap)) (c1'.row z1 z1.lt (by omega)) (spG_one _ _ _ _ _ _ _ _ _ _)
      have q1' := c2'.row q1 q1.lt (by omega)
      have hwd := BD.out.size
      have bV1 : Below w1.heap.size w1 V1 := BW.out.trans ((c1'.mono BW.out.size).below (by omega))
      have bV2 : Below w1.heap.size w1 V2 := bV1.trans ((c2'.mono bV1.size).below (by omega))
      refine take_one (i := 10) rfl (by kernel_rfl) rfl (fun K hK => ?_)
      unfold Oper.wp execOp
      simp only [Instr.storeAt, Instr.sureAddr, Sem.run_bind, Sem.run_pure, Result.andThen_ok]
      simp [Act.eval, s1, Oper.upon]
      refine hK.out _ _ bV1 (fun hHeld => ?_)
      clear hK K
      try simp only [Act.put, List.setIfInBounds_toArray, List.set_cons_zero, List.set_cons_succ]
      refine take_one (i := 11) rfl (by kernel_rfl) rfl (fun K hK => ?_)
      unfold Oper.wp execOp
      simp only [Instr.storeAt, Instr.sureAddr, Sem.run_bind, Sem.run_pure, Result.andThen_ok]
      simp [Act.eval, s2, Oper.upon]
      refine hK.out _ _ bV2 (fun hHeld => ?_)
      clear hK K
      try simp only [Act.put, List.setIfInBounds_toArray, List.set_cons_zero, List.set_cons_succ]
      refine wpAnyH_done (by kernel_rfl) ?_ _
      refine NoPanic.normal ?_
      have FIN : Hid (V2.rowIs (wd.heap.size + 1) 41 4 (spG (y 0).at_ (.slice ka (y 0).pr.1.length kcap) (.slice va (y 0).pr.2.length vcap) (.slice pa (y 0).path.length pcap)) ∧ V2.rowIs wd.heap.size 41 4 (spG (y 1).at_ (.slice kb (y 1).pr.1.length kbcap) (.slice vb (y 1).pr.2.length vbcap) (.slice pb (y 1).path.length pbcap)) ∧ Below w1.heap.size w1 V2) := (show _ ∧ _ ∧ _ from ⟨q1', q2, bV2⟩)
      clear s1 s2 q1 q2 y1 y2 c1' c2' q1' bV1 bV2 z1 z2 bz hHeld hwd
      go_wp2_with fail
      go_meet
      case rel => exact ⟨_, _, rfl, rfl, FIN.out.1, FIN.out.2.1, FIN.out.2.2⟩
  case rest =>
    obtain ⟨b7, b8, rfl, rfl, r7, r8, b3⟩ := hcut
    rename World => w3
    obtain ⟨b03, _, _, _, k0, k1, kt⟩ := FACT.out w3 b3
    have e0 : w3.cell? ⟨b7, 0, none⟩ = some (.int .i64 (y 0).at_) := r7.cell (i := 0) (by omega)
    have e1 : w3.cell? ⟨b7, 1, none⟩ = some (.slice ka (y 0).pr.1.length kcap) := r7.cell (i := 1) (by omega)
    have f0 : w3.cell? ⟨b8, 0, none⟩ = some (.int .i64 (y 1).at_) := r8.cell (i := 0) (by omega)
    have f1 : w3.cell? ⟨b8, 1, none⟩ = some (.slice kb (y 1).pr.1.length kbcap) := r8.cell (i := 1) (by omega)
    have X := compare_any w3 _ _ (y 0).pr.1 key k0 kt
    have Y := compare_any w3 _ _ (y 1).pr.1 key k1 kt
    have B3 : Hid (Below w.heap.size w w3) := (show Below w.heap.size w w3 from b03)
    clear r7 r8 b3 b03 k0 k1 kt c0 c1 FACT
    go_wp2_with fail
    refine X.mono ?_
    rintro e w' ⟨rfl, hw⟩
    obtain rfl := hw.symm
    clear X hw e1
    generalize cmpI (y 0).pr.1 key = cm at ES ⊢
    generalize cmpI (y 1).pr.1 key = cn at ES Y ⊢
    by_cases h0 : cm < 0
    · go_wp2_with fail
      refine Y.mono ?_
      rintro e w' ⟨rfl, hw⟩
      obtain rfl := hw.symm
      clear Y hw f1
      obtain ⟨i0, i1⟩ := HIN.out
      unfold inI64 at i0 i1
      by_cases h1 : cn > 0
      · by_cases h2 : 0 ≤ (y 0).at_
        · by_cases h3 : (y 0).at_ < (y 1).at_
          · have hws : IntKind.wrap .i64 ((y 1).at_ - (y 0).at_) = (y 1).at_ - (y 0).at_ := IntWalk.i64_in _ ⟨by omega, by omega⟩
            by_cases h4 : (y 1).at_ - (y 0).at_ = 1
            · have EV : Hid (saysB cnt 2 y key = true) := (show saysB cnt 2 y key = true from by rw [ES.out]; exact decide_eq_true (by omega))
              clear ES
              go_wp2
              go_ret
              exact ⟨by rw [EV.out]; rfl, B3.out⟩
            · have EV : Hid (saysB cnt 2 y key = false) := (show saysB cnt 2 y key = false from by rw [ES.out]; exact decide_eq_false (by omega))
              have h4' : ((y 1).at_ - (y 0).at_ == 1) = false := by simp [h4]
              clear ES
              go_wp2
              go_ret
              exact ⟨by rw [EV.out]; rfl, B3.out⟩
          · have EV : Hid (saysB cnt 2 y key = false) := (show saysB cnt 2 y key = false from by rw [ES.out]; exact decide_eq_false (by omega))
            clear ES
            go_wp2
            go_ret
            exact ⟨by rw [EV.out]; rfl, B3.out⟩
        · have EV : Hid (saysB cnt 2 y key = false) := (show saysB cnt 2 y key = false from by rw [ES.out]; exact decide_eq_false (by omega))
          clear ES
          go_wp2
          go_ret
          exact ⟨by rw [EV.out]; rfl, B3.out⟩
      · have EV : Hid (saysB cnt 2 y key = false) := (show saysB cnt 2 y key = false from by rw [ES.out]; exact decide_eq_false (by omega))
        clear ES
        go_wp2
        go_ret
        exact ⟨by rw [EV.out]; rfl, B3.out⟩
    · have EV : Hid (saysB cnt 2 y key = false) := (show saysB cnt 2 y key = false from by rw [ES.out]; exact decide_eq_false (by omega))
      clear ES
      go_wp2
      go_ret
      exact ⟨by rw [EV.out]; rfl, B3.out⟩
set_option maxHeartbeats 1000000 in
theorem says_other (cnt : Int) (m : Nat) (hm : m = 0 ∨ 3 ≤ m) (v tv : Value) (y : Nat → Sp) (key : List Int) (w : World) (hp : spotsAt w v m y) (hk : anyBytes w tv key) :
    Calls Tryd.prog 47 #[.agg #[.int .i64 cnt, v], tv] w fun e w' => e = .returned (.bool (saysB cnt m y key)) ∧ Below w.heap.size w w' := by
  obtain ⟨a, cap, rfl, h2, h3, _⟩ := hp
  obtain ⟨w1, hw1⟩ : ∃ w1, w1 = w.alloc (.cells #[.int .i64 cnt, .slice a m cap] 29) := ⟨_, rfl⟩
  have b1 : Below w.heap.size w w1 := by rw [hw1]; exact (Below.refl _ _).alloc (Nat.le_refl _) _
  have hb0 : w1.heap[w.heap.size]? = some (.cells #[.int .i64 cnt, .slice a m cap] 29) := by rw [hw1, blk_alloc_new]
  have c0 : w1.cell? ⟨w.heap.size, 0, none⟩ = some (.int .i64 cnt) := by rw [cell_of_row _ _ _ _ _ _ hb0]; rfl
  have c1 : w1.cell? ⟨w.heap.size, 1, none⟩ = some (.slice a m cap) := by rw [cell_of_row _ _ _ _ _ _ hb0]; rfl
  obtain ⟨ta, tcap, rfl, _⟩ := hk.slice
  have B1 : Hid (Below w.heap.size w w1) := (show Below w.heap.size w w1 from b1)
  unfold maxLen at h3
  clear b1 hb0 hk
  rcases hm with rfl | hm
  · have EV : Hid (saysB cnt 0 y key = (cnt == 0)) := (show saysB cnt 0 y key = (cnt == 0) from by unfold saysB; rw [if_pos rfl, Bool.eq_iff_iff, decide_eq_true_iff, beq_iff_eq])
    go_enter Tryd.func47, Tryd.ntmps47
    go_upto_region 1 with fail
    rw [← hw1]
    clear hw1
    go_wp2
    go_ret
    exact ⟨by rw [EV.out]; rfl, B1.out⟩
  · have EV : Hid (saysB cnt m y key = false) := (show saysB cnt m y key = false from by unfold saysB; rw [if_neg (by omega), if_neg (by omega), if_neg (by omega)])
    have m0 : ¬ (m : Int) = 0 := by omega
    have m1 : ¬ (m : Int) = 1 := by omega
    have m2 : ¬ (m : Int) = 2 := by omega
    have n0 : ((m : Int) == 0) = false := by simp; omega
    have n1 : ((m : Int) == 1) = false := by simp; omega
    have n2 : ((m : Int) == 2) = false := by simp; omega
    go_enter Tryd.func47, Tryd.ntmps47
    go_upto_region 1 with fail
    rw [← hw1]
    clear hw1
    go_wp2
    go_ret
    exact ⟨by rw [EV.out]; rfl, B1.out⟩
theorem says_any (cnt : Int) (hcn : 0 ≤ cnt ∧ cnt ≤ 9223372036854775807) (m : Nat) (v tv : Value) (y : Nat → Sp) (key : List Int) (w : World) (hp : spotsAt w v m y) (hk : anyBytes w tv key) :
    Calls Tryd.prog 47 #[.agg #[.int .i64 cnt, v], tv] w fun e w' => e = .returned (.bool (saysB cnt m y key)) ∧ Below w.heap.size w w' := by
  by_cases h1 : m = 1
  · subst h1; exact says_one cnt hcn v tv y key w hp hk
  by_cases h2 : m = 2
  · subst h2; exact says_two cnt v tv y key w hp hk
  · exact says_other cnt m (by omega) v tv y key w hp hk
end Go.Proofs.YtkgegihkhdgdoaaDoor
