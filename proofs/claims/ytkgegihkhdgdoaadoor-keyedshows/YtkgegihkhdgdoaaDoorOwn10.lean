import Derived.Lib.Strings
import Derived.Deep.QuietTactic
import Derived.BigQuiet
import Derived.Deep.Light
import Derived.Test.YtkgegihkhdgdoaaDoorOwn4
import Derived.Test.YtkgegihkhdgdoaaDoorOwn5
import Derived.Test.YtkgegihkhdgdoaaDoorOwn7
import Derived.Test.YtkgegihkhdgdoaaDoorOwn8
import Derived.Test.YtkgegihkhdgdoaaDoorOwn9
set_option linter.unusedVariables false
set_option linter.unusedSimpArgs false
/- rows of pairs of one's own. -/
namespace Go.Proofs.YtkgegihkhdgdoaaDoor
set_option linter.unusedSimpArgs false
set_option linter.unusedVariables false
open Go.RowKit Go.Deep

def c2 (u : Nat → Value) : List Value := [u 0, u 1]
theorem c2_get (u : Nat → Value) (j : Nat) (hj : j < 2) : (c2 u)[j]? = some (u j) := by
  match j, hj with
  | 0, _ => rfl
  | 1, _ => rfl
theorem c2s_get : ∀ (U : List (Nat → Value)) (i j : Nat) (u : Nat → Value), U[i]? = some u → j < 2 → (U.flatMap c2)[i * 2 + j]? = some (u j)
  | [], i, j, u, h, _ => by simp at h
  | y :: N, 0, j, u, h, hj => by
    have e : y = u := by simpa using h
    subst e
    rw [List.flatMap_cons, Nat.zero_mul, Nat.zero_add, List.getElem?_append_left (by rw [show (c2 y).length = 2 from rfl]; exact hj)]
    exact c2_get _ _ hj
  | y :: N, i + 1, j, u, h, hj => by
    rw [List.flatMap_cons, List.getElem?_append_right (by rw [show (c2 y).length = 2 from rfl]; omega), show (c2 y).length = 2 from rfl, show (i + 1) * 2 + j - 2 = i * 2 + j by omega]
    exact c2s_get N i j u (by simpa using h) hj
/-- one pair's cells hold it. -/
def pairIn (w : World) (u : Nat → Value) (s : Pr) : Prop := ∃ kc vc, u = prG kc vc ∧ anyBytes w kc s.1 ∧ anyBytes w vc s.2
/-- .. and go on to hold it while no block from B on turns but v's own. -/
def pairFar (w : World) (B : Nat) (v : Value) (u : Nat → Value) (s : Pr) : Prop := ∀ w', (w.heap.size ≤ w'.heap.size ∧ ∀ j, j < w.heap.size → ¬ v.ownBlock = some j → B ≤ j → w'.heap[j]? = w.heap[j]?) → pairIn w' u s
theorem pairFar.now {w : World} {B : Nat} {v : Value} {u : Nat → Value} {s : Pr} (h : pairFar w B v u s) : pairIn w u s := h w ⟨Nat.le_refl _, fun _ _ _ _ => rfl⟩
theorem pairFar.below {w w' : World} {C B : Nat} {v : Value} {u : Nat → Value} {s : Pr} (h : pairFar w B v u s) (hb : Below C w w') (hC : w.heap.size ≤ C) : pairFar w' B v u s := fun z hz =>
  h z ⟨Nat.le_trans hb.size hz.1, fun j hj hn hb' => (hz.2 j (Nat.lt_of_lt_of_le hj hb.size) hn hb').trans (hb.block j (by omega))⟩
/-- v is a row of k pairs, in memory of its own from B on. -/
def ownPairs (w : World) (B : Nat) (v : Value) (k : Nat) (x : Nat → Pr) : Prop :=
  ∃ U : List (Nat → Value), U.length = k ∧ w.ownsRow B 38 2 v k (U.flatMap c2) ∧ ∀ i, i < k → ∃ u, U[i]? = some u ∧ pairFar w B v u (x i)
theorem ownPairs.nil (w : World) (B : Nat) (x : Nat → Pr) : ownPairs w B (.slice none 0 0) 0 x := ⟨[], rfl, ⟨rfl, Or.inl ⟨rfl, rfl⟩⟩, fun i hi => by omega⟩
theorem ownPairs.is {w : World} {B : Nat} {v : Value} {k : Nat} {x : Nat → Pr} (h : ownPairs w B v k x) : pairsAt w v k x := by
  obtain ⟨U, hU, ho, hy⟩ := h
  obtain ⟨a, c, rfl, hc, hm, hg⟩ := ownsRow_slice ho
  refine ⟨a, c, rfl, hc, hm, fun i hi => ?_⟩
  obtain ⟨g, rfl, hlt, _, hcell⟩ := hg (by omega)
  obtain ⟨u, hu, hf⟩ := hy i hi
  obtain ⟨kc, vc, rfl, h1, h2⟩ := hf.now
  have hq := fun j hj => hcell _ _ (c2s_get U i j _ hu hj)
  refine ⟨g, 0, kc, vc, rfl, hlt, ?_, ?_, h1, h2⟩
  · have := hq 0 (by omega); rw [Nat.zero_add]; exact this
  · have := hq 1 (by omega); rw [Nat.zero_add]; exact this
theorem ownPairs.block {w : World} {B : Nat} {v : Value} {k : Nat} {x : Nat → Pr} (h : ownPairs w B v k x) (j : Nat) (hj : v.ownBlock = some j) : B ≤ j ∧ j < w.heap.size := by
  obtain ⟨U, _, ho, _⟩ := h
  exact ownsRow_block ho j hj
theorem ownPairs.below {w w' : World} {B C : Nat} {v : Value} {k : Nat} {x : Nat → Pr} (h : ownPairs w B v k x) (hb : Below C w w') (hC : w.heap.size ≤ C) : ownPairs w' B v k x := by
  obtain ⟨U, hU, ho, hy⟩ := h
  refine ⟨U, hU, ownsRow_far ho fun j hj => hb.block j (Nat.lt_of_lt_of_le (ownsRow_block ho j hj).2 hC), fun i hi => ?_⟩
  obtain ⟨u, hu, hs⟩ := hy i hi
  exact ⟨u, hu, hs.below hb hC⟩
theorem infoPr : (Tryd.prog.info? 38).map (fun i => (i.zero, i.size, i.bytes)) = some (some (.agg (rowV 2 prZ)), 2, 48) := by kernel_rfl
theorem build_pr1 (f : Nat → Value) (w : World) : (Instr.buildSlice 22 1 #[(0, .agg (rowV 2 f))]).run Tryd.prog w = .ok (.slice (some ⟨w.heap.size, 0, none⟩) 1 1) (w.alloc (.cells (rowV 2 f) 38)) := by
  show (_ : Result Value) = _
  kernel_rfl
theorem build_b0 (w : World) : (Instr.buildSlice 23 0 #[]).run Tryd.prog w = .ok (.slice (some ⟨w.heap.size, 0, none⟩) 0 0) (w.alloc (.cells #[] 5)) := by
  show (_ : Result Value) = _
  kernel_rfl
theorem exec_bslice0' {P : Program} {o : Oper} {ev : Operand → Value} {w w' : World} {v : Value} (t : TypeId) (n : Nat) (ho : o.op = .buildSlice t n #[])
    (hr : (Instr.buildSlice t n #[]).run P w = .ok v w') : (execOp ev o).run P w = .ok (.value v) w' := by
  unfold execOp
  simp only [ho, List.map_toArray, List.map_cons, List.map_nil, Sem.run_bind, hr, Result.andThen_ok, Sem.run_pure]
theorem newBytes.zero (w : World) (B : Nat) (hB : B ≤ w.heap.size) : newBytes (w.alloc (.cells #[] 5)) B (.slice (some ⟨w.heap.size, 0, none⟩) 0 0) [] :=
  ⟨⟨rfl, Or.inr ⟨w.heap.size, 0, #[], rfl, hB, blk_alloc_new _ _, Nat.le_refl _, by unfold maxLen; omega, rfl, rfl⟩⟩, fun i => by simp⟩
/-- append of one pair to pairs of one's own. -/
theorem pairs_append (w : World) (B : Nat) (v : Value) (k : Nat) (x : Nat → Pr) (hv : ownPairs w B v k x) (b : Nat) (u : Nat → Value) (hb : w.rowIs b 38 2 u) (hu : pairFar w B v u (x k)) (hn : k < 1000000) (hB : B ≤ w.heap.size) :
    ∃ v' w', (Builtin.append_ #[22, 22] 22 #[v, .slice (some ⟨b, 0, none⟩) 1 1]).run Tryd.prog w = .ok v' w' ∧ ownPairs w' B v' (k + 1) x ∧ w.grownBy w' v.ownBlock ∧ (v'.ownBlock = v.ownBlock ∨ v'.ownBlock = some w.heap.size) := by
  obtain ⟨U, hU, ho, hy⟩ := hv
  have h4 : ∀ j, j < 2 → (u j).oneCell' = true := by
    obtain ⟨kc, vc, rfl, h1, h2⟩ := hu.now
    obtain ⟨ka, kcap, rfl, _⟩ := h1.slice
    obtain ⟨va, vcap, rfl, _⟩ := h2.slice
    exact prG_one _ _ _ _ _ _
  obtain ⟨a', c', w', hr, ho', hg, hat⟩ := row_append (P := Tryd.prog) w 22 22 38 _ 2 48 Tryd.underlying22 infoPr (by simp [Value.cells, rowV_size]) (by omega)
    B v k _ ho (.slice (some ⟨b, 0, none⟩) 1 1) 1 (c2 u) rfl
    ⟨_, _, rfl, fun _ => ⟨b, 0, rfl, fun j x hj => by
      have hl : j < 2 := (List.getElem?_eq_some_iff.1 hj).1
      rw [c2_get _ _ hl] at hj
      rw [Nat.zero_add, ← Option.some.inj hj]; exact hb.cell hl⟩⟩
    (fun x hx => by
      obtain ⟨j, hj, rfl⟩ := List.mem_iff_getElem.1 hx
      have hl : j < 2 := hj
      have := c2_get u j hl
      rw [List.getElem?_eq_getElem hj] at this
      rw [Option.some.inj this]; exact h4 j hl) (by unfold maxLen; omega) (by omega) hB
  have hfar : ∀ (u' : Nat → Value) (s : Pr), pairFar w B v u' s → pairFar w' B (.slice a' (k + 1) c') u' s := fun u' s h z hz => h z ⟨Nat.le_trans hg.size hz.1, fun j hj hn hne => by
    have h1 := hg.block j hj (fun e => hn e.symm)
    refine (hz.2 j (Nat.lt_of_lt_of_le hj hg.size) (fun e => ?_) hne).trans h1
    rcases hat with h | h
    · rw [h] at e; exact hn e
    · rw [h] at e; have := Option.some.inj e; omega⟩
  refine ⟨_, w', hr, ⟨U ++ [u], by simp [hU], ?_, fun i hi => ?_⟩, hg, hat⟩
  · rw [List.flatMap_append, show [u].flatMap c2 = c2 u from List.append_nil _]; exact ho'
  · by_cases e : i < k
    · obtain ⟨u', hu', hf⟩ := hy i e
      exact ⟨u', by rw [List.getElem?_append_left (by omega)]; exact hu', hfar _ _ hf⟩
    · obtain rfl : i = k := by omega
      exact ⟨u, by rw [List.getElem?_append_right (by omega), hU, Nat.sub_self]; rfl, hfar _ _ hu⟩
/-- the two copies of a pair's parts, how far they are: none, an empty one, the whole. -/
def pq (wr W : World) (k v : Option (Value × List Int)) : Prop :=
  Below wr.heap.size wr W ∧ (∀ u l, k = some (u, l) → newBytes W wr.heap.size u l) ∧ (∀ u l, v = some (u, l) → newBytes W wr.heap.size u l) ∧ ∀ a la b lb, k = some (a, la) → v = some (b, lb) → ∀ j, a.ownBlock = some j → ¬ b.ownBlock = some j
theorem pq.swap {wr W : World} {k v : Option (Value × List Int)} (h : pq wr W k v) : pq wr W v k := ⟨h.1, h.2.2.1, h.2.1, fun a la b lb h1 h2 j hj hb => h.2.2.2 b lb a la h2 h1 j hb hj⟩
theorem pq.make {wr W : World} {v : Option (Value × List Int)} (h : pq wr W none v) : pq wr (W.alloc (.cells #[] 5)) (some (.slice (some ⟨W.heap.size, 0, none⟩) 0 0, [])) v := by
  have hb : Below W.heap.size W (W.alloc (.cells #[] 5)) := (Below.refl _ _).alloc (Nat.le_refl _) _
  have hs := h.1.size
  refine ⟨h.1.trans (hb.mono hs), fun u l e => ?_, fun u l e => (h.2.2.1 u l e).below hb (Nat.le_refl _), fun a la b lb e1 e2 j hj hk => ?_⟩
  · have e' := Option.some.inj e
    rw [← (Prod.mk.inj e').1, ← (Prod.mk.inj e').2]
    exact newBytes.zero W _ hs
  · have e' := Option.some.inj e1
    rw [← (Prod.mk.inj e').1] at hj
    have : W.heap.size = j := by simpa [Value.ownBlock] using hj
    have := ((h.2.2.1 b lb e2).block j hk).2
    omega
theorem pq.fill {wr W : World} {u y : Value} {m : List Int} {v : Option (Value × List Int)} (h : pq wr W (some (u, [])) v) (hy : anyBytes W y m) (hm : m.length ≤ 1000000) : ∃ u' W', (Builtin.append_ #[23, 23] 23 #[u, y]).run Tryd.prog W = .ok u' W' ∧ pq wr W' (some (u', m)) v := by
  have hn := h.2.1 u [] rfl
  obtain ⟨u', W', hr, hn', hg, hat⟩ := any_append_run W wr.heap.size u y [] m hn hy (by simp; omega) h.1.size
  have hb := below_grown hg (fun k hk => (hn.block k hk).1) h.1.size
  refine ⟨u', W', hr, h.1.trans hb, fun a l e => ?_, fun b lb e => ?_, fun a la b lb e1 e2 j hj hk => ?_⟩
  · have e' := Option.some.inj e
    rw [← (Prod.mk.inj e').1, ← (Prod.mk.inj e').2]
    rw [List.nil_append] at hn'; exact hn'
  · have h1 := h.2.2.1 b lb e
    exact h1.apart fun j hj => hg.block j (h1.block j hj).2 (fun e' => h.2.2.2 u [] b lb rfl e j e'.symm hj)
  · have e' := Option.some.inj e1
    rw [← (Prod.mk.inj e').1] at hj
    have h1 := h.2.2.1 b lb e2
    rcases hat with ha | ha
    · rw [ha] at hj; exact h.2.2.2 u [] b lb rfl e2 j hj hk
    · rw [ha] at hj; have := Option.some.inj hj; have := (h1.block j hk).2; omega
end Go.Proofs.YtkgegihkhdgdoaaDoor

/- The document's copy of pairs. -/
namespace Go.Proofs.YtkgegihkhdgdoaaDoor
set_option linter.unusedSimpArgs false
set_option linter.unusedVariables false
open Go.RowKit Go.Deep

set_option maxHeartbeats 8000000 in
set_option maxRecDepth 100000 in
theorem rpairs_any (n : Nat) (v : Value) (x : Nat → Pr) (w : World) (hp : pairsAt w v n x) (hn : n ≤ 1000) (hx : ∀ i, i < n → (x i).1.length + (x i).2.length ≤ 1000000) :
    Calls Tryd.prog 11 #[v] w fun e w' => ∃ u, e = .returned u ∧ ownPairs w' w.heap.size u n x ∧ Below w.heap.size w w' := by
  obtain ⟨a, cap, hv, hnc, hcm, _⟩ := (id hp : pairsAt w v n x)
  have hnm : (n : Int) ≤ 1000 := by omega
  have HP : Hid (pairsAt w v n x) := (show pairsAt w v n x from hp)
  have HX : Hid (∀ i, i < n → (x i).1.length + (x i).2.length ≤ 1000000) := (show _ from hx)
  subst hv
  have hn0 : (0 : Int) ≤ (n : Int) := by omega
  clear hp hnc hcm hx
  go_enter Tryd.func11, Tryd.ntmps11
  go_wp2_with fail
  go_loopw [3, 4] (fun vv i wr => ∃ (q : Nat) (oa : Option Addr) (oc : Nat), q ≤ n ∧ vv = .slice oa q oc ∧ i = .int .i64 (q : Int) ∧ ownPairs wr w.heap.size (.slice oa q oc) q x ∧ Below w.heap.size w wr) (fun _ i _ => n - (intOf i).toNat)
  case atStart => exact ⟨0, none, 0, by omega, rfl, rfl, ownPairs.nil _ _ _, Below.refl _ _⟩
  case round =>
    obtain ⟨q, oa, oc, hqn, rfl, rfl, hos, hbr⟩ := hrel
    have q0 : (0 : Int) ≤ (q : Int) := by omega
    have HBR : Hid (Below w.heap.size w wr) := (show Below w.heap.size w wr from hbr)
    have HOS : Hid (ownPairs wr w.heap.size (.slice oa q oc) q x) := (show _ from hos)
    clear hos
    by_cases hlt : q < n
    · have q1 : (q : Int) < (n : Int) := by omega
      obtain ⟨g, o, cap', e, hg, _, _, hcell⟩ := HP.out.at (by omega)
      injection e with e1 e2 e3
      subst e1
      subst e3
      obtain ⟨ka, kcap, va, vcap, H⟩ := hcell q hlt
      have FC : Hid (∀ wz, Below w.heap.size w wz → wz.cell? ⟨g, o + q * 2, none⟩ = some (.slice ka (x q).1.length kcap) ∧ wz.cell? ⟨g, o + q * 2 + 1, none⟩ = some (.slice va (x q).2.length vcap)) := (show _ from fun wz hz => ⟨(H wz hz).1, (H wz hz).2.1⟩)
      have FA : Hid (∀ wz, Below w.heap.size w wz → anyBytes wz (.slice ka (x q).1.length kcap) (x q).1 ∧ anyBytes wz (.slice va (x q).2.length vcap) (x q).2) := (show _ from fun wz hz => ⟨(H wz hz).2.2.1, (H wz hz).2.2.2⟩)
      have HXQ : Hid ((x q).1.length + (x q).2.length ≤ 1000000) := (show _ from HX.out q hlt)
      clear hcell H hbr hg
      go_upto_region 5 with fail
      have BD : Below wr.heap.size wr wr.drew := (Below.refl _ _).drew
      have H : pq wr wr.drew none none := ⟨BD, (fun u l h => by cases h), (fun u l h => by cases h), fun a la b lb h => by cases h⟩
      refine wp_region_noPanic ?_
      refine wp_region_held_drew (S := fun w' => Below w.heap.size w w') (by kernel_rfl) (HBR.out.trans (BD.mono HBR.out.size)) (fun hHeld => ?_)
      clear BD
      generalize wr.drew = W at hHeld H ⊢
      refine take_op (i := 0) (v := ?va0) rfl (by kernel_rfl) (by kernel_rfl) (by kernel_rfl) (fun _ _ _ h => h) rfl hHeld ?ya0 ?ra0
      case ya0 => (intro wz hz; go_simp; first | done | with_reducible rfl)
      try simp only [Act.put, List.setIfInBounds_toArray, List.set_cons_zero, List.set_cons_succ]
      refine take_op (i := 2) (v := ?va2) rfl (by kernel_rfl) (by kernel_rfl) (by kernel_rfl) (fun _ _ _ h => h) rfl hHeld ?ya2 ?ra2
      case ya2 => (intro wz hz; go_simp; first | done | with_reducible rfl)
      try simp only [Act.put, List.setIfInBounds_toArray, List.set_cons_zero, List.set_cons_succ]
      refine take_op (i := 3) (v := ?va3) rfl (by kernel_rfl) (by kernel_rfl) (by kernel_rfl) (fun _ _ _ h => h) rfl hHeld ?ya3 ?ra3
      case ya3 => (intro wz hz; go_simp; first | done | with_reducible rfl)
      try simp only [Act.put, List.setIfInBounds_toArray, List.set_cons_zero, List.set_cons_succ]
      refine take_op (i := 4) (v := ?va4) rfl (by kernel_rfl) (by kernel_rfl) (by kernel_rfl) (fun _ _ _ h => h) rfl hHeld ?ya4 ?ra4
      case ya4 => (intro wz hz; go_simp; first | done | with_reducible rfl)
      try simp only [Act.put, List.setIfInBounds_toArray, List.set_cons_zero, List.set_cons_succ]
      refine take_op (i := 5) (v := ?va5) rfl (by kernel_rfl) (by kernel_rfl) (by kernel_rfl) (fun _ _ _ h => h) rfl hHeld ?ya5 ?ra5
      case ya5 => (intro wz hz; go_simp; first | done | with_reducible rfl)
      try simp only [Act.put, List.setIfInBounds_toArray, List.set_cons_zero, List.set_cons_succ]
      refine take_op (i := 6) (v := ?va6) rfl (by kernel_rfl) (by kernel_rfl) (by kernel_rfl) (fun _ _ _ h => h) rfl hHeld ?ya6 ?ra6
      case ya6 => (intro wz hz; have hcz := (FC.out wz hz).1; go_simp; first | done | with_reducible rfl)
      try simp only [Act.put, List.setIfInBounds_toArray, List.set_cons_zero, List.set_cons_succ]
      refine take_op (i := 9) (v := ?va9) rfl (by kernel_rfl) (by kernel_rfl) (by kernel_rfl) (fun _ _ _ h => h) rfl hHeld ?ya9 ?ra9
      case ya9 => (intro wz hz; go_simp; first | done | with_reducible rfl)
      try simp only [Act.put, List.setIfInBounds_toArray, List.set_cons_zero, List.set_cons_succ]
      refine take_op (i := 10) (v := ?va10) rfl (by kernel_rfl) (by kernel_rfl) (by kernel_rfl) (fun _ _ _ h => h) rfl hHeld ?ya10 ?ra10
      case ya10 => (intro wz hz; go_simp; first | done | with_reducible rfl)
      try simp only [Act.put, List.setIfInBounds_toArray, List.set_cons_zero, List.set_cons_succ]
      refine take_op (i := 11) (v := ?va11) rfl (by kernel_rfl) (by kernel_rfl) (by kernel_rfl) (fun _ _ _ h => h) rfl hHeld ?ya11 ?ra11
      case ya11 => (intro wz hz; go_simp; first | done | with_reducible rfl)
      try simp only [Act.put, List.setIfInBounds_toArray, List.set_cons_zero, List.set_cons_succ]
      refine take_op (i := 12) (v := ?va12) rfl (by kernel_rfl) (by kernel_rfl) (by kernel_rfl) (fun _ _ _ h => h) rfl hHeld ?ya12 ?ra12
      case ya12 => (intro wz hz; go_simp; first | done | with_reducible rfl)
      try simp only [Act.put, List.setIfInBounds_toArray, List.set_cons_zero, List.set_cons_succ]
      refine take_op (i := 13) (v := ?va13) rfl (by kernel_rfl) (by kernel_rfl) (by kernel_rfl) (fun _ _ _ h => h) rfl hHeld ?ya13 ?ra13
      case ya13 => (intro wz hz; have hcz := (FC.out wz hz).2; go_simp; first | done | with_reducible rfl)
      try simp only [Act.put, List.setIfInBounds_toArray, List.set_cons_zero, List.set_cons_succ]
      refine regionKK (fun G hG => ?_)
      refine actKK (p := fun a => G 8 _ a W) (fun a0 ha0 => ?_)
      refine listKK (p := fun l => G 8 l a0 W) (fun l0 hl0 => ?_)
      have HG : Hid _ := hG
      have HA0 : Hid _ := ha0
      have HL0 : Hid _ := hl0
      clear hG ha0 hl0 hHeld
      have ST22 : Hid (∀ (p1 : Nat), ∀ (ua : Option Addr) (uc : Nat), ∀ (p2 : Nat), ∀ (va2 : Option Addr) (vc2 : Nat), ∀ W : World, pq wr W (some ((.slice ua (x q).1.length uc), (x q).1)) (some ((.slice va2 (x q).2.length vc2), (x q).2)) → G 4 ((((l0.setIfInBounds 1 true).setIfInBounds 7 true).setIfInBounds 8 true).setIfInBounds 14 true) ((((a0.put (some 12) (.slice (some ⟨p1, 0, none⟩) 0 0)).put (some 18) (.slice ua (x q).1.length uc)).put (some 19) (.slice (some ⟨p2, 0, none⟩) 0 0)).put (some 25) (.slice va2 (x q).2.length vc2)) W) := (show ∀ (p1 : Nat), ∀ (ua : Option Addr) (uc : Nat), ∀ (p2 : Nat), ∀ (va2 : Option Addr) (vc2 : Nat), ∀ W : World, pq wr W (some ((.slice ua (x q).1.length uc), (x q).1)) (some ((.slice va2 (x q).2.length vc2), (x q).2)) → G 4 ((((l0.setIfInBounds 1 true).setIfInBounds 7 true).setIfInBounds 8 true).setIfInBounds 14 true) ((((a0.put (some 12) (.slice (some ⟨p1, 0, none⟩) 0 0)).put (some 18) (.slice ua (x q).1.length uc)).put (some 19) (.slice (some ⟨p2, 0, none⟩) 0 0)).put (some 25) (.slice va2 (x q).2.length vc2)) W from by
        intro p1 ua uc p2 va2 vc2 W H
        rw [HA0.out, HL0.out, HG.out]
        try simp only [Act.put, List.setIfInBounds_toArray, List.set_cons_zero, List.set_cons_succ]
        have hHeld : Below w.heap.size w W := HBR.out.trans (H.1.mono HBR.out.size)
        refine take_op (i := 15) (v := .agg (rowV 2 (prG (.slice ua (x q).1.length uc) (.slice va2 (x q).2.length vc2)))) rfl (by kernel_rfl) (by kernel_rfl) (by kernel_rfl) (fun _ _ _ h => h) rfl hHeld (fun wz hz => exec_build2 38 0 1 (.tmp 18) (.tmp 25) (.slice ua (x q).1.length uc) (.slice va2 (x q).2.length vc2) rfl rfl rfl (build_pr ua va2 (x q).1.length uc (x q).2.length vc2 wz)) ?_
        try simp only [Act.put, List.setIfInBounds_toArray, List.set_cons_zero, List.set_cons_succ]
        refine take_one (i := 16) rfl (by kernel_rfl) rfl (fun K hK => ?_)
        refine wp_of_run (exec_bslice1' 22 1 0 (.tmp 26) (.agg (rowV 2 (prG (.slice ua (x q).1.length uc) (.slice va2 (x q).2.length vc2)))) rfl rfl (build_pr1 (prG (.slice ua (x q).1.length uc) (.slice va2 (x q).2.length vc2)) W)) ?_
        obtain ⟨W2, hW2⟩ : ∃ W2, W2 = W.alloc (.cells (rowV 2 (prG (.slice ua (x q).1.length uc) (.slice va2 (x q).2.length vc2))) 38) := ⟨_, rfl⟩
        have b12 : Below W.heap.size W W2 := by rw [hW2]; exact (Below.refl _ _).alloc (Nat.le_refl _) _
        have rN : W2.rowIs W.heap.size 38 2 (prG (.slice ua (x q).1.length uc) (.slice va2 (x q).2.length vc2)) := by rw [hW2]; exact rowIs_box _ _ _ _
        rw [← hW2]
        clear hW2
        have bw2 : Below wr.heap.size wr W2 := H.1.trans (b12.mono H.1.size)
        have bww : Below w.heap.size w W2 := HBR.out.trans (bw2.mono HBR.out.size)
        refine hK.out _ _ bww (fun hHeld2 => ?_)
        clear hK K
        try simp only [Act.put, List.setIfInBounds_toArray, List.set_cons_zero, List.set_cons_succ]
        have HO2 : ownPairs W2 w.heap.size (.slice oa q oc) q x := HOS.out.below bw2 (Nat.le_refl _)
        have e1 : newBytes W2 wr.heap.size (.slice ua (x q).1.length uc) (x q).1 := (H.2.1 _ _ rfl).below b12 (Nat.le_refl _)
        have e2 : newBytes W2 wr.heap.size (.slice va2 (x q).2.length vc2) (x q).2 := (H.2.2.1 _ _ rfl).below b12 (Nat.le_refl _)
        have PF : pairFar W2 w.heap.size (.slice oa q oc) (prG (.slice ua (x q).1.length uc) (.slice va2 (x q).2.length vc2)) (x q) := fun z hz => by
          have hs := HBR.out.size
          have far : ∀ j, wr.heap.size ≤ j → j < W2.heap.size → z.heap[j]? = W2.heap[j]? := fun j h1 h2 => hz.2 j h2 (fun e => by have := (HOS.out.block j e).2; omega) (by omega)
          exact ⟨_, _, rfl, Or.inl (e1.apart fun j hj => far j (e1.block j hj).1 (e1.block j hj).2).is, Or.inl (e2.apart fun j hj => far j (e2.block j hj).1 (e2.block j hj).2).is⟩
        obtain ⟨v', V3, hr, ho3, hg3, hat3⟩ := pairs_append W2 w.heap.size (.slice oa q oc) q x HO2 W.heap.size (prG (.slice ua (x q).1.length uc) (.slice va2 (x q).2.length vc2)) rN PF (by omega) bww.size
        have b3 : Below w.heap.size w V3 := bww.trans (below_grown hg3 (fun k hk => (HO2.block k hk).1) bww.size)
        refine take_one (i := 17) rfl (by kernel_rfl) rfl (fun K hK => ?_)
        refine wp_append_run (.tmp 11) (.tmp 27) 22 rfl rfl rfl hr ?_
        refine hK.out _ _ b3 (fun hHeld3 => ?_)
        clear hK K
        try simp only [Act.put, List.setIfInBounds_toArray, List.set_cons_zero, List.set_cons_succ]
        have hsv : ∃ na nc, v' = .slice na (q + 1) nc := by
          obtain ⟨na, nc, e, _⟩ := ho3.is
          exact ⟨na, nc, e⟩
        obtain ⟨na, nc, rfl⟩ := hsv
        refine take_op (i := 18) (v := ?vz) rfl (by kernel_rfl) (by kernel_rfl) (by kernel_rfl) (fun _ _ _ h => h) rfl hHeld3 ?yz ?rz
        case yz => (intro wz hz; go_simp; first | done | with_reducible rfl)
        try simp only [Act.put, List.setIfInBounds_toArray, List.set_cons_zero, List.set_cons_succ]
        refine wpAnyH_done (by kernel_rfl) ?_ _
        refine NoPanic.normal ?_
        have FIN : Hid (ownPairs V3 w.heap.size (.slice na (q + 1) nc) (q + 1) x ∧ Below w.heap.size w V3) := (show _ ∧ _ from ⟨ho3, b3⟩)
        clear hHeld hHeld2 hHeld3 H b12 rN bw2 bww HO2 e1 e2 PF hr ho3 hg3 hat3 b3
        go_wp2
        exact ⟨⟨q + 1, na, nc, by omega, rfl, by go_num, FIN.out.1, FIN.out.2⟩, by simp [intOf]; omega⟩)
      have ST21 : Hid (∀ (p1 : Nat), ∀ (ua : Option Addr) (uc : Nat), ∀ (p2 : Nat), ∀ W : World, pq wr W (some ((.slice ua (x q).1.length uc), (x q).1)) (some ((.slice (some ⟨p2, 0, none⟩) 0 0), [])) → G 5 (((l0.setIfInBounds 1 true).setIfInBounds 7 true).setIfInBounds 8 true) (((a0.put (some 12) (.slice (some ⟨p1, 0, none⟩) 0 0)).put (some 18) (.slice ua (x q).1.length uc)).put (some 19) (.slice (some ⟨p2, 0, none⟩) 0 0)) W) := (show ∀ (p1 : Nat), ∀ (ua : Option Addr) (uc : Nat), ∀ (p2 : Nat), ∀ W : World, pq wr W (some ((.slice ua (x q).1.length uc), (x q).1)) (some ((.slice (some ⟨p2, 0, none⟩) 0 0), [])) → G 5 (((l0.setIfInBounds 1 true).setIfInBounds 7 true).setIfInBounds 8 true) (((a0.put (some 12) (.slice (some ⟨p1, 0, none⟩) 0 0)).put (some 18) (.slice ua (x q).1.length uc)).put (some 19) (.slice (some ⟨p2, 0, none⟩) 0 0)) W from by
        intro p1 ua uc p2 W H
        rw [HA0.out, HL0.out, HG.out]
        try simp only [Act.put, List.setIfInBounds_toArray, List.set_cons_zero, List.set_cons_succ]
        refine take_one (i := 14) rfl (by kernel_rfl) rfl (fun K hK => ?_)
        obtain ⟨u, W2, hr, H2⟩ := H.swap.fill (FA.out W (HBR.out.trans (H.1.mono HBR.out.size))).2 (by have := HXQ.out; omega)
        replace H2 := H2.swap
        obtain ⟨va2, vc2, rfl⟩ := (H2.2.2.1 _ _ rfl).slen
        refine wp_append_run (.tmp 19) (.tmp 24) 23 rfl rfl rfl hr ?_
        refine hK.out _ _ (HBR.out.trans (H2.1.mono HBR.out.size)) (fun hHeld => ?_)
        try simp only [Act.put, List.setIfInBounds_toArray, List.set_cons_zero, List.set_cons_succ]
        have T := ST22.out p1 ua uc p2 va2 vc2 W2 H2
        rw [HA0.out, HL0.out, HG.out] at T
        try simp only [Act.put, List.setIfInBounds_toArray, List.set_cons_zero, List.set_cons_succ] at T
        exact lcongK (by kernel_rfl) T)
      have ST20 : Hid (∀ (p1 : Nat), ∀ (ua : Option Addr) (uc : Nat), ∀ W : World, pq wr W (some ((.slice ua (x q).1.length uc), (x q).1)) none → G 6 ((l0.setIfInBounds 1 true).setIfInBounds 7 true) ((a0.put (some 12) (.slice (some ⟨p1, 0, none⟩) 0 0)).put (some 18) (.slice ua (x q).1.length uc)) W) := (show ∀ (p1 : Nat), ∀ (ua : Option Addr) (uc : Nat), ∀ W : World, pq wr W (some ((.slice ua (x q).1.length uc), (x q).1)) none → G 6 ((l0.setIfInBounds 1 true).setIfInBounds 7 true) ((a0.put (some 12) (.slice (some ⟨p1, 0, none⟩) 0 0)).put (some 18) (.slice ua (x q).1.length uc)) W from by
        intro p1 ua uc W H
        rw [HA0.out, HL0.out, HG.out]
        try simp only [Act.put, List.setIfInBounds_toArray, List.set_cons_zero, List.set_cons_succ]
        refine take_one (i := 8) rfl (by kernel_rfl) rfl (fun K hK => ?_)
        refine wp_of_run (exec_bslice0' 23 0 rfl (build_b0 W)) ?_
        have H2 := (H.swap.make).swap
        refine hK.out _ _ (HBR.out.trans (H2.1.mono HBR.out.size)) (fun hHeld => ?_)
        try simp only [Act.put, List.setIfInBounds_toArray, List.set_cons_zero, List.set_cons_succ]
        have T := ST21.out p1 ua uc W.heap.size (W.alloc (.cells #[] 5)) H2
        rw [HA0.out, HL0.out, HG.out] at T
        try simp only [Act.put, List.setIfInBounds_toArray, List.set_cons_zero, List.set_cons_succ] at T
        exact lcongK (by kernel_rfl) T)
      have ST11 : Hid (∀ (p1 : Nat), ∀ (p2 : Nat), ∀ W : World, pq wr W (some ((.slice (some ⟨p1, 0, none⟩) 0 0), [])) (some ((.slice (some ⟨p2, 0, none⟩) 0 0), [])) → G 6 ((l0.setIfInBounds 1 true).setIfInBounds 8 true) ((a0.put (some 12) (.slice (some ⟨p1, 0, none⟩) 0 0)).put (some 19) (.slice (some ⟨p2, 0, none⟩) 0 0)) W) := (show ∀ (p1 : Nat), ∀ (p2 : Nat), ∀ W : World, pq wr W (some ((.slice (some ⟨p1, 0, none⟩) 0 0), [])) (some ((.slice (some ⟨p2, 0, none⟩) 0 0), [])) → G 6 ((l0.setIfInBounds 1 true).setIfInBounds 8 true) ((a0.put (some 12) (.slice (some ⟨p1, 0, none⟩) 0 0)).put (some 19) (.slice (some ⟨p2, 0, none⟩) 0 0)) W from by
        intro p1 p2 W H
        rw [HA0.out, HL0.out, HG.out]
        try simp only [Act.put, List.setIfInBounds_toArray, List.set_cons_zero, List.set_cons_succ]
        refine take_one (i := 7) rfl (by kernel_rfl) rfl (fun K hK => ?_)
        obtain ⟨u, W2, hr, H2⟩ := H.fill (FA.out W (HBR.out.trans (H.1.mono HBR.out.size))).1 (by have := HXQ.out; omega)
        obtain ⟨ua, uc, rfl⟩ := (H2.2.1 _ _ rfl).slen
        refine wp_append_run (.tmp 12) (.tmp 17) 23 rfl rfl rfl hr ?_
        refine hK.out _ _ (HBR.out.trans (H2.1.mono HBR.out.size)) (fun hHeld => ?_)
        try simp only [Act.put, List.setIfInBounds_toArray, List.set_cons_zero, List.set_cons_succ]
        have T := ST21.out p1 ua uc p2 W2 H2
        rw [HA0.out, HL0.out, HG.out] at T
        try simp only [Act.put, List.setIfInBounds_toArray, List.set_cons_zero, List.set_cons_succ] at T
        exact lcongK (by kernel_rfl) T)
      have ST10 : Hid (∀ (p1 : Nat), ∀ W : World, pq wr W (some ((.slice (some ⟨p1, 0, none⟩) 0 0), [])) none → G 7 (l0.setIfInBounds 1 true) (a0.put (some 12) (.slice (some ⟨p1, 0, none⟩) 0 0)) W) := (show ∀ (p1 : Nat), ∀ W : World, pq wr W (some ((.slice (some ⟨p1, 0, none⟩) 0 0), [])) none → G 7 (l0.setIfInBounds 1 true) (a0.put (some 12) (.slice (some ⟨p1, 0, none⟩) 0 0)) W from by
        intro p1 W H
        rw [HA0.out, HL0.out, HG.out]
        try simp only [Act.put, List.setIfInBounds_toArray, List.set_cons_zero, List.set_cons_succ]
        refine take_pair (i := 7) (j := 8) rfl rfl (by kernel_rfl) rfl rfl (fun K hK => ?_) (fun K hK => ?_)
        · obtain ⟨u, W2, hr, H2⟩ := H.fill (FA.out W (HBR.out.trans (H.1.mono HBR.out.size))).1 (by have := HXQ.out; omega)
          obtain ⟨ua, uc, rfl⟩ := (H2.2.1 _ _ rfl).slen
          refine wp_append_run (.tmp 12) (.tmp 17) 23 rfl rfl rfl hr ?_
          refine hK.out _ _ (HBR.out.trans (H2.1.mono HBR.out.size)) (fun hHeld => ?_)
          try simp only [Act.put, List.setIfInBounds_toArray, List.set_cons_zero, List.set_cons_succ]
          have T := ST20.out p1 ua uc W2 H2
          rw [HA0.out, HL0.out, HG.out] at T
          try simp only [Act.put, List.setIfInBounds_toArray, List.set_cons_zero, List.set_cons_succ] at T
          exact lcongK (by kernel_rfl) T
        · refine wp_of_run (exec_bslice0' 23 0 rfl (build_b0 W)) ?_
          have H2 := (H.swap.make).swap
          refine hK.out _ _ (HBR.out.trans (H2.1.mono HBR.out.size)) (fun hHeld => ?_)
          try simp only [Act.put, List.setIfInBounds_toArray, List.set_cons_zero, List.set_cons_succ]
          have T := ST11.out p1 W.heap.size (W.alloc (.cells #[] 5)) H2
          rw [HA0.out, HL0.out, HG.out] at T
          try simp only [Act.put, List.setIfInBounds_toArray, List.set_cons_zero, List.set_cons_succ] at T
          exact lcongK (by kernel_rfl) T)
      have ST01 : Hid (∀ (p2 : Nat), ∀ W : World, pq wr W none (some ((.slice (some ⟨p2, 0, none⟩) 0 0), [])) → G 7 (l0.setIfInBounds 8 true) (a0.put (some 19) (.slice (some ⟨p2, 0, none⟩) 0 0)) W) := (show ∀ (p2 : Nat), ∀ W : World, pq wr W none (some ((.slice (some ⟨p2, 0, none⟩) 0 0), [])) → G 7 (l0.setIfInBounds 8 true) (a0.put (some 19) (.slice (some ⟨p2, 0, none⟩) 0 0)) W from by
        intro p2 W H
        rw [HA0.out, HL0.out, HG.out]
        try simp only [Act.put, List.setIfInBounds_toArray, List.set_cons_zero, List.set_cons_succ]
        refine take_one (i := 1) rfl (by kernel_rfl) rfl (fun K hK => ?_)
        refine wp_of_run (exec_bslice0' 23 0 rfl (build_b0 W)) ?_
        have H2 := H.make
        refine hK.out _ _ (HBR.out.trans (H2.1.mono HBR.out.size)) (fun hHeld => ?_)
        try simp only [Act.put, List.setIfInBounds_toArray, List.set_cons_zero, List.set_cons_succ]
        have T := ST11.out W.heap.size p2 (W.alloc (.cells #[] 5)) H2
        rw [HA0.out, HL0.out, HG.out] at T
        try simp only [Act.put, List.setIfInBounds_toArray, List.set_cons_zero, List.set_cons_succ] at T
        exact lcongK (by kernel_rfl) T)
      have ST00 : Hid (∀ W : World, pq wr W none none → G 8 l0 a0 W) := (show ∀ W : World, pq wr W none none → G 8 l0 a0 W from by
        intro W H
        rw [HA0.out, HL0.out, HG.out]
        try simp only [Act.put, List.setIfInBounds_toArray, List.set_cons_zero, List.set_cons_succ]
        refine take_pair (i := 1) (j := 8) rfl rfl (by kernel_rfl) rfl rfl (fun K hK => ?_) (fun K hK => ?_)
        · refine wp_of_run (exec_bslice0' 23 0 rfl (build_b0 W)) ?_
          have H2 := H.make
          refine hK.out _ _ (HBR.out.trans (H2.1.mono HBR.out.size)) (fun hHeld => ?_)
          try simp only [Act.put, List.setIfInBounds_toArray, List.set_cons_zero, List.set_cons_succ]
          have T := ST10.out W.heap.size (W.alloc (.cells #[] 5)) H2
          rw [HA0.out, HL0.out, HG.out] at T
          try simp only [Act.put, List.setIfInBounds_toArray, List.set_cons_zero, List.set_cons_succ] at T
          exact lcongK (by kernel_rfl) T
        · refine wp_of_run (exec_bslice0' 23 0 rfl (build_b0 W)) ?_
          have H2 := (H.swap.make).swap
          refine hK.out _ _ (HBR.out.trans (H2.1.mono HBR.out.size)) (fun hHeld => ?_)
          try simp only [Act.put, List.setIfInBounds_toArray, List.set_cons_zero, List.set_cons_succ]
          have T := ST01.out W.heap.size (W.alloc (.cells #[] 5)) H2
          rw [HA0.out, HL0.out, HG.out] at T
          try simp only [Act.put, List.setIfInBounds_toArray, List.set_cons_zero, List.set_cons_succ] at T
          exact lcongK (by kernel_rfl) T)
      exact ST00.out W H
    · obtain rfl : q = n := by omega
      have q1 : ¬ (q : Int) < (q : Int) := by omega
      clear hbr
      go_wp2
      go_ret
      exact ⟨_, rfl, HOS.out, HBR.out⟩
end Go.Proofs.YtkgegihkhdgdoaaDoor

/- The document's copy of what is shown. -/
namespace Go.Proofs.YtkgegihkhdgdoaaDoor
set_option linter.unusedSimpArgs false
set_option linter.unusedVariables false
open Go.RowKit Go.Deep

theorem ownPairs.one {w : World} {B : Nat} {v : Value} {x : Nat → Pr} (h : ownPairs w B v 1 x) : ∃ g c ka kcap va vcap, v = .slice (some ⟨g, 0, none⟩) 1 c ∧ B ≤ g ∧ g < w.heap.size ∧ (∀ j, j < 2 → w.cell? ⟨g, 0 + j, none⟩ = some (prG (.slice ka (x 0).1.length kcap) (.slice va (x 0).2.length vcap) j)) ∧ pairFar w B v (prG (.slice ka (x 0).1.length kcap) (.slice va (x 0).2.length vcap)) (x 0) := by
  obtain ⟨U, hU, ho, hy⟩ := id h
  obtain ⟨u, hu, hf⟩ := hy 0 (by omega)
  obtain ⟨kc, vc, rfl, h1, h2⟩ := hf.now
  obtain ⟨ka, kcap, rfl, _⟩ := h1.slice
  obtain ⟨va, vcap, rfl, _⟩ := h2.slice
  obtain ⟨a, c, rfl, hc, hm, hg⟩ := ownsRow_slice ho
  obtain ⟨g, rfl, hlt, _, hcell⟩ := hg (by omega)
  refine ⟨g, c, ka, kcap, va, vcap, rfl, (h.block g rfl).1, hlt, fun j hj => ?_, hf⟩
  have := hcell _ _ (c2s_get U 0 j _ hu hj)
  rw [Nat.zero_mul, Nat.zero_add] at this
  rw [Nat.zero_add]; exact this
/-- the loop of Copy: box b8 holds the copy so far. -/
def cpL (w3 : World) (b8 : Nat) (cnt : Int) (q : Nat) (y : Nat → Sp) (wr : World) : Prop := But w3.heap.size b8 w3 wr ∧ ∃ oa oc, wr.rowIs b8 29 2 (seG cnt (.slice oa q oc)) ∧ ownSpots wr w3.heap.size b8 (.slice oa q oc) q y
end Go.Proofs.YtkgegihkhdgdoaaDoor

/- Bytes as strings, in their order. Plain mathematics. -/
namespace Go.Proofs.YtkgegihkhdgdoaaDoor
set_option linter.unusedVariables false

theorem u8_lt (a b : Int) (ha : 0 ≤ a ∧ a ≤ 255) (hb : 0 ≤ b ∧ b ≤ 255) : (UInt8.ofNat a.toNat < UInt8.ofNat b.toNat) ↔ a < b := by
  rw [UInt8.lt_iff_toNat_lt, UInt8.toNat_ofNat', UInt8.toNat_ofNat']; omega
theorem u8_eq (a b : Int) (ha : 0 ≤ a ∧ a ≤ 255) (hb : 0 ≤ b ∧ b ≤ 255) : (UInt8.ofNat a.toNat = UInt8.ofNat b.toNat) ↔ a = b := by
  rw [← UInt8.toNat_inj, UInt8.toNat_ofNat', UInt8.toNat_ofNat']; omega
theorem bytesLess_cmp : ∀ (x y : List Int), (∀ b ∈ x, 0 ≤ b ∧ b ≤ 255) → (∀ b ∈ y, 0 ≤ b ∧ b ≤ 255) → Op.bytesLess (x.map fun n => UInt8.ofNat n.toNat) (y.map fun n => UInt8.ofNat n.toNat) = decide (cmpI x y < 0)
  | [], [], _, _ => rfl
  | [], _ :: _, _, _ => rfl
  | _ :: _, [], _, _ => rfl
  | a :: x, b :: y, hx, hy => by
    have ha := hx a (by simp)
    have hb := hy b (by simp)
    rw [List.map_cons, List.map_cons, Op.bytesLess, cmpI, bytesLess_cmp x y (fun c hc => hx c (by simp [hc])) (fun c hc => hy c (by simp [hc]))]
    by_cases h : a < b
    · rw [if_pos h, decide_eq_true ((u8_lt a b ha hb).2 h)]; rfl
    · rw [if_neg h, decide_eq_false (fun e => h ((u8_lt a b ha hb).1 e)), Bool.false_or]
      by_cases h' : b < a
      · have e : (UInt8.ofNat a.toNat == UInt8.ofNat b.toNat) = false := by
          rw [beq_eq_false_iff_ne]; intro e; have := (u8_eq a b ha hb).1 e; omega
        rw [if_pos h', e]; rfl
      · have e : (UInt8.ofNat a.toNat == UInt8.ofNat b.toNat) = true := by
          rw [beq_iff_eq]; exact (u8_eq a b ha hb).2 (by omega)
        rw [if_neg h', e, Bool.true_and]
theorem mem_byte {l : List Int} (h : ∀ i, 0 ≤ l.getD i 0 ∧ l.getD i 0 ≤ 255) : ∀ b ∈ l, 0 ≤ b ∧ b ≤ 255 := fun b hb => by
  obtain ⟨i, hi, rfl⟩ := List.getElem_of_mem hb
  have := h i
  rw [List.getD_eq_getElem?_getD, List.getElem?_eq_getElem hi] at this
  exact this
theorem less_cmp {w w' : World} {v u : Value} {l k : List Int} (hv : anyBytes w v l) (hu : anyBytes w' u k) : Op.bytesLess (strOf l).toList (strOf k).toList = decide (cmpI l k < 0) := by
  have e : ∀ l : List Int, (strOf l).toList = l.map fun n => UInt8.ofNat n.toNat := fun l => by rw [Go.Lib.toList_data]; simp [strOf]
  rw [e, e, bytesLess_cmp l k (mem_byte hv.byte) (mem_byte hu.byte)]
theorem beq_cmp {w w' : World} {v u : Value} {l k : List Int} (hv : anyBytes w v l) (hu : anyBytes w' u k) : ((strOf l).toList == (strOf k).toList) = decide (cmpI l k = 0) := by
  rw [str_beq]
  refine decide_eq_decide.mpr ⟨fun h => ?_, fun h => by rw [cmpI_zero _ _ h]⟩
  rw [strOf_inj hv.byte hu.byte h]; exact cmpI_self _
end Go.Proofs.YtkgegihkhdgdoaaDoor

/- The document's May and Find; the laws' alike. -/
namespace Go.Proofs.YtkgegihkhdgdoaaDoor
set_option linter.unusedSimpArgs false
set_option linter.unusedVariables false
open Go.RowKit Go.Deep

theorem conv_drew {w W : World} (hb : Below w.heap.size w W) {v : Value} {l : List Int} (h : ∀ wz, Below w.heap.size w wz → anyBytes wz v l) : ∀ n, (convert 23 9 v).run Tryd.prog (W.drewN n) = .ok (.string (strOf l)) (W.drewN n) := fun n => convK (W.drewN n) _ _ (h _ (hb.drewN n))
theorem beq_not {a b : ByteArray} (h : (a.toList == b.toList) = false) : ¬ a.toList = b.toList := fun e => by rw [beq_eq_false_iff_ne] at h; exact h e
set_option maxHeartbeats 4000000 in
set_option maxRecDepth 100000 in
theorem rmay_any (n : Nat) (v : Value) (x : Nat → Pr) (w : World) (hp : pairsAt w v n x) :
    Calls Tryd.prog 14 #[v] w fun e w' => e = .returned (.bool (mayB x n)) ∧ Below w.heap.size w w' := by
  have hnm : (n : Int) ≤ 9223372036854775807 := by
    obtain ⟨_, cap, _, h2, h3, _⟩ := hp; unfold maxLen at h3; omega
  have HP : Hid (pairsAt w v n x) := (show pairsAt w v n x from hp)
  have hsl : ∃ a cap, v = .slice a n cap := by
    obtain ⟨a, cap, e, _⟩ := hp; exact ⟨a, cap, e⟩
  obtain ⟨va, vc, rfl⟩ := hsl
  clear hp
  have hn0 : (0 : Int) ≤ (n : Int) := by omega
  go_enter Tryd.func14, Tryd.ntmps14
  go_wp2_with fail
  go_loopw [3] (fun i wr => ∃ j : Nat, (j + 1 ≤ n ∨ j = 0) ∧ i = .int .i64 ((j : Int) + 1) ∧ (∀ i, i + 1 < j + 1 → cmpI (x i).1 (x (i + 1)).1 < 0) ∧ Below w.heap.size w wr) (fun i _ => n - (intOf i).toNat)
  case atStart => exact ⟨0, Or.inr rfl, rfl, fun i hi => by omega, Below.refl _ _⟩
  case round =>
    obtain ⟨j, hj, rfl, hall, hb⟩ := hrel
    have p0 : (0 : Int) ≤ (j : Int) := by omega
    have HB : Hid (Below w.heap.size w wr) := (show Below w.heap.size w wr from hb)
    by_cases hlt : j + 1 < n
    · have p1 : (j : Int) + 1 < (n : Int) := by omega
      obtain ⟨g, o, cap, e, hg, _, _, hc⟩ := HP.out.at (by omega)
      injection e with ea _ ec
      subst ea
      subst ec
      obtain ⟨ka, kcap, va1, vcap1, H1⟩ := hc j (by omega)
      obtain ⟨kb, kbcap, va2, vcap2, H2⟩ := hc (j + 1) hlt
      have hjn : j < n := by omega
      have p2 : (j : Int) < (n : Int) := by omega
      have hj0 : (0 : Int) ≤ (j : Int) + 1 := by omega
      have hw1 : IntKind.wrap .i64 (j : Int) = (j : Int) := IntWalk.i64_in _ ⟨by omega, by omega⟩
      have hw2 : IntKind.wrap .i64 ((j : Int) + 1) = (j : Int) + 1 := IntWalk.i64_in _ ⟨by omega, by omega⟩
      have HALL : Hid (∀ i, i + 1 < j + 1 → cmpI (x i).1 (x (i + 1)).1 < 0) := (show _ from hall)
      have s0 := (H1 wr hb).1
      have r0 := (H2 wr hb).1
      have v1 := conv_drew hb (fun wz hz => (H1 wz hz).2.2.1)
      have v2 := conv_drew hb (fun wz hz => (H2 wz hz).2.2.1)
      have L1 := less_cmp (H1 wr hb).2.2.1 (H2 wr hb).2.2.1
      clear H1 H2 hc hall hg
      generalize hA : strOf (x j).1 = A at v1 L1
      generalize hB : strOf (x (j + 1)).1 = B at v2 L1
      clear hA hB hb
      by_cases h0 : cmpI (x j).1 (x (j + 1)).1 < 0
      · rw [decide_eq_true h0] at L1
        have hG : ∀ ty, (binOp .geq ty (.string A) (.string B)) = pure (.bool false) := fun ty => by simp [binOp, Op.stringOp, L1]
        have NX : Hid (∀ i, i + 1 < j + 1 + 1 → cmpI (x i).1 (x (i + 1)).1 < 0) := (show ∀ i, i + 1 < j + 1 + 1 → cmpI (x i).1 (x (i + 1)).1 < 0 from fun i hi => by
          by_cases e : i = j
          · rw [e]; exact h0
          · exact HALL.out i (by omega))
        clear h0
        go_upto_region 4 with fail
        go_quiet (fail)
        go_wp2
        go_light
        exact ⟨⟨j + 1, Or.inl (by omega), by go_num, NX.out, HB.out.drewN _⟩, by simp [intOf]; omega⟩
      · rw [decide_eq_false h0] at L1
        have hG : ∀ ty, (binOp .geq ty (.string A) (.string B)) = pure (.bool true) := fun ty => by simp [binOp, Op.stringOp, L1]
        have EV : Hid (mayB x n = false) := (show mayB x n = false from Bool.eq_false_iff.2 fun e => h0 ((mayB_is x n).1 e j hlt))
        clear h0
        go_upto_region 4 with fail
        go_quiet (fail)
        go_wp2
        go_ret
        exact ⟨by rw [EV.out]; rfl, HB.out.drewN _⟩
    · have p1 : ¬ (j : Int) + 1 < (n : Int) := by omega
      have EV : Hid (mayB x n = true) := (show mayB x n = true from (mayB_is x n).2 fun i hi => hall i (by omega))
      clear hall hb
      go_wp2
      go_ret
      exact ⟨by rw [EV.out]; rfl, HB.out⟩
def findP (n : Nat) (x : Nat → Pr) (key : List Int) (e : Ending) : Prop :=
  (∃ i, i < n ∧ (x i).1 = key ∧ (∀ j, j < i → ¬ (x j).1 = key) ∧ e = .returned (.int .i64 (i : Int))) ∨ ((∀ j, j < n → ¬ (x j).1 = key) ∧ e = .returned (.int .i64 (-1)))
set_option maxHeartbeats 4000000 in
set_option maxRecDepth 100000 in
theorem rfind_any (n : Nat) (v tv : Value) (x : Nat → Pr) (key : List Int) (w : World) (hp : pairsAt w v n x) (hk : anyBytes w tv key) :
    Calls Tryd.prog 45 #[v, tv] w fun e w' => findP n x key e ∧ Below w.heap.size w w' := by
  obtain ⟨a, cap, hv, hnc, hcm, _⟩ := (id hp : pairsAt w v n x)
  have hnm : (n : Int) ≤ 9223372036854775807 := by unfold maxLen at hcm; omega
  have HP : Hid (pairsAt w v n x) := (show pairsAt w v n x from hp)
  have HK : Hid (anyBytes w tv key) := (show anyBytes w tv key from hk)
  obtain ⟨ta, tcap, rfl, _⟩ := hk.slice
  subst hv
  have hn0 : (0 : Int) ≤ (n : Int) := by omega
  clear hp hk hnc hcm
  go_enter Tryd.func45, Tryd.ntmps45
  go_wp2_with fail
  go_loopw [5] (fun i wr => ∃ k : Nat, k ≤ n ∧ i = .int .i64 (k : Int) ∧ (∀ j, j < k → ¬ (x j).1 = key) ∧ Below w.heap.size w wr) (fun i _ => n - (intOf i).toNat)
  case atStart => exact ⟨0, by omega, rfl, fun j hj => by omega, Below.refl _ _⟩
  case round =>
    obtain ⟨k, hkn, rfl, hne, hb⟩ := hrel
    have p0 : (0 : Int) ≤ (k : Int) := by omega
    have HNE : Hid (∀ j, j < k → ¬ (x j).1 = key) := (show ∀ j, j < k → ¬ (x j).1 = key from hne)
    have HB : Hid (Below w.heap.size w wr) := (show Below w.heap.size w wr from hb)
    clear hne
    by_cases hlt : k < n
    · have p1 : (k : Int) < (n : Int) := by omega
      obtain ⟨g, o, cap', e, hg, _, _, hcell⟩ := HP.out.at (by omega)
      injection e with e1 e2 e3
      subst e1
      subst e3
      obtain ⟨ka, kcap, va, vcap, H⟩ := hcell k hlt
      have s0 := (H wr hb).1
      have v1 := conv_drew hb (fun wz hz => (H wz hz).2.2.1)
      have v2 := conv_drew hb (fun wz hz => HK.out.below hz (Nat.le_refl _))
      have E1 : ((strOf (x k).1).toList == (strOf key).toList) = decide ((x k).1 = key) := by
        rw [str_beq]; exact decide_eq_decide.mpr (strOf_eq (H wr hb).2.2.1 HK.out)
      clear H hcell hg
      generalize hA : strOf (x k).1 = A at v1 E1
      generalize hB : strOf key = B at v2 E1
      clear hA hB hb
      by_cases h0 : (x k).1 = key
      · rw [decide_eq_true h0] at E1
        have hG : ∀ ty, (binOp .eql ty (.string A) (.string B)) = pure (.bool true) := fun ty => by simp [binOp, Op.stringOp, E1]
        have FI : Hid (findP n x key (.returned (.int .i64 (k : Int)))) := (show _ from Or.inl ⟨k, hlt, h0, HNE.out, rfl⟩)
        clear h0
        go_upto_region 4 with fail
        go_quiet (fail)
        go_wp2
        go_ret
        exact ⟨FI.out, HB.out.drewN _⟩
      · rw [decide_eq_false h0] at E1
        have E2 := beq_not E1
        have hG : ∀ ty, (binOp .eql ty (.string A) (.string B)) = pure (.bool false) := fun ty => by simp [binOp, Op.stringOp, E1]
        have NX : Hid (∀ j, j < k + 1 → ¬ (x j).1 = key) := (show ∀ j, j < k + 1 → ¬ (x j).1 = key from fun j hj => by
          by_cases e : j = k
          · rw [e]; exact h0
          · exact HNE.out j (by omega))
        clear h0
        go_upto_region 4 with fail
        go_quiet (fail)
        go_wp2
        go_light
        exact ⟨⟨k + 1, by omega, by go_num, NX.out, HB.out.drewN _⟩, by simp [intOf]; omega⟩
    · obtain rfl : k = n := by omega
      have p1 : ¬ (k : Int) < (k : Int) := by omega
      have FI : Hid (findP k x key (.returned (.int .i64 (-1)))) := (show _ from Or.inr ⟨HNE.out, rfl⟩)
      clear hb
      go_wp2
      go_ret
      exact ⟨FI.out, HB.out⟩
end Go.Proofs.YtkgegihkhdgdoaaDoor

/- How long a path is. -/
namespace Go.Proofs.YtkgegihkhdgdoaaDoor
open Go.RowKit Go.Deep

theorem wayI_there {n p : Nat} (h : p < n) : wayI (n : Int) (p : Int) = wayL n p := by
  unfold wayI
  rw [if_pos (by simp [thereB]; omega), Int.toNat_natCast, Int.toNat_natCast]
theorem pathI_len {L : List (List Int)} {p : Nat} (h : p < L.length) (hL : L.length ≤ 1000) : (pathI L (p : Int)).length ≤ 63 := by
  rw [pathI_there h, pathS_len, ← wayI_there h]
  exact wayI_len _ _ (by omega)
end Go.Proofs.YtkgegihkhdgdoaaDoor

/- The document's There. -/
namespace Go.Proofs.YtkgegihkhdgdoaaDoor
set_option linter.unusedSimpArgs false
set_option linter.unusedVariables false
open Go.RowKit Go.Deep

theorem rthere_any (n at_ : Int) (w : World) : Calls Tryd.prog 76 #[.int .i64 n, .int .i64 at_] w fun e w' => e = .returned (.bool (thereB n at_)) ∧ w' = w := by
  by_cases h0 : 0 ≤ at_
  · have h0' : -1 < at_ := by omega
    by_cases h1 : at_ < n
    · have E : Hid (thereB n at_ = true) := (show thereB n at_ = true from by simp [thereB, h0, h1])
      go_enter Tryd.func76, Tryd.ntmps76
      go_wp2
      go_ret
      exact ⟨by rw [E.out]; rfl, rfl⟩
    · have E : Hid (thereB n at_ = false) := (show thereB n at_ = false from by simp [thereB, h1])
      go_enter Tryd.func76, Tryd.ntmps76
      go_wp2
      go_ret
      exact ⟨by rw [E.out]; rfl, rfl⟩
  · have h0' : ¬ -1 < at_ := by omega
    have E : Hid (thereB n at_ = false) := (show thereB n at_ = false from by simp [thereB, h0])
    go_enter Tryd.func76, Tryd.ntmps76
    go_wp2
    go_ret
    exact ⟨by rw [E.out]; rfl, rfl⟩
end Go.Proofs.YtkgegihkhdgdoaaDoor

/- The document's Path. -/
namespace Go.Proofs.YtkgegihkhdgdoaaDoor
set_option linter.unusedSimpArgs false
set_option linter.unusedVariables false
open Go.RowKit Go.Deep

theorem pathI_left {L : List (List Int)} {p : Nat} (h : 2 ≤ L.length) (hp : p < halfN L.length) : pathI L (p : Int) = pathI (L.take (halfN L.length)) (p : Int) ++ [rootS (L.drop (halfN L.length))] := by
  have ht := half_take h
  rw [pathI_there (by omega), pathI_there (by omega), pathS_left h hp]
theorem pathI_right {L : List (List Int)} {p : Nat} (h : 2 ≤ L.length) (hp : ¬ p < halfN L.length) (hl : p < L.length) : pathI L (p : Int) = pathI (L.drop (halfN L.length)) ((p : Int) - (halfN L.length : Int)) ++ [rootS (L.take (halfN L.length))] := by
  have ht := half_take h
  rw [show ((p : Int) - (halfN L.length : Int)) = ((p - halfN L.length : Nat) : Int) by omega, pathI_there hl, pathI_there (by omega), pathS_right h hp]
set_option maxHeartbeats 4000000 in
set_option maxRecDepth 100000 in
theorem rpath_any : ∀ (n : Nat) (L : List (List Int)) (at_ : Int) (v : Value) (w : World), L.length ≤ n → n ≤ 1000 → -9223372036854775808 ≤ at_ → at_ ≤ 9223372036854775807 → sumsAt w v L →
    Calls Tryd.prog 46 #[v, .int .i64 at_] w fun e w' => ∃ u, e = .returned u ∧ newSums w' w.heap.size u (pathI L at_) ∧ Below w.heap.size w w' := by
  intro n
  induction n using Nat.strongRecOn with
  | _ n ih =>
  intro L at_ v w hn h1000 a0 a1 h
  have X := rthere_any (L.length : Int) at_ w
  have hsl : ∃ a cap, v = .slice a L.length cap := by
    obtain ⟨_, a, cap, e, _⟩ := h; exact ⟨a, cap, e⟩
  have q1 : (L.length : Int) ≤ 1000 := by omega
  have q2 : (0 : Int) ≤ (L.length : Int) := by omega
  cases hth : thereB (L.length : Int) at_ with
  | false =>
    have E : Hid (pathI L at_ = []) := (show _ from pathI_none hth)
    rw [hth] at X
    obtain ⟨va, vc, rfl⟩ := hsl
    clear hth ih h
    go_enter Tryd.func46, Tryd.ntmps46
    go_wp2_with fail
    refine X.mono ?_
    rintro e w' ⟨rfl, hw⟩
    obtain rfl := hw.symm
    clear X hw
    go_wp2
    go_ret
    exact ⟨_, rfl, by rw [E.out]; exact newSums.nil _ _, Below.refl _ _⟩
  | true =>
    have hab : 0 ≤ at_ ∧ at_ < (L.length : Int) := by simpa [thereB] using hth
    obtain ⟨p, rfl⟩ : ∃ p : Nat, at_ = (p : Int) := ⟨at_.toNat, by omega⟩
    have hp : p < L.length := by omega
    rw [hth] at X
    by_cases e1 : L.length = 1
    · have E : Hid (pathI L (p : Int) = []) := (show pathI L (p : Int) = [] from by rw [pathI_there hp, pathS_end (by omega)])
      have i1 : (L.length : Int) = 1 := by omega
      obtain ⟨va, vc, rfl⟩ := hsl
      clear hth ih h
      go_enter Tryd.func46, Tryd.ntmps46
      go_wp2_with fail
      rw [e1] at X
      refine X.mono ?_
      rintro e w' ⟨rfl, hw⟩
      obtain rfl := hw.symm
      clear X hw
      go_wp2
      go_ret
      exact ⟨_, rfl, by rw [E.out]; exact newSums.nil _ _, Below.refl _ _⟩
    have h2 : 2 ≤ L.length := by omega
    have hh := half_take h2
    have XH := rhalf_any (L.length : Int) (by omega) (by omega) w
    have hI : halfI (L.length : Int) = (halfN L.length : Int) := by unfold halfI; rw [Int.toNat_natCast]
    rw [hI] at XH
    obtain ⟨ua, ra, sa, oa, xa, ya, rfl⟩ := h.to' (halfN L.length) (by omega)
    obtain ⟨ub, rb, sb, ob, xb, yb, rfl⟩ := h.from' (halfN L.length) (by omega)
    have PLl := pathI_left (L := L) (p := p) h2
    have PLr := fun c => pathI_right (L := L) (p := p) h2 c hp
    obtain ⟨TL, hTL⟩ : ∃ TL, TL = L.take (halfN L.length) := ⟨_, rfl⟩
    obtain ⟨DL, hDL⟩ : ∃ DL, DL = L.drop (halfN L.length) := ⟨_, rfl⟩
    rw [← hTL] at sa PLl PLr hh
    rw [← hDL] at sb PLl PLr hh
    obtain ⟨m, hm⟩ : ∃ m, m = halfN L.length := ⟨_, rfl⟩
    rw [← hm] at hh PLl PLr XH ra rb
    have hsT : isSum (rootS TL) := rootS_sum sa.1
    have hsD : isSum (rootS DL) := rootS_sum sb.1
    have m0 : (0 : Int) ≤ (m : Int) := by omega
    have m1 : (m : Int) < (L.length : Int) := by omega
    have m2 : (m : Int) ≤ (L.length : Int) := by omega
    have e2 : ¬ (L.length : Int) = 1 := by omega
    have p0 : (0 : Int) ≤ (p : Int) := by omega
    have p1 : (p : Int) < (L.length : Int) := by omega
    have hxa : ∃ z, z = halfN L.length := ⟨_, rfl⟩
    rw [← hm] at sa sb
    obtain ⟨va, vc, rfl⟩ := hsl
    have szl : Hid (∀ wz, Below w.heap.size w wz → sumsAt wz (.slice xa m ya) TL ∧ sumsAt wz (.slice xb (L.length - m) yb) DL) := (show _ from fun wz hz => ⟨sa.below hz (Nat.le_refl _), sb.below hz (Nat.le_refl _)⟩)
    by_cases hl : p < m
    · have Y := ih (n - 1) (by omega) TL (p : Int) _ w.drew (by omega) (by omega) (by omega) (by omega) (szl.out w.drew ((Below.refl _ _).drew)).1
      have EP : Hid (pathI L (p : Int) = pathI TL (p : Int) ++ [rootS DL]) := (show _ from PLl hl)
      have HLn : Hid ((pathI TL (p : Int)).length ≤ 63 ∧ TL.length ≤ 1000 ∧ DL.length ≤ 1000) := (show _ from ⟨pathI_len (by omega) (by omega), by omega, by omega⟩)
      have hli : (p : Int) < (m : Int) := by omega
      have HSD : Hid _ := hsD
      clear hth hab ih h sa sb PLl PLr hh hI hTL hDL hm hsT hsD hn e1 h2 hxa oa ob
      go_enter Tryd.func46, Tryd.ntmps46
      go_wp2_with fail
      refine X.mono ?_
      rintro e w' ⟨rfl, hw⟩
      obtain rfl := hw.symm
      clear X hw
      go_wp2_with fail
      refine XH.mono ?_
      rintro e w' ⟨rfl, hw⟩
      obtain rfl := hw.symm
      clear XH hw
      go_upto_region 5 with fail
      refine wp_region_noPanic ?_
      refine wp_region_held_drew (S := fun w' => True) (by kernel_rfl) trivial (fun hHeld => ?_)
      refine take_op (i := 0) (v := ?va0) rfl (by kernel_rfl) (by kernel_rfl) (by kernel_rfl) (fun _ _ _ h => h) rfl hHeld ?ya0 ?ra0
      case ya0 => (intro wz hz; go_simp; first | done | with_reducible rfl)
      try simp only [Act.put, List.setIfInBounds_toArray, List.set_cons_zero, List.set_cons_succ]
      refine take_op (i := 1) (v := ?va1) rfl (by kernel_rfl) (by kernel_rfl) (by kernel_rfl) (fun _ _ _ h => h) rfl hHeld ?ya1 ?ra1
      case ya1 => (intro wz hz; go_simp; first | done | with_reducible rfl)
      try simp only [Act.put, List.setIfInBounds_toArray, List.set_cons_zero, List.set_cons_succ]
      refine take_op (i := 2) (v := ?va2) rfl (by kernel_rfl) (by kernel_rfl) (by kernel_rfl) (fun _ _ _ h => h) rfl hHeld ?ya2 ?ra2
      case ya2 => (intro wz hz; have hcz := ra wz; go_simp; first | done | with_reducible rfl)
      try simp only [Act.put, List.setIfInBounds_toArray, List.set_cons_zero, List.set_cons_succ]
      refine take_op (i := 3) (v := ?va3) rfl (by kernel_rfl) (by kernel_rfl) (by kernel_rfl) (fun _ _ _ h => h) rfl hHeld ?ya3 ?ra3
      case ya3 => (intro wz hz; go_simp; first | done | with_reducible rfl)
      try simp only [Act.put, List.setIfInBounds_toArray, List.set_cons_zero, List.set_cons_succ]
      refine take_op (i := 5) (v := ?va5) rfl (by kernel_rfl) (by kernel_rfl) (by kernel_rfl) (fun _ _ _ h => h) rfl hHeld ?ya5 ?ra5
      case ya5 => (intro wz hz; go_simp; first | done | with_reducible rfl)
      try simp only [Act.put, List.setIfInBounds_toArray, List.set_cons_zero, List.set_cons_succ]
      refine take_op (i := 6) (v := ?va6) rfl (by kernel_rfl) (by kernel_rfl) (by kernel_rfl) (fun _ _ _ h => h) rfl hHeld ?ya6 ?ra6
      case ya6 => (intro wz hz; go_simp; first | done | with_reducible rfl)
      try simp only [Act.put, List.setIfInBounds_toArray, List.set_cons_zero, List.set_cons_succ]
      refine take_op (i := 7) (v := ?va7) rfl (by kernel_rfl) (by kernel_rfl) (by kernel_rfl) (fun _ _ _ h => h) rfl hHeld ?ya7 ?ra7
      case ya7 => (intro wz hz; have hcz := rb wz; go_simp; first | done | with_reducible rfl)
      try simp only [Act.put, List.setIfInBounds_toArray, List.set_cons_zero, List.set_cons_succ]
      refine take_one (i := 4) rfl (by kernel_rfl) rfl (fun K hK => ?_)
      go_simp
      refine Calls.mono Y ?_
      rintro e x1 ⟨u1, rfl, n1, b1⟩
      clear Y
      have b1' : Below w.heap.size w x1 := ((Below.refl w.heap.size w).drew).trans b1
      have Y2 := rroot_any 1000 _ _ x1 HLn.out.2.2 (Nat.le_refl _) (szl.out x1 b1').2
      unfold sumV at Y2
      refine hK.out _ _ trivial (fun hHeld => ?_)
      clear hK K
      try simp only [Act.put, List.setIfInBounds_toArray, List.set_cons_zero, List.set_cons_succ]
      refine take_one (i := 8) rfl (by kernel_rfl) rfl (fun K hK => ?_)
      go_simp
      refine Calls.mono Y2 ?_
      rintro e x2 ⟨rfl, b2⟩
      clear Y2
      have n2 := n1.below b2 (Nat.le_refl _)
      have b2' : Below w.heap.size w x2 := b1'.trans (b2.mono b1'.size)
      obtain ⟨a8, c8, x3, hr8, n8, b8⟩ := path_more w x2 u1 _ (rootS DL) HSD.out n2 b2' (Nat.le_trans HLn.out.1 (by omega))
      obtain ⟨ya1, yc1, hu1, _⟩ := ownsRow_slice n1.2
      subst hu1
      refine hK.out _ _ trivial (fun hHeld => ?_)
      clear hK K n1 n2 b1 b2
      try simp only [Act.put, List.setIfInBounds_toArray, List.set_cons_zero, List.set_cons_succ]
      refine take_one (i := 9) rfl (by kernel_rfl) rfl (fun K hK => ?_)
      refine wp_of_run (exec_bslice1' 39 1 0 (.tmp 30) (.agg (rowV 32 (arrV (rootS DL)))) rfl rfl (build_one (arrV (rootS DL)) x2)) ?_
      refine hK.out _ _ trivial (fun hHeld => ?_)
      clear hK K
      try simp only [Act.put, List.setIfInBounds_toArray, List.set_cons_zero, List.set_cons_succ]
      refine take_one (i := 10) rfl (by kernel_rfl) rfl (fun K hK => ?_)
      refine wp_append_run _ _ _ rfl rfl rfl hr8 ?_
      refine hK.out _ _ trivial (fun hHeld => ?_)
      clear hK K hr8
      try simp only [Act.put, List.setIfInBounds_toArray, List.set_cons_zero, List.set_cons_succ]
      refine take_op (i := 11) (v := ?va11) rfl (by kernel_rfl) (by kernel_rfl) (by kernel_rfl) (fun _ _ _ h => h) rfl hHeld ?ya11 ?ra11
      case ya11 => (intro wz hz; go_simp; first | done | with_reducible rfl)
      try simp only [Act.put, List.setIfInBounds_toArray, List.set_cons_zero, List.set_cons_succ]
      refine wpAnyH_done (by kernel_rfl) ?_ _
      refine NoPanic.normal ?_
      have N8 : Hid _ := n8
      have B8 : Hid _ := b8
      clear n8 b8 hHeld b1' b2'
      go_wp2
      go_ret
      exact ⟨_, rfl, by rw [EP.out]; exact N8.out, B8.out⟩
    · have Y := ih (n - 1) (by omega) DL ((p : Int) - (m : Int)) _ w.drew (by omega) (by omega) (by omega) (by omega) (szl.out w.drew ((Below.refl _ _).drew)).2
      have EP : Hid (pathI L (p : Int) = pathI DL ((p : Int) - (m : Int)) ++ [rootS TL]) := (show _ from PLr hl)
      have HLn : Hid ((pathI DL ((p : Int) - (m : Int))).length ≤ 63 ∧ TL.length ≤ 1000 ∧ DL.length ≤ 1000) := (show _ from ⟨by rw [show ((p : Int) - (m : Int)) = ((p - m : Nat) : Int) by omega]; exact pathI_len (by omega) (by omega), by omega, by omega⟩)
      have hli : ¬ (p : Int) < (m : Int) := by omega
      have hwr : IntKind.wrap .i64 ((p : Int) - (m : Int)) = (p : Int) - (m : Int) := IntWalk.i64_in _ ⟨by omega, by omega⟩
      have HST : Hid _ := hsT
      clear hth hab ih h sa sb PLl PLr hh hI hTL hDL hm hsT hsD hn e1 h2 hxa oa ob
      go_enter Tryd.func46, Tryd.ntmps46
      go_wp2_with fail
      refine X.mono ?_
      rintro e w' ⟨rfl, hw⟩
      obtain rfl := hw.symm
      clear X hw
      go_wp2_with fail
      refine XH.mono ?_
      rintro e w' ⟨rfl, hw⟩
      obtain rfl := hw.symm
      clear XH hw
      go_upto_region 6 with fail
      refine wp_region_noPanic ?_
      refine wp_region_held_drew (S := fun w' => True) (by kernel_rfl) trivial (fun hHeld => ?_)
      refine take_op (i := 0) (v := ?vb0) rfl (by kernel_rfl) (by kernel_rfl) (by kernel_rfl) (fun _ _ _ h => h) rfl hHeld ?yb0 ?rb0
      case yb0 => (intro wz hz; go_simp; first | done | with_reducible rfl)
      try simp only [Act.put, List.setIfInBounds_toArray, List.set_cons_zero, List.set_cons_succ]
      refine take_op (i := 1) (v := ?vb1) rfl (by kernel_rfl) (by kernel_rfl) (by kernel_rfl) (fun _ _ _ h => h) rfl hHeld ?yb1 ?rb1
      case yb1 => (intro wz hz; go_simp; first | done | with_reducible rfl)
      try simp only [Act.put, List.setIfInBounds_toArray, List.set_cons_zero, List.set_cons_succ]
      refine take_op (i := 2) (v := ?vb2) rfl (by kernel_rfl) (by kernel_rfl) (by kernel_rfl) (fun _ _ _ h => h) rfl hHeld ?yb2 ?rb2
      case yb2 => (intro wz hz; have hcz := rb wz; go_simp; first | done | with_reducible rfl)
      try simp only [Act.put, List.setIfInBounds_toArray, List.set_cons_zero, List.set_cons_succ]
      refine take_op (i := 3) (v := ?vb3) rfl (by kernel_rfl) (by kernel_rfl) (by kernel_rfl) (fun _ _ _ h => h) rfl hHeld ?yb3 ?rb3
      case yb3 => (intro wz hz; go_simp; first | done | with_reducible rfl)
      try simp only [Act.put, List.setIfInBounds_toArray, List.set_cons_zero, List.set_cons_succ]
      refine take_op (i := 4) (v := ?vb4) rfl (by kernel_rfl) (by kernel_rfl) (by kernel_rfl) (fun _ _ _ h => h) rfl hHeld ?yb4 ?rb4
      case yb4 => (intro wz hz; go_simp; first | done | with_reducible rfl)
      try simp only [Act.put, List.setIfInBounds_toArray, List.set_cons_zero, List.set_cons_succ]
      refine take_op (i := 5) (v := ?vb5) rfl (by kernel_rfl) (by kernel_rfl) (by kernel_rfl) (fun _ _ _ h => h) rfl hHeld ?yb5 ?rb5
      case yb5 => (intro wz hz; go_simp; first | done | with_reducible rfl)
      try simp only [Act.put, List.setIfInBounds_toArray, List.set_cons_zero, List.set_cons_succ]
      refine take_op (i := 7) (v := ?vb7) rfl (by kernel_rfl) (by kernel_rfl) (by kernel_rfl) (fun _ _ _ h => h) rfl hHeld ?yb7 ?rb7
      case yb7 => (intro wz hz; go_simp; first | done | with_reducible rfl)
      try simp only [Act.put, List.setIfInBounds_toArray, List.set_cons_zero, List.set_cons_succ]
      refine take_op (i := 8) (v := ?vb8) rfl (by kernel_rfl) (by kernel_rfl) (by kernel_rfl) (fun _ _ _ h => h) rfl hHeld ?yb8 ?rb8
      case yb8 => (intro wz hz; go_simp; first | done | with_reducible rfl)
      try simp only [Act.put, List.setIfInBounds_toArray, List.set_cons_zero, List.set_cons_succ]
      refine take_op (i := 9) (v := ?vb9) rfl (by kernel_rfl) (by kernel_rfl) (by kernel_rfl) (fun _ _ _ h => h) rfl hHeld ?yb9 ?rb9
      case yb9 => (intro wz hz; have hcz := ra wz; go_simp; first | done | with_reducible rfl)
      try simp only [Act.put, List.setIfInBounds_toArray, List.set_cons_zero, List.set_cons_succ]
      refine take_one (i := 6) rfl (by kernel_rfl) rfl (fun K hK => ?_)
      go_simp
      refine Calls.mono Y ?_
      rintro e x1 ⟨u1, rfl, n1, b1⟩
      clear Y
      have b1' : Below w.heap.size w x1 := ((Below.refl w.heap.size w).drew).trans b1
      have Y2 := rroot_any 1000 _ _ x1 HLn.out.2.1 (Nat.le_refl _) (szl.out x1 b1').1
      unfold sumV at Y2
      refine hK.out _ _ trivial (fun hHeld => ?_)
      clear hK K
      try simp only [Act.put, List.setIfInBounds_toArray, List.set_cons_zero, List.set_cons_succ]
      refine take_one (i := 10) rfl (by kernel_rfl) rfl (fun K hK => ?_)
      go_simp
      refine Calls.mono Y2 ?_
      rintro e x2 ⟨rfl, b2⟩
      clear Y2
      have n2 := n1.below b2 (Nat.le_refl _)
      have b2' : Below w.heap.size w x2 := b1'.trans (b2.mono b1'.size)
      obtain ⟨a8, c8, x3, hr8, n8, b8⟩ := path_more w x2 u1 _ (rootS TL) HST.out n2 b2' (Nat.le_trans HLn.out.1 (by omega))
      obtain ⟨ya1, yc1, hu1, _⟩ := ownsRow_slice n1.2
      subst hu1
      refine hK.out _ _ trivial (fun hHeld => ?_)
      clear hK K n1 n2 b1 b2
      try simp only [Act.put, List.setIfInBounds_toArray, List.set_cons_zero, List.set_cons_succ]
      refine take_one (i := 11) rfl (by kernel_rfl) rfl (fun K hK => ?_)
      refine wp_of_run (exec_bslice1' 39 1 0 (.tmp 43) (.agg (rowV 32 (arrV (rootS TL)))) rfl rfl (build_one (arrV (rootS TL)) x2)) ?_
      refine hK.out _ _ trivial (fun hHeld => ?_)
      clear hK K
      try simp only [Act.put, List.setIfInBounds_toArray, List.set_cons_zero, List.set_cons_succ]
      refine take_one (i := 12) rfl (by kernel_rfl) rfl (fun K hK => ?_)
      refine wp_append_run _ _ _ rfl rfl rfl hr8 ?_
      refine hK.out _ _ trivial (fun hHeld => ?_)
      clear hK K hr8
      try simp only [Act.put, List.setIfInBounds_toArray, List.set_cons_zero, List.set_cons_succ]
      refine take_op (i := 13) (v := ?vb13) rfl (by kernel_rfl) (by kernel_rfl) (by kernel_rfl) (fun _ _ _ h => h) rfl hHeld ?yb13 ?rb13
      case yb13 => (intro wz hz; go_simp; first | done | with_reducible rfl)
      try simp only [Act.put, List.setIfInBounds_toArray, List.set_cons_zero, List.set_cons_succ]
      refine wpAnyH_done (by kernel_rfl) ?_ _
      refine NoPanic.normal ?_
      have N8 : Hid _ := n8
      have B8 : Hid _ := b8
      clear n8 b8 hHeld b1' b2'
      go_wp2
      go_ret
      exact ⟨_, rfl, by rw [EP.out]; exact N8.out, B8.out⟩
end Go.Proofs.YtkgegihkhdgdoaaDoor
