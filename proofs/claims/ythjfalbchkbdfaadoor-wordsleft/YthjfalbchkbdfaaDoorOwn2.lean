import Derived.Lib.SlicesS
import Derived.Laws.Cover1
import Derived.KernelRfl
import Derived.BigQuiet
import Derived.ProofKit
import Derived.OpenShut
import Derived.Test.YthjfalbchkbdfaaDoorRows
import Derived.ChangeSlices
import Derived.Deep.Slices
import Derived.Deep.Strs
import Derived.Test.YthjfalbchkbdfaaDoorCards
import Derived.Deep.DeepHandedRow
import Derived.Lib.LaidTab
import Derived.Lib.LaidU8
import Derived.Test.YthjfalbchkbdfaaDoorOwn1
set_option linter.unusedVariables false
set_option linter.unusedSimpArgs false
/- words.Words. -/
namespace Go.Proofs.YthjfalbchkbdfaaDoor
set_option linter.unusedSimpArgs false
set_option linter.unusedVariables false
open Go.RowKit Go.Shelf Go.Deep
attribute [local go_sem] Oper.semAt_some

section
variable {P : Program} {fn : Func} {R : Ending → World → Prop} {a : Act} {w : World} {v : Value} {n : Nat}
theorem bodyPostM_ret (hr : (results fn a.tmps).run P w = .ok v w) (hd : a.defers = []) (hR : R (.returned v) w) : bodyPostM Fence.wide n P fn R .ret a w := by
  show LeavesInM Fence.wide n P fn a.tmps R a.defers .returning w
  rw [hd]
  exact ⟨v, hr, hR⟩
theorem bodyPostM_mark {D : Nat} (hd : a.defers = [{ target := .collected D, args := #[] }]) (hK : w.heap[D]? = some (.deferred (some []))) (hr : (results fn a.tmps).run P (w.putObj D (.deferred none)) = .ok v (w.putObj D (.deferred none))) (hR : R (.returned v) (w.putObj D (.deferred none))) : bodyPostM Fence.wide n P fn R .ret a w := by
  show LeavesInM Fence.wide n P fn a.tmps R a.defers .returning w
  rw [hd]
  exact ⟨by simp, .inl ⟨_, _, rfl, run_takeDeferred hK, ⟨v, hr, hR⟩⟩⟩
end
/-- the three boxes: the stop words, the two results. -/
def boxes3 (v : Value) (w : World) : World := ((w.alloc (.cells #[v] 22)).alloc (.cells #[.slice none 0 0] 25)).alloc (.cells #[.int .i64 0] 26)
theorem boxes3_is (v : Value) (w : World) : (boxes3 v w).heap.size = w.heap.size + 3 ∧ Below w.heap.size w (boxes3 v w) ∧
    boxAt (boxes3 v w) w.heap.size 22 v ∧ boxAt (boxes3 v w) (w.heap.size + 1) 25 (.slice none 0 0) ∧ boxAt (boxes3 v w) (w.heap.size + 1 + 1) 26 (.int .i64 0) := by
  unfold boxes3
  have al : ∀ (w : World) (o : Obj), Below w.heap.size w (w.alloc o) := fun w o => (Below.refl _ _).alloc (Nat.le_refl _) _
  have n1 := boxAt.new w 22 v
  have n2 := boxAt.new (w.alloc (.cells #[v] 22)) 25 (.slice none 0 0)
  have n3 := boxAt.new ((w.alloc (.cells #[v] 22)).alloc (.cells #[.slice none 0 0] 25)) 26 (.int .i64 0)
  refine ⟨by simp, (((Below.refl _ _).alloc (Nat.le_refl _) _).alloc (by simp) _).alloc (by simp; omega) _, (n1.below (al _ _)).below (al _ _), ?_, ?_⟩
  · have := n2.below (al _ (.cells #[.int .i64 0] 26))
    rwa [World.size_alloc] at this
  · rwa [World.size_alloc, World.size_alloc] at n3
/-- the two results, set. -/
theorem two_set {w : World} {b1 b2 : Nat} {t1 t2 : TypeId} {x y : Value} (h1 : boxAt w b1 t1 x) (h2 : boxAt w b2 t2 y) (hne : b1 ≠ b2) (u1 u2 : Value) :
    boxAt ((w.setCell ⟨b1, 0, none⟩ u1).setCell ⟨b2, 0, none⟩ u2) b1 t1 u1 ∧ boxAt ((w.setCell ⟨b1, 0, none⟩ u1).setCell ⟨b2, 0, none⟩ u2) b2 t2 u2 :=
  ⟨(h1.set u1).other hne u2, (h2.other hne.symm u1).set u2⟩
/-- behind k rounds. -/
def wordsI (s : ByteArray) (st : List ByteArray) (v : Value) (w : World) (b3 p D : Nat) (k : Nat) (W : World) : Prop :=
  Below w.heap.size w W ∧ boxAt W p 9 (.string s) ∧ boxAt W w.heap.size 22 v ∧ boxAt W (w.heap.size + 1) 25 (.slice none 0 0) ∧ boxAt W (w.heap.size + 1 + 1) 26 (.int .i64 0) ∧
  ∃ acc lv, boxAt W b3 25 lv ∧ newWords W (D + 2) lv acc ∧ acc.length ≤ k ∧ wGo st acc k ((rl s).drop k) = wGo st [] 0 (rl s)
/-- where a round leaves the function. -/
def wordsX (s : ByteArray) (st : List ByteArray) (w : World) (k : Nat) (W : World) : Prop :=
  Below w.heap.size w W ∧ ∃ e : Nat, boxAt W (w.heap.size + 1) 25 (.slice none 0 0) ∧ boxAt W (w.heap.size + 1 + 1) 26 (.int .i64 (e : Int)) ∧ wGo st [] 0 (rl s) = (e, [])
theorem newWords.notObj {W : World} {B D : Nat} {lv : Value} {acc : List (ByteArray × Nat)} {o : Obj} (h : newWords W B lv acc) (hl : W.heap[D]? = some o) (ho : o.isCells = false) : ∀ k, lv.ownBlock = some k → k ≠ D := by
  intro k hk e
  obtain ⟨_, h | ⟨g, cap, cur, rfl, hg, hbk, _⟩⟩ := h
  · rw [h.1] at hk; cases hk
  · obtain rfl : g = k := by simpa [Value.ownBlock] using hk
    rw [e, hl] at hbk
    obtain rfl := Option.some.inj hbk
    cases ho
theorem below_put {w W : World} {l : Nat} {o : Obj} (h : Below w.heap.size w W) (hl : w.heap.size ≤ l) : Below w.heap.size w (W.putObj l o) :=
  h.trans ⟨rfl, rfl, rfl, by simp [World.putObj], fun j hj => World.putObj_heap_other (by omega)⟩
theorem wordsI.put {s : ByteArray} {st : List ByteArray} {v : Value} {w : World} {b3 p D k : Nat} {W : World} {x y : Loop} (h : wordsI s st v w b3 p D k W) (hD : w.heap.size ≤ D) (hl : W.heap[D + 1]? = some (.loop x)) : wordsI s st v w b3 p D k (W.putObj (D + 1) (.loop y)) := by
  obtain ⟨h1, h2, h3, h4, h5, acc, lv, h6, h7, h8⟩ := h
  exact ⟨below_put h1 (by omega), h2.put hl, h3.put hl, h4.put hl, h5.put hl, acc, lv, h6.put hl, h7.far fun k hk => World.putObj_heap_other fun e => h7.notObj hl rfl k hk e, h8⟩
theorem wordsX.put {s : ByteArray} {st : List ByteArray} {w : World} {D k : Nat} {W : World} {x y : Loop} (h : wordsX s st w k W) (hD : w.heap.size ≤ D) (hl : W.heap[D + 1]? = some (.loop x)) : wordsX s st w k (W.putObj (D + 1) (.loop y)) := by
  obtain ⟨h1, e, h2, h3, h4⟩ := h
  exact ⟨below_put h1 (by omega), e, h2.put hl, h3.put hl, h4⟩
theorem wordsI.below {s : ByteArray} {st : List ByteArray} {v : Value} {w : World} {b3 p D k : Nat} {W W' : World} (h : wordsI s st v w b3 p D k W) (hb : Below W.heap.size W W') : wordsI s st v w b3 p D k W' := by
  obtain ⟨h1, h2, h3, h4, h5, acc, lv, h6, h7, h8⟩ := h
  exact ⟨h1.trans (hb.mono h1.size), h2.below hb, h3.below hb, h4.below hb, h5.below hb, acc, lv, h6.below hb, h7.far fun k hk => hb.block k (ownsRow_block h7 k hk).2, h8⟩
theorem wordsX.below {s : ByteArray} {st : List ByteArray} {w : World} {k : Nat} {W W' : World} (h : wordsX s st w k W) (hb : Below W.heap.size W W') : wordsX s st w k W' := by
  obtain ⟨h1, e, h2, h3, h4⟩ := h
  exact ⟨h1.trans (hb.mono h1.size), e, h2.below hb, h3.below hb, h4⟩
set_option maxHeartbeats 8000000 in
set_option maxRecDepth 100000 in
theorem words_any (s : ByteArray) (hs : s.size ≤ maxLen) (v : Value) (st : List ByteArray) (w : World) (hT : utT w) (hv : strsAt w v st) :
    Calls Tryd.prog 11 #[.string s, v] w fun e w' => ∃ rv, e = .returned (.tuple #[rv, .int .i64 ((wordsP s st).1 : Int)]) ∧ newWords w' w.heap.size rv (wordsP s st).2 ∧ Below w.heap.size w w' := by
  obtain ⟨va, vc, rfl, _⟩ := hv.slice
  obtain ⟨v, hve⟩ : ∃ v, v = Value.slice va st.length vc := ⟨_, rfl⟩
  rw [← hve] at hv
  obtain ⟨s1, b1, r1, r2, r3⟩ := boxes3_is v w
  obtain ⟨w1, hw1⟩ : ∃ w1, w1 = boxes3 v w := ⟨_, rfl⟩
  rw [← hw1] at s1 b1 r1 r2 r3
  have X := may_any s hs w1 (hT.below b1).1
  unfold boxes3 at hw1
  rw [hve] at hw1
  have HVE : Hid (v = Value.slice va st.length vc) := (show _ from hve)
  have HT : Hid (utT w) := (show utT w from hT)
  have HV : Hid (strsAt w v st) := (show strsAt w v st from hv)
  have HS : Hid (s.size ≤ maxLen) := (show _ from hs)
  have B1 : Hid (Below w.heap.size w w1) := (show _ from b1)
  have S1 : Hid (w1.heap.size = w.heap.size + 3) := (show _ from s1)
  have R1 : Hid (boxAt w1 w.heap.size 22 v) := (show _ from r1)
  have R2 : Hid (boxAt w1 (w.heap.size + 1) 25 (.slice none 0 0)) := (show _ from r2)
  have R3 : Hid (boxAt w1 (w.heap.size + 1 + 1) 26 (.int .i64 0)) := (show _ from r3)
  clear hT hv hs b1 s1 r1 r2 r3 hve
  refine (callsIn_wide (n := 3)).1 ?_
  refine callsIn_of_wp_marks Tryd.func11 rfl trivial ?_ rfl
  simp only [Tryd.ntmps11, List.size_toArray, List.length_cons, List.length_nil, Nat.reduceAdd, Nat.reduceSub, Array.replicate_succ, Array.replicate_zero, List.push_toArray, List.append_toArray, List.nil_append, List.cons_append]
  gi_wp2_with fail
  rw [← hw1]
  refine ⟨trivial, (callsIn_wide.2 X).mono ?_⟩
  rintro e w2 ⟨rfl, b2⟩
  clear X hw1
  have B2 : Hid (Below w.heap.size w w2) := (show _ from B1.out.trans (b2.mono B1.out.size))
  have Q1 : Hid (boxAt w2 w.heap.size 22 v) := (show _ from boxAt.below R1.out b2)
  have Q2 : Hid (boxAt w2 (w.heap.size + 1) 25 (.slice none 0 0)) := (show _ from boxAt.below R2.out b2)
  have Q3 : Hid (boxAt w2 (w.heap.size + 1 + 1) 26 (.int .i64 0)) := (show _ from boxAt.below R3.out b2)
  have SZ2 : Hid (w.heap.size + 3 ≤ w2.heap.size) := (show _ from Nat.le_trans (Nat.le_of_eq (Hid.out S1).symm) b2.size)
  clear b2 B1 S1 R1 R2 R3
  by_cases hf : fl s = s.size
  · have hd : decide (fl s = s.size) = true := decide_eq_true hf
    rw [hd]
    obtain ⟨w3, hw3⟩ : ∃ w3, w3 = w2.alloc (.cells #[.slice none 0 0] 25) := ⟨_, rfl⟩
    have XR := runs_any s w3
    gi_wp2_with fail
    rw [← hw3]
    refine ⟨trivial, (callsIn_wide.2 XR).mono ?_⟩
    rintro e w4 ⟨p, rfl, hp, hp3, b4⟩
    clear XR
    have b23 : Below w2.heap.size w2 w3 := by rw [hw3]; exact (Below.refl _ _).alloc (Nat.le_refl _) _
    have n3 : boxAt w3 w2.heap.size 25 (.slice none 0 0) := by rw [hw3]; exact boxAt.new _ _ _
    have b24 : Below w2.heap.size w2 w4 := b23.trans (b4.mono b23.size)
    have S4 : Hid (w2.heap.size + 1 ≤ w4.heap.size) := (show _ from by have h1 := b4.size; rw [hw3, World.size_alloc] at h1; exact h1)
    have B4 : Hid (Below w.heap.size w w4) := (show _ from B2.out.trans (b24.mono B2.out.size))
    have P1 : Hid (boxAt w4 w.heap.size 22 v) := (show _ from Q1.out.below b24)
    have P2 : Hid (boxAt w4 (w.heap.size + 1) 25 (.slice none 0 0)) := (show _ from Q2.out.below b24)
    have P3 : Hid (boxAt w4 (w.heap.size + 1 + 1) 26 (.int .i64 0)) := (show _ from Q3.out.below b24)
    have P4 : Hid (boxAt w4 w2.heap.size 25 (.slice none 0 0)) := (show _ from n3.below b4)
    have P5 : Hid (boxAt w4 p 9 (.string s)) := (show _ from hp)
    have PLT : Hid (p < w4.heap.size) := (show _ from hp.lt)
    have PNE : Hid (p ≠ w2.heap.size) := (show p ≠ w2.heap.size from by
      have h3 : w3.heap.size = w2.heap.size + 1 := by rw [hw3, World.size_alloc]
      omega)
    clear b23 n3 b24 b4 hp hp3 hw3 Q1 Q2 Q3
    have hD : w.heap.size + 3 ≤ w4.heap.size := Nat.le_trans SZ2.out (by have := S4.out; omega)
    have HD : Hid (w.heap.size + 3 ≤ w4.heap.size) := (show _ from hD)
    have hwp : wordsP s st = wGo st [] 0 (rl s) := by unfold wordsP; rw [if_pos hf]
    have HWP : Hid (wordsP s st = wGo st [] 0 (rl s)) := (show _ from hwp)
    clear hwp hD hf hd
    gi_wp2
    refine wpIn_range_stop (gf := 36) (lb := #[.pointer (some ⟨p, 0, none⟩)]) (encs := runV) (ys := runsL s) rfl (enters_of Tryd.func36 (by kernel_rfl) rfl) (runs1_hands 2 p s HS.out) (fun _ => rfl)
      (fun k W => wordsI s st v w w2.heap.size p w4.heap.size k W) (fun k W => wordsX s st w k W)
      (fun k W x y h hl => h.put (by have := HD.out; omega) hl) (fun k W x y h hl => h.put (by have := HD.out; omega) hl)
      (fun k W h => ⟨HT.out.below h.1, h.2.1.cells.1⟩) (fun k W W' h hb => h.below hb) (fun k W W' h hb => h.below hb) (fun o o' => ?start)
      (fun x => { tmps := #[.string s, .slice va st.length vc, undef, .pointer (some ⟨w.heap.size, 0, none⟩), .pointer (some ⟨w.heap.size + 1, 0, none⟩), .pointer (some ⟨w.heap.size + 1 + 1, 0, none⟩), .pointer (some ⟨w2.heap.size, 0, none⟩), .int .i64 (x.2 : Int), .string x.1, undef, .string s,
        .bool true, .bool false, .string s, .func (.func 36) #[] #[.pointer (some ⟨p, 0, none⟩)], .int .i64 (x.2 : Int), .string x.1, undef, undef, undef, undef, undef, undef, undef, undef, undef, undef, undef, undef, undef, undef, undef, undef, undef, undef], defers := [] }) ?assign ?body ?done ?stop
    case start =>
      have bb : Below w4.heap.size w4 ((w4.alloc o).alloc o') := ((Below.refl _ _).alloc (Nat.le_refl _) _).alloc (by simp) _
      exact ⟨B4.out.trans (bb.mono B4.out.size), boxAt.below P5.out bb, boxAt.below P1.out bb, boxAt.below P2.out bb, boxAt.below P3.out bb, [], _, boxAt.below P4.out bb, newWords.none _ _, Nat.le_refl _, rfl⟩
    case assign =>
      intro l x W K hK
      simp only [runV, List.zip_toArray, List.zip_cons_cons, List.zip_nil_left, List.zip_nil_right, List.foldl_toArray, List.foldl_cons, List.foldl_nil, List.setIfInBounds_toArray, List.set_cons_succ, List.set_cons_zero]
      gi_wp2
      exact hK
    case body =>
      rintro l k hk W x hI hDd hDl
      have hk' : k < (rl s).length := by rw [runsL_length] at hk; exact hk
      rw [runsL_get s k hk hk']
      have hcons := List.drop_eq_getElem_cons hk'
      have hmem : (rl s)[k] ∈ rl s := List.getElem_mem hk'
      generalize (rl s)[k] = r at hcons hmem ⊢
      have hrs : r.size ≤ maxLen := Nat.le_trans (rl_size hmem) HS.out
      have hm : (r.size : Int) ≤ 9223372036854775807 := by unfold maxLen at hrs; omega
      have hI2 := hI
      obtain ⟨h1, h2, h3, h4, h5, acc, lv, h6, h7, h8, h9⟩ := hI2
      rw [hcons, wGo] at h9
      obtain ⟨c1, f1⟩ := h4.cells
      obtain ⟨c2, f2⟩ := h5.cells
      have HI : Hid (wordsI s st v w w2.heap.size p w4.heap.size k W) := (show _ from hI)
      have H1 : Hid (Below w.heap.size w W) := (show _ from h1)
      have H4 : Hid (boxAt W (w.heap.size + 1) 25 (.slice none 0 0)) := (show _ from h4)
      have H5 : Hid (boxAt W (w.heap.size + 1 + 1) 26 (.int .i64 0)) := (show _ from h5)
      have HDd : Hid (W.heap[w4.heap.size]? = some (.deferred (some []))) := (show _ from hDd)
      have HDl : Hid (W.heap[w4.heap.size + 1]? = some (.loop x)) := (show _ from hDl)
      have out : ∀ (e : Nat) (a : Act), wGo st [] 0 (rl s) = (e, []) → goesX w4.heap.size (fun k W => wordsI s st v w w2.heap.size p w4.heap.size k W) (fun k W => wordsX s st w k W) k W .ret a ((W.setCell ⟨w.heap.size + 1, 0, none⟩ (.slice none 0 0)).setCell ⟨w.heap.size + 1 + 1, 0, none⟩ (.int .i64 (e : Int))) := fun e _ he => by
        obtain ⟨t1, t2⟩ := two_set h4 h5 (by omega) (.slice none 0 0) (.int .i64 (e : Int))
        have n1 := h4.notLoop hDd rfl
        have n2 := h5.notLoop hDd rfl
        have n3 := h4.notLoop hDl rfl
        have n4 := h5.notLoop hDl rfl
        exact ⟨(blk_setCell_other _ _ _ _ n2).trans (blk_setCell_other _ _ _ _ n1), (blk_setCell_other _ _ _ _ n4).trans (blk_setCell_other _ _ _ _ n3), (h1.setCell (p := ⟨_, 0, none⟩) (Nat.le_succ _) _).setCell (p := ⟨_, 0, none⟩) (Nat.le_trans (Nat.le_succ _) (Nat.le_succ _)) _, e, t1, t2, he⟩
      have OUT : Hid _ := out
      clear out
      by_cases g1 : 24 < r.size
      · rw [if_pos g1] at h9
        have H9 : Hid (wGo st [] 0 (rl s) = (3, [])) := (show _ from h9.symm)
        have g1' : (r.size : Int) > 24 := by omega
        clear h1 h2 h3 h4 h5 h6 h7 h8 h9 hI hDd hDl hcons hmem
        gi_wp2
        exact OUT.out 3 _ H9.out
      · rw [if_neg g1] at h9
        have g1' : ¬ (r.size : Int) > 24 := by omega
        by_cases g2 : 48 ≤ k
        · rw [if_pos g2] at h9
          have H9 : Hid (wGo st [] 0 (rl s) = (7, [])) := (show _ from h9.symm)
          have g2' : (k : Int) ≥ 48 := by omega
          clear h1 h2 h3 h4 h5 h6 h7 h8 h9 hI hDd hDl hcons hmem
          gi_wp2
          exact OUT.out 7 _ H9.out
        · rw [if_neg g2] at h9
          have g2' : ¬ (k : Int) ≥ 48 := by omega
          have XS := small_any r hrs W
          have H9 : Hid (wGo st (if inS st (smS r) then acc else acc ++ [(smS r, k)]) (k + 1) ((rl s).drop (k + 1)) = wGo st [] 0 (rl s)) := (show _ from h9)
          have H8 : Hid (acc.length ≤ k) := (show _ from h8)
          have H2 : Hid (boxAt W p 9 (.string s)) := (show _ from h2)
          have H3 : Hid (boxAt W w.heap.size 22 v) := (show _ from h3)
          have H7 : Hid (newWords W (w4.heap.size + 2) lv acc) := (show _ from h7)
          have H6 : Hid (boxAt W w2.heap.size 25 lv) := (show _ from h6)
          clear OUT h1 h2 h3 h4 h5 h6 h7 h8 h9 hI hDd hDl hcons hmem
          gi_wp2_with fail
          refine ⟨trivial, CallsIn.inRound l ((callsIn_wide.2 XS).mono ?_)⟩
          rintro e W1 ⟨rfl, bs⟩
          have bw : Below w.heap.size w W1 := H1.out.trans (bs.mono H1.out.size)
          have XC := scontains_any v st (smS r) W1 (HV.out.below bw)
          rw [HVE.out] at XC
          have c0 := (boxAt.below H3.out bs).cells.1
          rw [HVE.out] at c0
          have hD1 : W1.heap[w4.heap.size]? = W.heap[w4.heap.size]? := bs.block _ (Array.getElem?_eq_some_iff.1 HDd.out).1
          have hD2 : W1.heap[w4.heap.size + 1]? = W.heap[w4.heap.size + 1]? := bs.block _ (Array.getElem?_eq_some_iff.1 HDl.out).1
          have i2 := boxAt.below H2.out bs
          have i3 := boxAt.below H3.out bs
          have i4 := boxAt.below H4.out bs
          have i5 := boxAt.below H5.out bs
          have i6 := boxAt.below H6.out bs
          have i7 : newWords W1 (w4.heap.size + 2) lv acc := newWords.far H7.out fun k hk => bs.block k (ownsRow_block H7.out k hk).2
          have I2 : Hid (boxAt W1 p 9 (.string s)) := (show _ from i2)
          have I3 : Hid (boxAt W1 w.heap.size 22 v) := (show _ from i3)
          have I4 : Hid (boxAt W1 (w.heap.size + 1) 25 (.slice none 0 0)) := (show _ from i4)
          have I5 : Hid (boxAt W1 (w.heap.size + 1 + 1) 26 (.int .i64 0)) := (show _ from i5)
          have I6 : Hid (boxAt W1 w2.heap.size 25 lv) := (show _ from i6)
          have I7 : Hid (newWords W1 (w4.heap.size + 2) lv acc) := (show _ from i7)
          have BW : Hid (Below w.heap.size w W1) := (show _ from bw)
          have HD1 : Hid _ := hD1
          have HD2 : Hid _ := hD2
          clear XS bs bw hD1 hD2 i2 i3 i4 i5 i6 i7 c1 f1 c2 f2
          gi_wp2_with fail
          refine ⟨trivial, CallsIn.inRound l ((callsIn_wide.2 XC).mono ?_)⟩
          rintro e W2 ⟨rfl, hw⟩
          obtain rfl := hw.symm
          clear XC hw c0
          cases hin : inS st (smS r) with
          | true =>
            have H99 : Hid (wGo st acc (k + 1) ((rl s).drop (k + 1)) = wGo st [] 0 (rl s)) := (show wGo st acc (k + 1) ((rl s).drop (k + 1)) = wGo st [] 0 (rl s) from by have := H9.out; rw [if_pos hin] at this; exact this)
            clear hin
            gi_wp2
            exact ⟨HD1.out, HD2.out, BW.out, I2.out, I3.out, I4.out, I5.out, acc, lv, I6.out, I7.out, Nat.le_succ_of_le H8.out, H99.out⟩
          | false =>
            have H99 : Hid (wGo st (acc ++ [(smS r, k)]) (k + 1) ((rl s).drop (k + 1)) = wGo st [] 0 (rl s)) := (show wGo st (acc ++ [(smS r, k)]) (k + 1) ((rl s).drop (k + 1)) = wGo st [] 0 (rl s) from by have := H9.out; rw [if_neg (by rw [hin]; decide)] at this; exact this)
            clear hin
            generalize smS r = word at H99 ⊢
            obtain ⟨la, lc, rfl, _⟩ := ownsRow_slice I7.out
            have hsz : w4.heap.size + 2 ≤ W1.heap.size := (Array.getElem?_eq_some_iff.1 (HD2.out.trans HDl.out)).1
            obtain ⟨W3, hW3⟩ : ∃ W3, W3 = W1.alloc (.cells #[.string word, .int .i64 (k : Int)] 46) := ⟨_, rfl⟩
            have b3 : Below W1.heap.size W1 W3 := by rw [hW3]; exact (Below.refl _ _).alloc (Nat.le_refl _) _
            have n3 : W3.heap[W1.heap.size]? = some (.cells #[.string word, .int .i64 (k : Int)] 46 (0, 0)) := by rw [hW3]; exact World.alloc_heap_new _ _
            have o3 : newWords W3 (w4.heap.size + 2) (.slice la acc.length lc) acc := newWords.far I7.out fun k hk => b3.block k (ownsRow_block I7.out k hk).2
            obtain ⟨v', w8, hr8, ho8, hg8⟩ := words_append W3 (w4.heap.size + 2) _ acc o3 (word, k) W1.heap.size n3 (by have := H8.out; omega) (Nat.le_trans hsz b3.size)
            have far : ∀ j, j < w4.heap.size + 2 → w8.heap[j]? = W1.heap[j]? := fun j hj => (hg8.block j (by have := b3.size; omega) (fun e => by have := (ownsRow_block o3 j e.symm).1; omega)).trans (b3.block j (by omega))
            have hb3 : w2.heap.size < w4.heap.size := by have := S4.out; omega
            have l6 := boxAt.same I6.out (far w2.heap.size (by omega))
            obtain ⟨c3, f3⟩ := I6.out.cells
            obtain ⟨c8, f8⟩ := l6.cells
            have nl : ∀ j, v'.ownBlock = some j → j ≠ w2.heap.size := fun j hj => by have := (ownsRow_block ho8 j hj).1; omega
            have hw8 : Below w.heap.size w w8 := by
              refine (BW.out.trans (b3.mono BW.out.size)).grown hg8 (by have := BW.out.size; have := b3.size; omega) fun j hj => ?_
              have h1 := (ownsRow_block o3 j hj).1
              have h2 := HD.out
              omega
            have FIN : Hid ((w8.setCell ⟨w2.heap.size, 0, none⟩ v').heap[w4.heap.size]? = W.heap[w4.heap.size]? ∧ (w8.setCell ⟨w2.heap.size, 0, none⟩ v').heap[w4.heap.size + 1]? = W.heap[w4.heap.size + 1]? ∧ wordsI s st v w w2.heap.size p w4.heap.size (k + 1) (w8.setCell ⟨w2.heap.size, 0, none⟩ v')) := (show (w8.setCell ⟨w2.heap.size, 0, none⟩ v').heap[w4.heap.size]? = W.heap[w4.heap.size]? ∧ (w8.setCell ⟨w2.heap.size, 0, none⟩ v').heap[w4.heap.size + 1]? = W.heap[w4.heap.size + 1]? ∧ wordsI s st v w w2.heap.size p w4.heap.size (k + 1) (w8.setCell ⟨w2.heap.size, 0, none⟩ v') from by
              have h2 := SZ2.out
              have pne : p < w4.heap.size := PLT.out
              have q1 : w4.heap.size ≠ w2.heap.size := by omega
              have q2 : w4.heap.size + 1 ≠ w2.heap.size := by omega
              have q3 : w.heap.size ≠ w2.heap.size := by omega
              have q4 : w.heap.size + 1 ≠ w2.heap.size := by omega
              have q5 : w.heap.size + 1 + 1 ≠ w2.heap.size := by omega
              refine ⟨(blk_setCell_other _ _ _ _ q1).trans ((far _ (by omega)).trans HD1.out), (blk_setCell_other _ _ _ _ q2).trans ((far _ (by omega)).trans HD2.out), hw8.setCell (p := ⟨w2.heap.size, 0, none⟩) (by show w.heap.size ≤ w2.heap.size; omega) _,
                (boxAt.same I2.out (far p (by omega))).other PNE.out _, (boxAt.same I3.out (far _ (by omega))).other q3 _, (boxAt.same I4.out (far _ (by omega))).other q4 _, (boxAt.same I5.out (far _ (by omega))).other q5 _,
                acc ++ [(word, k)], v', l6.set v', newWords.far ho8 fun j hj => blk_setCell_other _ _ _ _ (nl j hj), by rw [List.length_append]; have := H8.out; simp; omega, H99.out⟩)
            have hdw : v'.cells = #[v'] := by
              obtain ⟨a', c', rfl, _⟩ := ownsRow_slice ho8
              rfl
            obtain ⟨va', vc', hv', _⟩ := ownsRow_slice ho8
            subst hv'
            clear hsz b3 n3 o3 ho8 hg8 far l6 nl hw8 hdw
            gi_wp2_with (gi_at_builtin; refine wpListIn_append_run rfl _ _ _ rfl rfl rfl (by rw [← hW3]; exact hr8) ?_)
            rw [List.length_append, List.length_singleton] at FIN
            exact FIN.out
    case done =>
      rintro W hI hK
      obtain ⟨h1, h2, h3, h4, h5, acc, lv, h6, h7, h8, h9⟩ := hI
      rw [runsL_length, List.drop_length] at h9
      obtain ⟨c1, f1⟩ := h4.cells
      obtain ⟨c2, f2⟩ := h5.cells
      obtain ⟨la, lc, rfl, _⟩ := ownsRow_slice h7
      obtain ⟨c3, f3⟩ := h6.cells
      have H1 : Hid (Below w.heap.size w W) := (show _ from h1)
      have H4 : Hid (boxAt W (w.heap.size + 1) 25 (.slice none 0 0)) := (show _ from h4)
      have H5 : Hid (boxAt W (w.heap.size + 1 + 1) 26 (.int .i64 0)) := (show _ from h5)
      have H7 : Hid (newWords W (w4.heap.size + 2) (.slice la acc.length lc) acc) := (show _ from h7)
      have HK : Hid (W.heap[w4.heap.size]? = some (.deferred (some []))) := (show _ from hK)
      have H9 : Hid ((0, acc) = wGo st [] 0 (rl s)) := (show _ from h9)
      clear h1 h2 h3 h4 h5 h6 h7 h8 h9 hK
      gi_wp2
      obtain ⟨t1, t2⟩ := two_set H4.out H5.out (by omega) (.slice la acc.length lc) (.int .i64 0)
      have hlt1 := boxAt.notLoop H4.out HK.out rfl
      have hlt2 := boxAt.notLoop H5.out HK.out rfl
      have hK' : ((W.setCell ⟨w.heap.size + 1, 0, none⟩ (.slice la acc.length lc)).setCell ⟨w.heap.size + 1 + 1, 0, none⟩ (.int .i64 0)).heap[w4.heap.size]? = some (.deferred (some [])) := (blk_setCell_other _ _ _ _ hlt2).trans ((blk_setCell_other _ _ _ _ hlt1).trans HK.out)
      have n7 : ∀ k, (Value.slice la acc.length lc).ownBlock = some k → k ≠ w.heap.size + 1 ∧ k ≠ w.heap.size + 1 + 1 := fun k hk => by
        have h1 := (ownsRow_block H7.out k hk).1
        have h2 := HD.out
        omega
      have b7 := (H1.out.setCell (p := ⟨w.heap.size + 1, 0, none⟩) (Nat.le_succ _) (.slice la acc.length lc)).setCell (p := ⟨w.heap.size + 1 + 1, 0, none⟩) (Nat.le_trans (Nat.le_succ _) (Nat.le_succ _)) (.int .i64 0)
      have o7 : newWords ((W.setCell ⟨w.heap.size + 1, 0, none⟩ (.slice la acc.length lc)).setCell ⟨w.heap.size + 1 + 1, 0, none⟩ (.int .i64 0)) (w4.heap.size + 2) (.slice la acc.length lc) acc := newWords.far H7.out fun k hk => (blk_setCell_other _ _ _ _ (n7 k hk).2).trans (blk_setCell_other _ _ _ _ (n7 k hk).1)
      generalize (W.setCell ⟨w.heap.size + 1, 0, none⟩ (.slice la acc.length lc)).setCell ⟨w.heap.size + 1 + 1, 0, none⟩ (.int .i64 0) = W9 at t1 t2 hK' b7 o7 ⊢
      have t1' := t1.same (w' := W9.putObj w4.heap.size (.deferred none)) (World.putObj_heap_other (t1.notLoop hK' rfl).symm)
      have t2' := t2.same (w' := W9.putObj w4.heap.size (.deferred none)) (World.putObj_heap_other (t2.notLoop hK' rfl).symm)
      have o8 : newWords (W9.putObj w4.heap.size (.deferred none)) w.heap.size (.slice la acc.length lc) acc := ownsRow_lower (newWords.far o7 fun k hk => World.putObj_heap_other (o7.notObj hK' rfl k hk)) (by have := HD.out; omega)
      refine bodyPostM_mark rfl hK' (results_plain2 rfl _ _ (w.heap.size + 1) (w.heap.size + 1 + 1) (.slice la acc.length lc) (.int .i64 0) _ _ rfl rfl Tryd.underlying25 Tryd.underlying26 rfl rfl t1'.cells.1 t2'.cells.1) ?_
      have hwp := HWP.out.trans H9.out.symm
      exact ⟨_, by rw [hwp]; rfl, by rw [hwp]; exact o8, below_put b7 (by have := HD.out; omega)⟩
    case stop =>
      rintro k W hk ⟨h1, e, h2, h3, h4⟩ hK
      have h2' := h2.same (w' := W.putObj w4.heap.size (.deferred none)) (World.putObj_heap_other (h2.notLoop hK rfl).symm)
      have h3' := h3.same (w' := W.putObj w4.heap.size (.deferred none)) (World.putObj_heap_other (h3.notLoop hK rfl).symm)
      refine bodyPostM_mark rfl hK (results_plain2 rfl _ _ (w.heap.size + 1) (w.heap.size + 1 + 1) (.slice none 0 0) (.int .i64 (e : Int)) _ _ rfl rfl Tryd.underlying25 Tryd.underlying26 rfl rfl h2'.cells.1 h3'.cells.1) ?_
      have hwp := HWP.out.trans h4
      exact ⟨_, by rw [hwp], by rw [hwp]; exact newWords.none _ _, below_put h1 (by have := HD.out; omega)⟩
  · have hd : decide (fl s = s.size) = false := decide_eq_false hf
    rw [hd]
    obtain ⟨c1, f1⟩ := Q2.out.cells
    obtain ⟨c2, f2⟩ := Q3.out.cells
    gi_wp2
    obtain ⟨t1, t2⟩ := two_set Q2.out Q3.out (by omega) (.slice none 0 0) (.int .i64 8)
    refine bodyPostM_ret (results_plain2 rfl _ _ (w.heap.size + 1) (w.heap.size + 1 + 1) (.slice none 0 0) (.int .i64 8) _ _ rfl rfl Tryd.underlying25 Tryd.underlying26 rfl rfl t1.cells.1 t2.cells.1) rfl ?_
    have hwp : wordsP s st = (8, []) := by unfold wordsP; rw [if_neg hf]
    exact ⟨_, by rw [hwp]; rfl, by rw [hwp]; exact newWords.none _ _, (B2.out.setCell (p := ⟨_, 0, none⟩) (Nat.le_succ _) _).setCell (p := ⟨_, 0, none⟩) (Nat.le_trans (Nat.le_succ _) (Nat.le_succ _)) _⟩
end Go.Proofs.YthjfalbchkbdfaaDoor

/- Layer 9, pure: runs by themselves, and of texts one behind the other. -/
namespace Go.Proofs.YthjfalbchkbdfaaDoor
set_option linter.unusedVariables false

theorem bt_part (s : ByteArray) (i j m : Nat) (h : i + m < j) (hj : j ≤ s.size) : bt (s.extract i j) m = bt s (i + m) := by
  unfold bt
  have h1 : m < (s.extract i j).size := by rw [ByteArray.size_extract]; omega
  rw [get_ok _ _ h1, get_ok _ _ (by omega), ByteArray.getElem_extract]
theorem part_size (s : ByteArray) (i j : Nat) (hj : j ≤ s.size) : (s.extract i j).size = j - i := by rw [ByteArray.size_extract]; omega
theorem nx_part (s : ByteArray) (i j k : Nat) (hj : j ≤ s.size) (hz : 0 < (nx s (i + k)).2) (hn : i + k + (nx s (i + k)).2 ≤ j) : nx (s.extract i j) k = nx s (i + k) :=
  nx_alike hz (by rw [part_size _ _ _ hj]; omega) fun m hm => by rw [bt_part _ _ _ _ (by omega) hj, Nat.add_assoc]
/-- a run, by itself. -/
theorem run_part (s : ByteArray) (i j : Nat) (hj : j ≤ s.size) : ∀ d m, j = i + m + d → ps s true (i + m) = j → ps (s.extract i j) true m = j - i ∧ flAt (s.extract i j) m = j - i := by
  intro d
  induction d using Nat.strongRecOn with
  | ind d ih =>
    intro m hd hp
    by_cases e : d = 0
    · have hm : m = j - i := by omega
      have hs := part_size s i j hj
      refine ⟨?_, ?_⟩
      · rw [ps_stop (stop_end (by omega)), hm]
      · rw [flAt_stop (by rw [nx_end (by omega)]), hm]
    · have hs : ¬ stopP s true (i + m) := fun h => by rw [ps_stop h] at hp; omega
      have hg := go_size hs
      have hstep := ps_step hs
      have hle := ps_ge (b := true) hg.2
      have hx := nx_part s i j m hj hg.1 (by omega)
      have hs' : ¬ stopP (s.extract i j) true m := by unfold stopP at hs ⊢; rw [hx]; exact hs
      have := ih (d - (nx s (i + m)).2) (by omega) (m + (nx s (i + m)).2) (by omega) (by rw [← Nat.add_assoc, ← hstep]; exact hp)
      exact ⟨by rw [ps_step hs', hx]; exact this.1, by rw [flAt_step (by rw [hx]; omega), hx]; exact this.2⟩
theorem extract_whole (s : ByteArray) : s.extract 0 s.size = s := by
  apply ByteArray.ext
  have : s.size = s.data.size := rfl
  rw [ByteArray.data_extract, this, Array.extract_size]
theorem run_one {s : ByteArray} {k : Nat} (hk : k ≤ s.size) (h : ps s true (ps s false k) ≠ ps s false k) :
    fl (s.extract (ps s false k) (ps s true (ps s false k))) = (s.extract (ps s false k) (ps s true (ps s false k))).size ∧
    rl (s.extract (ps s false k) (ps s true (ps s false k))) = [s.extract (ps s false k) (ps s true (ps s false k))] ∧ 0 < (s.extract (ps s false k) (ps s true (ps s false k))).size := by
  have hp := run_pos hk h
  generalize ps s false k = i at hp ⊢
  obtain ⟨j, hj⟩ : ∃ j, j = ps s true i := ⟨_, rfl⟩
  rw [← hj] at hp ⊢
  have hs := part_size s i j hp.2.2
  obtain ⟨h1, h2⟩ := run_part s i j hp.2.2 (j - i) 0 (by omega) hj.symm
  refine ⟨by show flAt _ 0 = _; rw [h2, hs], ?_, by omega⟩
  have hn : ¬ stopP (s.extract i j) true 0 := fun h => by rw [ps_stop h] at h1; omega
  show rlAt _ 0 = _
  have he := rlAt_run hn
  rw [h1] at he
  have hl := rlAt_last (s.extract i j)
  have hw := extract_whole (s.extract i j)
  rw [hs] at hl hw
  rw [he, hl, hw]
theorem runs_one (s : ByteArray) : ∀ f k, k ≤ s.size → ∀ r ∈ rlF s f k, fl r = r.size ∧ rl r = [r] ∧ 0 < r.size
  | 0, _, _, r, hr => by rw [rlF] at hr; cases hr
  | f + 1, k, hk, r, hr => by
    rw [rlF] at hr
    by_cases e : ps s true (ps s false k) = ps s false k
    · rw [if_pos e] at hr; cases hr
    · rw [if_neg e] at hr
      rcases List.mem_cons.1 hr with rfl | hr
      · exact run_one hk e
      · exact runs_one s f _ (run_pos hk e).2.2 r hr
theorem rl_one {s r : ByteArray} (h : r ∈ rl s) : fl r = r.size ∧ rl r = [r] ∧ 0 < r.size := runs_one s s.size 0 (Nat.zero_le _) r h
/-- a blank between. -/
def blank : ByteArray := { data := #[32] }
end Go.Proofs.YthjfalbchkbdfaaDoor

/- Layer 9, pure: the error hangs on the runs alone; the words that are left. -/
namespace Go.Proofs.YthjfalbchkbdfaaDoor
set_option linter.unusedVariables false

def wErr : Nat → List ByteArray → Nat
  | _, [] => 0
  | i, r :: t => if 24 < r.size then 3 else if 48 ≤ i then 7 else wErr (i + 1) t
def wFil (st : List ByteArray) : Nat → List ByteArray → List (ByteArray × Nat)
  | _, [] => []
  | i, r :: t => if inS st (smS r) then wFil st (i + 1) t else (smS r, i) :: wFil st (i + 1) t
theorem wGo_is (st : List ByteArray) : ∀ (l : List ByteArray) (acc : List (ByteArray × Nat)) (i : Nat), wGo st acc i l = (wErr i l, if wErr i l = 0 then acc ++ wFil st i l else [])
  | [], acc, i => by simp [wGo, wErr, wFil]
  | r :: t, acc, i => by
    rw [wGo, wErr]
    by_cases h1 : 24 < r.size
    · rw [if_pos h1, if_pos h1]; rfl
    · rw [if_neg h1, if_neg h1]
      by_cases h2 : 48 ≤ i
      · rw [if_pos h2, if_pos h2]; rfl
      · rw [if_neg h2, if_neg h2, wGo_is st t _ (i + 1), wFil]
        by_cases h3 : inS st (smS r) = true
        · rw [if_pos h3, if_pos h3]
        · rw [if_neg h3, if_neg h3]
          congr 1
          split
          · simp
          · rfl
def errP (s : ByteArray) : Nat := if fl s = s.size then wErr 0 (rl s) else 8
theorem wordsP_is (s : ByteArray) (st : List ByteArray) : wordsP s st = (errP s, if errP s = 0 then wFil st 0 (rl s) else []) := by
  unfold wordsP errP
  by_cases h : fl s = s.size
  · rw [if_pos h, if_pos h, wGo_is]; simp
  · rw [if_neg h, if_neg h]; rfl
theorem errP_ok {s : ByteArray} (h : errP s = 0) : fl s = s.size ∧ wErr 0 (rl s) = 0 := by
  unfold errP at h
  by_cases e : fl s = s.size
  · rw [if_pos e] at h; exact ⟨e, h⟩
  · rw [if_neg e] at h; cases h
theorem wFil_none : ∀ (l : List ByteArray) (i j : Nat), (wFil [] i l)[j]? = (l[j]?).map fun r => (smS r, i + j)
  | [], i, j => by simp [wFil]
  | r :: t, i, j => by
    rw [wFil, if_neg (by simp [inS])]
    cases j with
    | zero => simp
    | succ j => simp only [List.getElem?_cons_succ, wFil_none t (i + 1) j]; congr 1; funext x; rw [show i + 1 + j = i + (j + 1) by omega]
theorem wFil_length (l : List ByteArray) : ∀ i, (wFil [] i l).length = l.length := by
  induction l with
  | nil => intro i; rfl
  | cons r t ih => intro i; rw [wFil, if_neg (by simp [inS]), List.length_cons, List.length_cons, ih]
theorem wErr_ok {l : List ByteArray} : ∀ {i : Nat}, wErr i l = 0 → (∀ r ∈ l, r.size ≤ 24) ∧ (l = [] ∨ i + l.length ≤ 48) := by
  induction l with
  | nil => intro i _; exact ⟨by simp, .inl rfl⟩
  | cons r t ih =>
    intro i h
    rw [wErr] at h
    by_cases h1 : 24 < r.size
    · rw [if_pos h1] at h; cases h
    · rw [if_neg h1] at h
      by_cases h2 : 48 ≤ i
      · rw [if_pos h2] at h; cases h
      · rw [if_neg h2] at h
        obtain ⟨h3, h4⟩ := ih h
        refine ⟨fun x hx => ?_, .inr ?_⟩
        · rcases List.mem_cons.1 hx with rfl | hx
          · omega
          · exact h3 x hx
        · rw [List.length_cons]
          rcases h4 with rfl | h4
          · simp; omega
          · omega
/-- what is one word. -/
theorem oneP_is (s : ByteArray) : oneP s [] = true ↔ rl s = [s] ∧ fl s = s.size ∧ smS s = s ∧ s.size ≤ 24 := by
  unfold oneP
  rw [wordsP_is]
  constructor
  · intro h
    by_cases e : errP s = 0
    · rw [if_pos e, e] at h
      obtain ⟨h1, h2⟩ := errP_ok e
      have hl := wFil_length (rl s) 0
      have hn := wFil_none (rl s) 0
      generalize wFil [] 0 (rl s) = W at h hl hn
      match W, h, hl, hn with
      | [x], h, hl, hn =>
        obtain ⟨r, hr⟩ : ∃ r, rl s = [r] := List.length_eq_one_iff.1 hl.symm
        have hx := hn 0
        rw [hr] at hx h2
        simp only [List.getElem?_cons_zero, Option.map_some, Option.some.injEq] at hx
        subst hx
        have h3 : smS r = s := (Lib.bytes_beq_iff _ _).1 h
        have h4 : r.size = s.size := by rw [← smS_size r, h3]
        have h5 : r = s := by
          by_cases he : ps s true (ps s false 0) = ps s false 0
          · rw [show rl s = rlAt s 0 from rfl, rlAt_end he] at hr; cases hr
          · have hp := run_pos (Nat.zero_le _) he
            rw [show rl s = rlAt s 0 from rfl, rlAt_next he] at hr
            obtain rfl := (List.cons.inj hr).1
            rw [part_size _ _ _ hp.2.2] at h4
            obtain ⟨_, hp2, hp3⟩ := hp
            have z1 : ps s false 0 = 0 := by omega
            have z2 : ps s true (ps s false 0) = s.size := by omega
            rw [z2, z1, extract_whole]
        subst h5
        exact ⟨hr, h1, h3, (wErr_ok h2).1 _ (by simp)⟩
    · rw [if_neg e] at h
      revert h
      split <;> simp_all
  · rintro ⟨h1, h2, h3, h4⟩
    have e : errP s = 0 := by unfold errP; rw [if_pos h2, h1, wErr, if_neg (by omega)]; rfl
    have hw : wFil [] 0 (rl s) = [(smS s, 0)] := by rw [h1, wFil, if_neg (by simp [inS])]; rfl
    rw [if_pos e, e, hw]
    show ((smS s).toList == s.toList) = true
    rw [h3]; exact beq_self_eq_true _
end Go.Proofs.YthjfalbchkbdfaaDoor

/- words.One. -/
namespace Go.Proofs.YthjfalbchkbdfaaDoor
set_option linter.unusedSimpArgs false
set_option linter.unusedVariables false
open Go.RowKit Go.Deep

theorem oneP_one {s : ByteArray} {st : List ByteArray} {x : ByteArray × Nat} (h : (wordsP s st).2 = [x]) : oneP s st = (x.1.toList == s.toList) := by
  have e : wordsP s st = (errP s, (wordsP s st).2) := by rw [wordsP_is]
  rw [h] at e
  have h0 : errP s = 0 := by
    by_cases e0 : errP s = 0
    · exact e0
    · rw [wordsP_is, if_neg e0] at h; cases h
  unfold oneP
  rw [e, h0]
  rfl
theorem oneP_else {s : ByteArray} {st : List ByteArray} (h : (wordsP s st).2.length ≠ 1) : oneP s st = false := by
  unfold oneP
  generalize wordsP s st = q at h
  obtain ⟨e, l⟩ := q
  match e, l, h with
  | 0, [x], h => exact absurd rfl h
  | 0, [], _ => rfl
  | 0, _ :: _ :: _, _ => rfl
  | e + 1, [], _ => rfl
  | e + 1, _ :: _, _ => rfl
/-- the first one of some words, in memory. -/
theorem wordsAt.first {w : World} {v : Value} {x : ByteArray × Nat} (h : wordsAt w v [x]) : ∃ g c, v = .slice (some ⟨g, 0, none⟩) 1 c ∧ 1 ≤ c ∧ w.cell? ⟨g, 0, none⟩ = some (.string x.1) ∧ w.cell? ⟨g, 1, none⟩ = some (.int .i64 (x.2 : Int)) := by
  obtain ⟨a, c, rfl, h1, _, h3⟩ := h
  obtain ⟨g, rfl, _, h4⟩ := h3 (by simp)
  exact ⟨g, c, rfl, h1, h4 0 x rfl⟩
set_option maxHeartbeats 4000000 in
set_option maxRecDepth 100000 in
theorem one_any (s : ByteArray) (hs : s.size ≤ maxLen) (v : Value) (st : List ByteArray) (w : World) (hT : utT w) (hv : strsAt w v st) :
    Calls Tryd.prog 15 #[.string s, v] w fun e w' => e = .returned (.bool (oneP s st)) ∧ Below w.heap.size w w' := by
  have X := words_any s hs v st w hT hv
  have H1 : Hid (∀ x, (wordsP s st).2 = [x] → oneP s st = (x.1.toList == s.toList)) := (show _ from fun x h => oneP_one h)
  have H2 : Hid ((wordsP s st).2.length ≠ 1 → oneP s st = false) := (show _ from oneP_else)
  have HL : Hid ((wordsP s st).2.length ≤ maxLen ∨ True) := (show _ from .inr trivial)
  generalize oneP s st = B at H1 H2 ⊢
  generalize wordsP s st = q at X H1 H2
  obtain ⟨er, l⟩ := q
  simp only at X H1 H2
  clear hT hv hs HL
  go_enter Tryd.func15, Tryd.ntmps15
  go_wp2_with fail
  refine X.mono ?_
  rintro e w1 ⟨rv, rfl, hn, b1⟩
  have ha := newWords.at hn
  have B1 : Hid (Below w.heap.size w w1) := (show _ from b1)
  clear X hn b1
  by_cases h1 : l.length = 1
  · obtain ⟨x, rfl⟩ := List.length_eq_one_iff.1 h1
    have hb := H1.out x rfl
    obtain ⟨g, c, rfl, hc, c0, _⟩ := ha.first
    obtain ⟨x1, x2⟩ := x
    simp only at c0 hb
    have HB : Hid (B = (x1.toList == s.toList)) := (show _ from hb)
    clear ha h1 hb H1 H2
    cases hq : (x1.toList == s.toList) with
    | true =>
      have HB' : Hid (B = true) := (show B = true from HB.out.trans hq)
      go_wp2
      go_ret
      exact ⟨by rw [HB'.out]; rfl, B1.out⟩
    | false =>
      have HB' : Hid (B = false) := (show B = false from HB.out.trans hq)
      go_wp2
      go_ret
      exact ⟨by rw [HB'.out]; rfl, B1.out⟩
  · have hb := H2.out h1
    obtain ⟨a, c, rfl, _, _, _⟩ := ha
    have h1' : ¬ (l.length : Int) = 1 := by omega
    have HB : Hid (B = false) := (show B = false from hb)
    clear hb H1 H2 h1
    go_wp2
    go_ret
    exact ⟨by rw [HB.out]; rfl, B1.out⟩
end Go.Proofs.YthjfalbchkbdfaaDoor

/- words.MayStops. -/
namespace Go.Proofs.YthjfalbchkbdfaaDoor
set_option linter.unusedSimpArgs false
set_option linter.unusedVariables false
open Go.RowKit Go.Deep

/-- may a stop word stand at its place? -/
def mayA (one : Bool) (i : Nat) (p x : ByteArray) : Bool := one && (decide (i = 0) || Op.bytesLess p.toList x.toList)
def maySt (st : List ByteArray) (i : Nat) : Bool := mayA (oneP (st.getD i ByteArray.empty) []) i (st.getD (i - 1) ByteArray.empty) (st.getD i ByteArray.empty)
def mayP (st : List ByteArray) : Bool := decide (st.length ≤ 32) && (List.range st.length).all (maySt st)
theorem mayP_much {st : List ByteArray} (h : ¬ st.length ≤ 32) : mayP st = false := by unfold mayP; rw [decide_eq_false h]; rfl
theorem mayP_no {st : List ByteArray} {i : Nat} (hi : i < st.length) (h : maySt st i = false) : mayP st = false := by
  have e : (List.range st.length).all (maySt st) = false := by
    rw [Bool.eq_false_iff]
    intro hc
    have := List.all_eq_true.1 hc i (List.mem_range.2 hi)
    rw [h] at this
    cases this
  unfold mayP
  rw [e]
  exact Bool.and_false _
theorem mayP_yes {st : List ByteArray} (h : st.length ≤ 32) (ha : ∀ i, i < st.length → maySt st i = true) : mayP st = true := by
  unfold mayP
  rw [decide_eq_true h, List.all_eq_true.2 fun i hi => ha i (List.mem_range.1 hi)]; rfl
set_option maxHeartbeats 8000000 in
set_option maxRecDepth 100000 in
theorem mayStops_any (v : Value) (st : List ByteArray) (w : World) (hT : utT w) (hv : strsAt w v st) :
    Calls Tryd.prog 17 #[v] w fun e w' => e = .returned (.bool (mayP st)) ∧ Below w.heap.size w w' := by
  obtain ⟨va, vc, rfl, hvc, _, hl, hrow⟩ := hv.slice
  have hm : (st.length : Int) ≤ 9223372036854775807 := by unfold maxLen at hl; omega
  have M1 : Hid (¬ st.length ≤ 32 → mayP st = false) := (show _ from mayP_much)
  have M2 : Hid (∀ i, i < st.length → maySt st i = false → mayP st = false) := (show _ from fun i hi h => mayP_no hi h)
  have M3 : Hid (st.length ≤ 32 → (∀ i, i < st.length → maySt st i = true) → mayP st = true) := (show _ from mayP_yes)
  generalize mayP st = B at M1 M2 M3 ⊢
  have HT : Hid (utT w) := (show utT w from hT)
  have HR : Hid _ := hrow
  clear hT hv hrow hl
  go_enter Tryd.func17, Tryd.ntmps17
  by_cases h32 : st.length ≤ 32
  · have h32' : ¬ (st.length : Int) > 32 := by omega
    go_wp2
    go_loopw [10] (fun i wr => ∃ j : Nat, j ≤ st.length ∧ i = .int .i64 (j : Int) ∧ (∀ k, k < j → maySt st k = true) ∧ Below w.heap.size w wr) (fun i _ => st.length - (intOf i).toNat)
    case atStart => exact ⟨0, Nat.zero_le _, rfl, fun k h => absurd h (Nat.not_lt_zero k), Below.refl _ _⟩
    case round =>
      obtain ⟨j, hj, rfl, hall, hb⟩ := hrel
      have HA : Hid (∀ k, k < j → maySt st k = true) := (show _ from hall)
      have HB : Hid (Below w.heap.size w wr) := (show _ from hb)
      have j0 : (0 : Int) ≤ (j : Int) := by omega
      clear hall
      by_cases hlt : j < st.length
      · obtain ⟨pb, po, rfl, hpb, hcell⟩ := HR.out (by omega)
        have cellAt : ∀ i, i < st.length → wr.cell? ⟨pb, po + i, none⟩ = some (.string (st.getD i ByteArray.empty)) ∧ (st.getD i ByteArray.empty).size ≤ maxLen := fun i hi => by
          have h1 := hcell i (st.getD i ByteArray.empty) (by rw [List.getD_eq_getElem?_getD, List.getElem?_eq_getElem hi]; rfl)
          exact ⟨(hb.cell (p := ⟨pb, po + i, none⟩) hpb).trans h1.1, h1.2⟩
        obtain ⟨cj, sj⟩ := cellAt j hlt
        have XO := one_any (st.getD j ByteArray.empty) sj (.slice none 0 0) [] wr (HT.out.below hb) (.inl ⟨rfl, rfl⟩)
        have hS : maySt st j = mayA (oneP (st.getD j ByteArray.empty) []) j (st.getD (j - 1) ByteArray.empty) (st.getD j ByteArray.empty) := rfl
        have CA : Hid _ := cellAt
        obtain ⟨one, hone⟩ : ∃ one, one = oneP (st.getD j ByteArray.empty) [] := ⟨_, rfl⟩
        rw [← hone] at XO hS
        obtain ⟨x, hx⟩ : ∃ x, x = st.getD j ByteArray.empty := ⟨_, rfl⟩
        rw [← hx] at XO hS cj
        obtain ⟨y, hy⟩ : ∃ y, y = st.getD (j - 1) ByteArray.empty := ⟨_, rfl⟩
        rw [← hy] at hS
        have HS : Hid (maySt st j = mayA one j y x) := (show _ from hS)
        have HY : Hid (y = st.getD (j - 1) ByteArray.empty) := (show _ from hy)
        have j1 : (j : Int) < (st.length : Int) := by omega
        have cjl : ∀ z : Nat, z = po + j → wr.cell? ⟨pb, z, none⟩ = some (.string x) := fun z hz => by rw [hz]; exact cj
        clear hcell cellAt hone hx hy hS sj
        go_wp2_with fail
        refine XO.mono ?_
        rintro e w1 ⟨rfl, b1⟩
        have B1 : Hid (Below w.heap.size w w1) := (show _ from HB.out.trans (b1.mono HB.out.size))
        have BB : Hid (Below wr.heap.size wr w1) := (show _ from b1)
        clear XO b1 cj cjl hb
        cases one with
        | false =>
          have hr : B = false := M2.out j hlt HS.out
          go_wp2
          go_ret
          exact ⟨by rw [hr]; rfl, B1.out⟩
        | true =>
          by_cases hj0 : j = 0
          · have hr : maySt st j = true := by rw [HS.out, hj0]; rfl
            have HR2 : Hid (maySt st j = true) := (show _ from hr)
            have hj0' : ¬ (j : Int) > 0 := by omega
            clear hr hj0
            go_wp2
            go_light
            refine ⟨⟨j + 1, by omega, by go_num, fun k hk => ?_, B1.out⟩, by simp [intOf]; omega⟩
            by_cases hk' : k = j
            · rw [hk']; exact HR2.out
            · exact HA.out k (by omega)
          · have hj0' : (j : Int) > 0 := by omega
            obtain ⟨cy, _⟩ := CA.out (j - 1) (by omega)
            rw [← HY.out] at cy
            have hpl : pb < wr.heap.size := Nat.lt_of_lt_of_le hpb HB.out.size
            have cy1 : ∀ z : Nat, z = po + (j - 1) → w1.cell? ⟨pb, z, none⟩ = some (.string y) := fun z hz => by rw [hz]; exact (BB.out.cell (p := ⟨pb, po + (j - 1), none⟩) hpl).trans cy
            have e1 : (j : Int) - 1 = ((j - 1 : Nat) : Int) := by omega
            have e2 : ((j - 1 : Nat) : Int) < (st.length : Int) := by omega
            clear cy
            cases hq : Op.bytesLess y.toList x.toList with
            | true =>
              have hr : maySt st j = true := by rw [HS.out]; unfold mayA; rw [hq]; simp
              have HR2 : Hid (maySt st j = true) := (show _ from hr)
              clear hr
              go_wp2
              go_light
              refine ⟨⟨j + 1, by omega, by go_num, fun k hk => ?_, B1.out⟩, by simp [intOf]; omega⟩
              by_cases hk' : k = j
              · rw [hk']; exact HR2.out
              · exact HA.out k (by omega)
            | false =>
              have hr0 : maySt st j = false := by rw [HS.out]; unfold mayA; rw [hq, decide_eq_false hj0]; rfl
              have hr : B = false := M2.out j hlt hr0
              clear hr0
              go_wp2
              go_ret
              exact ⟨by rw [hr]; rfl, B1.out⟩
      · obtain rfl : j = st.length := by omega
        have hr : B = true := M3.out h32 HA.out
        go_wp2
        go_ret
        exact ⟨by rw [hr]; rfl, HB.out⟩
  · have h32' : (st.length : Int) > 32 := by omega
    have hr := M1.out h32
    go_wp2
    go_ret
    exact ⟨by rw [hr]; rfl, Below.refl _ _⟩
end Go.Proofs.YthjfalbchkbdfaaDoor

/- Rows of texts of one's own. -/
namespace Go.Proofs.YthjfalbchkbdfaaDoor
set_option linter.unusedSimpArgs false
set_option linter.unusedVariables false
open Go.RowKit Go.Deep

theorem strsAt.one (w : World) (x : ByteArray) (hx : x.size ≤ maxLen) : strsAt (w.alloc (.cells #[.string x] 9)) (.slice (some ⟨w.heap.size, 0, none⟩) 1 1) [x] :=
  .inr ⟨w.heap.size, 0, 1, rfl, Nat.le_refl _, by unfold maxLen; omega, by simp, fun i s hi => by
    match i, hi with
    | 0, hi =>
      obtain rfl := Option.some.inj hi
      exact ⟨by rw [cell_of_row _ _ _ _ _ _ (blk_alloc_new w _)]; rfl, hx⟩⟩
theorem strsAt.two (w : World) (x y : ByteArray) (hx : x.size ≤ maxLen) (hy : y.size ≤ maxLen) : strsAt (w.alloc (.cells #[.string x, .string y] 9)) (.slice (some ⟨w.heap.size, 0, none⟩) 2 2) [x, y] :=
  .inr ⟨w.heap.size, 0, 2, rfl, Nat.le_refl _, by unfold maxLen; omega, by simp, fun i s hi => by
    match i, hi with
    | 0, hi =>
      obtain rfl := Option.some.inj hi
      exact ⟨by rw [cell_of_row _ _ _ _ _ _ (blk_alloc_new w _)]; rfl, hx⟩
    | 1, hi =>
      obtain rfl := Option.some.inj hi
      exact ⟨by rw [cell_of_row _ _ _ _ _ _ (blk_alloc_new w _)]; rfl, hy⟩⟩
/-- texts, in memory of one's own. -/
def newStrs (w : World) (B : Nat) (v : Value) (L : List ByteArray) : Prop := w.ownsRow B 9 1 v L.length (L.map Value.string) ∧ ∀ s ∈ L, s.size ≤ maxLen
theorem newStrs.zero (w : World) (B : Nat) : newStrs w B (.slice none 0 0) [] := ⟨⟨rfl, .inl ⟨rfl, rfl⟩⟩, fun s h => by cases h⟩
theorem newStrs.empty (w : World) (B : Nat) (hB : B ≤ w.heap.size) : newStrs (w.alloc (.cells #[] 9)) B (.slice (some ⟨w.heap.size, 0, none⟩) 0 0) [] :=
  ⟨⟨rfl, Or.inr ⟨w.heap.size, 0, #[], rfl, hB, blk_alloc_new _ _, Nat.le_refl _, by unfold maxLen; omega, rfl, rfl⟩⟩, fun s h => by cases h⟩
theorem newStrs.below {w w' : World} {B : Nat} {v : Value} {L : List ByteArray} (h : newStrs w B v L) (hb : Below w.heap.size w w') : newStrs w' B v L :=
  ⟨ownsRow_far h.1 fun k hk => hb.block k (ownsRow_block h.1 k hk).2, h.2⟩
theorem newStrs.slice {w : World} {B : Nat} {v : Value} {L : List ByteArray} (h : newStrs w B v L) : ∃ a c, v = .slice a L.length c := by
  obtain ⟨a, c, e, _⟩ := ownsRow_slice h.1; exact ⟨a, c, e⟩
theorem newStrs.at {w : World} {B : Nat} {v : Value} {L : List ByteArray} (h : newStrs w B v L) : strsAt w v L := by
  obtain ⟨⟨hl, h1 | ⟨g, cap, cur, rfl, hg, hbk, hc, hm, hcs, htk⟩⟩, h2⟩ := h
  · exact .inl ⟨h1.1, List.length_eq_zero_iff.1 h1.2⟩
  · refine .inr ⟨g, 0, cap, rfl, hc, hm, (Array.getElem?_eq_some_iff.1 hbk).1, fun i s hi => ⟨?_, h2 s (List.mem_of_getElem? hi)⟩⟩
    rw [cell_of_row _ _ _ _ _ _ hbk]
    have hi' : i < L.length := (List.getElem?_eq_some_iff.1 hi).1
    have h3 : (L.map Value.string)[i]? = some (.string s) := by rw [List.getElem?_map, hi]; rfl
    rw [← htk, List.getElem?_take, if_pos (by omega), Array.getElem?_toList] at h3
    rw [Nat.zero_add]
    exact h3
end Go.Proofs.YthjfalbchkbdfaaDoor

/- awake: the chapter's examples. -/
namespace Go.Proofs.YthjfalbchkbdfaaDoor
set_option linter.unusedSimpArgs false
set_option linter.unusedVariables false
open Go.RowKit Go.Deep

theorem kw1 : wordsP { data := #[84, 104, 101, 32, 99, 97, 116, 44, 32, 116, 104, 101, 32, 67, 65, 84, 45, 51, 33] } [{ data := #[116, 104, 101] }] = (0, [({ data := #[99, 97, 116] }, 1), ({ data := #[99, 97, 116] }, 3), ({ data := #[51] }, 4)]) := by kernel_rfl
theorem kw2 : wordsP { data := #[255] } [] = (8, []) := by kernel_rfl
theorem ko1 : oneP { data := #[99, 97, 116] } [] = true := by kernel_rfl
theorem ko2 : oneP { data := #[67, 97, 116] } [] = false := by kernel_rfl
theorem ko3 : oneP { data := #[97, 32, 99, 97, 116] } [] = false := by kernel_rfl
theorem ko4 : oneP { data := #[116, 104, 101] } [{ data := #[116, 104, 101] }] = false := by kernel_rfl
theorem km1 : mayP [{ data := #[97] }, { data := #[116, 104, 101] }] = true := by kernel_rfl
theorem km2 : mayP [{ data := #[116, 104, 101] }, { data := #[97] }] = false := by kernel_rfl
theorem km3 : mayP [{ data := #[97, 32, 98] }] = false := by kernel_rfl
set_option maxHeartbeats 8000000 in
set_option maxRecDepth 100000 in
theorem awake_any (w : World) (hT : utT w) :
    Calls Tryd.prog 10 #[] w fun e w' => e = .returned (.bool true) ∧ Below w.heap.size w w' := by
  have HT : Hid (utT w) := (show utT w from hT)
  have lenM : ∀ n : Nat, n ≤ 100 → n ≤ maxLen := fun n h => by unfold maxLen; omega
  have HLEN : Hid (∀ n : Nat, n ≤ 100 → n ≤ maxLen) := (show _ from lenM)
  clear hT lenM
  go_enter Tryd.func10, Tryd.ntmps10
  obtain ⟨v1, hv1⟩ : ∃ v, v = w.alloc (.cells #[.string { data := #[116, 104, 101] }] 9) := ⟨_, rfl⟩
  have st1 : strsAt v1 (.slice (some ⟨w.heap.size, 0, none⟩) 1 1) [{ data := #[116, 104, 101] }] := by rw [hv1]; exact strsAt.one _ { data := #[116, 104, 101] } (HLEN.out _ (by decide))
  have bb1 : Below w.heap.size w v1 := by rw [hv1]; exact (Below.refl w.heap.size w).alloc (Below.refl w.heap.size w).size _
  have X1 := words_any { data := #[84, 104, 101, 32, 99, 97, 116, 44, 32, 116, 104, 101, 32, 67, 65, 84, 45, 51, 33] } (HLEN.out _ (by decide)) _ [{ data := #[116, 104, 101] }] v1 (HT.out.below bb1) st1
  rw [kw1] at X1
  go_wp2_with fail
  rw [← hv1]
  refine X1.mono ?_
  rintro e w1 ⟨r1, rfl, n1, b1⟩
  have B1 : Hid (Below w.heap.size w w1) := (show Below w.heap.size w w1 from bb1.trans (b1.mono bb1.size))
  have BN1 : Hid (Below v1.heap.size v1 w1) := (show _ from b1)
  obtain ⟨a1, c1, rfl, hc1, hm1, hr1⟩ := newWords.at n1
  obtain ⟨g, rfl, hg, hcell⟩ := hr1 (by simp)
  have HC : Hid _ := hcell
  have HG : Hid (g < w1.heap.size) := (show _ from hg)
  simp only [List.length_cons, List.length_nil, Nat.zero_add, Nat.reduceAdd] at hc1
  clear n1 hr1 hcell hg hm1
  clear X1 b1 st1 bb1 hv1
  have X2 := words_any { data := #[255] } (HLEN.out _ (by decide)) _ [] w1 (HT.out.below B1.out) (.inl ⟨rfl, rfl⟩)
  rw [kw2] at X2
  go_wp2_with fail
  refine X2.mono ?_
  rintro e w2 ⟨r2, rfl, n2, b2⟩
  have B2 : Hid (Below w.heap.size w w2) := (show Below w.heap.size w w2 from B1.out.trans (b2.mono B1.out.size))
  have BN2 : Hid (Below w1.heap.size w1 w2) := (show _ from b2)
  obtain ⟨a2, c2, rfl, hc2, hm2, hr2⟩ := newWords.at n2
  clear n2 hr2 hm2 hc2
  have k0 : w2.cell? ⟨g, 0, none⟩ = some (.string { data := #[99, 97, 116] }) ∧ w2.cell? ⟨g, 1, none⟩ = some (.int .i64 1) := ⟨(BN2.out.cell (p := ⟨g, 0, none⟩) HG.out).trans (HC.out 0 _ rfl).1, (BN2.out.cell (p := ⟨g, 1, none⟩) HG.out).trans (HC.out 0 _ rfl).2⟩
  have k1 : w2.cell? ⟨g, 2, none⟩ = some (.string { data := #[99, 97, 116] }) ∧ w2.cell? ⟨g, 3, none⟩ = some (.int .i64 3) := ⟨(BN2.out.cell (p := ⟨g, 2, none⟩) HG.out).trans (HC.out 1 _ rfl).1, (BN2.out.cell (p := ⟨g, 3, none⟩) HG.out).trans (HC.out 1 _ rfl).2⟩
  have k2 : w2.cell? ⟨g, 4, none⟩ = some (.string { data := #[51] }) ∧ w2.cell? ⟨g, 5, none⟩ = some (.int .i64 4) := ⟨(BN2.out.cell (p := ⟨g, 4, none⟩) HG.out).trans (HC.out 2 _ rfl).1, (BN2.out.cell (p := ⟨g, 5, none⟩) HG.out).trans (HC.out 2 _ rfl).2⟩
  obtain ⟨p0, p1⟩ := k0
  obtain ⟨p2, p3⟩ := k1
  obtain ⟨p4, p5⟩ := k2
  clear X2 b2
  have X3 := one_any { data := #[99, 97, 116] } (HLEN.out _ (by decide)) _ [] w2 (HT.out.below B2.out) (.inl ⟨rfl, rfl⟩)
  rw [ko1] at X3
  go_wp2_with fail
  refine X3.mono ?_
  rintro e w3 ⟨rfl, b3⟩
  have B3 : Hid (Below w.heap.size w w3) := (show Below w.heap.size w w3 from B2.out.trans (b3.mono B2.out.size))
  have BN3 : Hid (Below w2.heap.size w2 w3) := (show _ from b3)
  clear X3 b3
  have X4 := one_any { data := #[67, 97, 116] } (HLEN.out _ (by decide)) _ [] w3 (HT.out.below B3.out) (.inl ⟨rfl, rfl⟩)
  rw [ko2] at X4
  go_wp2_with fail
  refine X4.mono ?_
  rintro e w4 ⟨rfl, b4⟩
  have B4 : Hid (Below w.heap.size w w4) := (show Below w.heap.size w w4 from B3.out.trans (b4.mono B3.out.size))
  have BN4 : Hid (Below w3.heap.size w3 w4) := (show _ from b4)
  clear X4 b4
  have X5 := one_any { data := #[97, 32, 99, 97, 116] } (HLEN.out _ (by decide)) _ [] w4 (HT.out.below B4.out) (.inl ⟨rfl, rfl⟩)
  rw [ko3] at X5
  go_wp2_with fail
  refine X5.mono ?_
  rintro e w5 ⟨rfl, b5⟩
  have B5 : Hid (Below w.heap.size w w5) := (show Below w.heap.size w w5 from B4.out.trans (b5.mono B4.out.size))
  have BN5 : Hid (Below w4.heap.size w4 w5) := (show _ from b5)
  clear X5 b5
  obtain ⟨v6, hv6⟩ : ∃ v, v = w5.alloc (.cells #[.string { data := #[116, 104, 101] }] 9) := ⟨_, rfl⟩
  have st6 : strsAt v6 (.slice (some ⟨w5.heap.size, 0, none⟩) 1 1) [{ data := #[116, 104, 101] }] := by rw [hv6]; exact strsAt.one _ { data := #[116, 104, 101] } (HLEN.out _ (by decide))
  have bb6 : Below w.heap.size w v6 := by rw [hv6]; exact B5.out.alloc B5.out.size _
  have X6 := one_any { data := #[116, 104, 101] } (HLEN.out _ (by decide)) _ [{ data := #[116, 104, 101] }] v6 (HT.out.below bb6) st6
  rw [ko4] at X6
  go_wp2_with fail
  rw [← hv6]
  refine X6.mono ?_
  rintro e w6 ⟨rfl, b6⟩
  have B6 : Hid (Below w.heap.size w w6) := (show Below w.heap.size w w6 from bb6.trans (b6.mono bb6.size))
  have BN6 : Hid (Below v6.heap.size v6 w6) := (show _ from b6)
  clear X6 b6 st6 bb6 hv6
  obtain ⟨v7, hv7⟩ : ∃ v, v = w6.alloc (.cells #[.string { data := #[97] }, .string { data := #[116, 104, 101] }] 9) := ⟨_, rfl⟩
  have st7 : strsAt v7 (.slice (some ⟨w6.heap.size, 0, none⟩) 2 2) [{ data := #[97] }, { data := #[116, 104, 101] }] := by rw [hv7]; exact strsAt.two _ { data := #[97] } { data := #[116, 104, 101] } (HLEN.out _ (by decide)) (HLEN.out _ (by decide))
  have bb7 : Below w.heap.size w v7 := by rw [hv7]; exact B6.out.alloc B6.out.size _
  have X7 := mayStops_any _ [{ data := #[97] }, { data := #[116, 104, 101] }] v7 (HT.out.below bb7) st7
  rw [km1] at X7
  go_wp2_with fail
  rw [← hv7]
  refine X7.mono ?_
  rintro e w7 ⟨rfl, b7⟩
  have B7 : Hid (Below w.heap.size w w7) := (show Below w.heap.size w w7 from bb7.trans (b7.mono bb7.size))
  have BN7 : Hid (Below v7.heap.size v7 w7) := (show _ from b7)
  clear X7 b7 st7 bb7 hv7
  obtain ⟨v8, hv8⟩ : ∃ v, v = w7.alloc (.cells #[.string { data := #[116, 104, 101] }, .string { data := #[97] }] 9) := ⟨_, rfl⟩
  have st8 : strsAt v8 (.slice (some ⟨w7.heap.size, 0, none⟩) 2 2) [{ data := #[116, 104, 101] }, { data := #[97] }] := by rw [hv8]; exact strsAt.two _ { data := #[116, 104, 101] } { data := #[97] } (HLEN.out _ (by decide)) (HLEN.out _ (by decide))
  have bb8 : Below w.heap.size w v8 := by rw [hv8]; exact B7.out.alloc B7.out.size _
  have X8 := mayStops_any _ [{ data := #[116, 104, 101] }, { data := #[97] }] v8 (HT.out.below bb8) st8
  rw [km2] at X8
  go_wp2_with fail
  rw [← hv8]
  refine X8.mono ?_
  rintro e w8 ⟨rfl, b8⟩
  have B8 : Hid (Below w.heap.size w w8) := (show Below w.heap.size w w8 from bb8.trans (b8.mono bb8.size))
  have BN8 : Hid (Below v8.heap.size v8 w8) := (show _ from b8)
  clear X8 b8 st8 bb8 hv8
  obtain ⟨v9, hv9⟩ : ∃ v, v = w8.alloc (.cells #[.string { data := #[97, 32, 98] }] 9) := ⟨_, rfl⟩
  have st9 : strsAt v9 (.slice (some ⟨w8.heap.size, 0, none⟩) 1 1) [{ data := #[97, 32, 98] }] := by rw [hv9]; exact strsAt.one _ { data := #[97, 32, 98] } (HLEN.out _ (by decide))
  have bb9 : Below w.heap.size w v9 := by rw [hv9]; exact B8.out.alloc B8.out.size _
  have X9 := mayStops_any _ [{ data := #[97, 32, 98] }] v9 (HT.out.below bb9) st9
  rw [km3] at X9
  go_wp2_with fail
  rw [← hv9]
  refine X9.mono ?_
  rintro e w9 ⟨rfl, b9⟩
  have B9 : Hid (Below w.heap.size w w9) := (show Below w.heap.size w w9 from bb9.trans (b9.mono bb9.size))
  have BN9 : Hid (Below v9.heap.size v9 w9) := (show _ from b9)
  clear X9 b9 st9 bb9 hv9
  go_wp2
  go_ret
  exact ⟨rfl, B9.out⟩
end Go.Proofs.YthjfalbchkbdfaaDoor

/- Layer 9, pure: the words of two texts with a blank between; those that are left. -/
namespace Go.Proofs.YthjfalbchkbdfaaDoor
set_option linter.unusedVariables false

theorem wFil_get {l : List ByteArray} {i j : Nat} (h : j < l.length) : (wFil [] i l)[j]? = some (smS l[j], i + j) := by
  rw [wFil_none, List.getElem?_eq_getElem h]; rfl
/-- what WordsJoins says, of plain answers. -/
def joinsP (x y z : Nat × List (ByteArray × Nat)) : Prop :=
  ((x.1 ≠ 0 ∨ y.1 ≠ 0) → z.1 ≠ 0) ∧ (x.1 = 0 → y.1 = 0 → 48 < x.2.length + y.2.length → z.1 = 7) ∧
  (x.1 = 0 → y.1 = 0 → x.2.length + y.2.length ≤ 48 → z.1 = 0 ∧ z.2.length = x.2.length + y.2.length ∧
    (∀ i, i < x.2.length → ∃ t m, z.2[i]? = some (t, m) ∧ x.2[i]? = some (t, m)) ∧ ∀ m, m < y.2.length → ∃ t, y.2[m]? = some (t, m) ∧ z.2[x.2.length + m]? = some (t, x.2.length + m))
/-- the runs that count. -/
def leftM (s : ByteArray) : List ByteArray := if errP s = 0 then rl s else []
theorem words_left (s : ByteArray) (st : List ByteArray) : wordsP s st = (errP s, wFil st 0 (leftM s)) := by
  rw [wordsP_is]
  unfold leftM
  by_cases h : errP s = 0
  · rw [if_pos h, if_pos h]
  · rw [if_neg h, if_neg h]; rfl
end Go.Proofs.YthjfalbchkbdfaaDoor

/- Layer 9, pure: a text in small letters has the same runs, small. -/
namespace Go.Proofs.YthjfalbchkbdfaaDoor
set_option linter.unusedVariables false

theorem smN_low {b : Nat} : (smN b < 128 ↔ b < 128) ∧ (128 ≤ b → smN b = b) := by unfold smN; split <;> omega
set_option maxHeartbeats 2000000 in
theorem nxN_sm (n b0 b1 b2 b3 : Nat) : nxN n (smN b0) (smN b1) (smN b2) (smN b3) = (smN (nxN n b0 b1 b2 b3).1, (nxN n b0 b1 b2 b3).2) := by
  obtain ⟨l0, e0⟩ := smN_low (b := b0)
  obtain ⟨l1, e1⟩ := smN_low (b := b1)
  obtain ⟨l2, e2⟩ := smN_low (b := b2)
  obtain ⟨l3, e3⟩ := smN_low (b := b3)
  by_cases h0 : n = 0
  · rw [nxN_is, nxN_is, if_pos h0, if_pos h0]; rfl
  by_cases a0 : b0 < 128
  · rw [nxN_is, nxN_is, if_neg h0, if_neg h0, if_pos a0, if_pos (l0.2 a0)]
  rw [e0 (by omega)]
  rw [nxN_is n b0 b1 b2 b3, nxN_is, if_neg h0, if_neg h0, if_neg a0, if_neg a0]
  have keep : ∀ c, 128 ≤ c → smN c = c := fun c h => by unfold smN; split <;> omega
  have z0 : smN 0 = 0 := rfl
  generalize smN b1 = c1 at l1 e1 ⊢
  generalize smN b2 = c2 at l2 e2 ⊢
  generalize smN b3 = c3 at l3 e3 ⊢
  have f1 : c1 / 64 = 2 ↔ b1 / 64 = 2 := by omega
  have f2 : c2 / 64 = 2 ↔ b2 / 64 = 2 := by omega
  have f3 : c3 / 64 = 2 ↔ b3 / 64 = 2 := by omega
  have g1 : b1 / 64 = 2 → c1 = b1 := by omega
  have g2 : b2 / 64 = 2 → c2 = b2 := by omega
  have g3 : b3 / 64 = 2 → c3 = b3 := by omega
  by_cases p1 : b1 / 64 = 2
  · rw [g1 p1]
    by_cases p2 : b2 / 64 = 2
    · rw [g2 p2]
      by_cases p3 : b3 / 64 = 2
      · rw [g3 p3]
        repeat' split
        all_goals first | (rw [keep _ (by omega)]) | rw [z0]
      · have q3 : ¬ c3 / 64 = 2 := fun h => p3 (f3.1 h)
        simp only [p3, q3, and_false, false_and, if_false]
        repeat' split
        all_goals first | (rw [keep _ (by omega)]) | rw [z0]
    · have q2 : ¬ c2 / 64 = 2 := fun h => p2 (f2.1 h)
      simp only [p2, q2, and_false, false_and, if_false]
      repeat' split
      all_goals first | (rw [keep _ (by omega)]) | rw [z0]
  · have q1 : ¬ c1 / 64 = 2 := fun h => p1 (f1.1 h)
    simp only [p1, q1, and_false, false_and, if_false]
    rfl
theorem nx_smS (s : ByteArray) (k : Nat) : nx (smS s) k = (smN (nx s k).1, (nx s k).2) := by
  unfold nx
  rw [smS_size, bt_smS, bt_smS, bt_smS, bt_smS, nxN_sm]
theorem let_sm (c : Nat) : letB (smN c : Int) = letB (c : Int) := by
  unfold smN
  split
  · rename_i h
    have h1 : letB ((c + 32 : Nat) : Int) = true := by
      rw [letB_is]
      exact ⟨2, by omega, by show (97 : Int) ≤ _; omega, by show _ ≤ (122 : Int); omega⟩
    have h2 : letB (c : Int) = true := by
      rw [letB_is]
      exact ⟨1, by omega, by show (65 : Int) ≤ _; omega, by show _ ≤ (90 : Int); omega⟩
    rw [h1, h2]
  · rfl
theorem stop_sm (s : ByteArray) (b : Bool) (k : Nat) : stopP (smS s) b k ↔ stopP s b k := by
  unfold stopP; rw [nx_smS]; simp only [let_sm]
theorem psF_sm (s : ByteArray) (b : Bool) : ∀ f k, psF (smS s) b f k = psF s b f k
  | 0, _ => rfl
  | f + 1, k => by
    rw [psF, psF, nx_smS]
    simp only [stop_sm, psF_sm s b f]
theorem ps_sm (s : ByteArray) (b : Bool) (k : Nat) : ps (smS s) b k = ps s b k := by
  unfold ps; rw [smS_size, psF_sm]
theorem smS_extract (s : ByteArray) (i j : Nat) : (smS s).extract i j = smS (s.extract i j) := by
  unfold smS strOf sBytes
  apply ByteArray.ext
  simp [ByteArray.data_extract]
theorem rlF_sm (s : ByteArray) : ∀ f k, rlF (smS s) f k = (rlF s f k).map smS
  | 0, _ => rfl
  | f + 1, k => by
    rw [rlF, rlF]
    simp only [ps_sm, smS_extract, rlF_sm s f]
    split <;> rfl
theorem rl_sm (s : ByteArray) : rl (smS s) = (rl s).map smS := by unfold rl rlAt; rw [smS_size, rlF_sm]
end Go.Proofs.YthjfalbchkbdfaaDoor

/- Layer 9, pure: the words that are left. -/
namespace Go.Proofs.YthjfalbchkbdfaaDoor
set_option linter.unusedVariables false

theorem leftM_mem {s r : ByteArray} (h : r ∈ leftM s) : r ∈ rl s ∧ r.size ≤ 24 := by
  unfold leftM at h
  by_cases e : errP s = 0
  · rw [if_pos e] at h; exact ⟨h, (wErr_ok (errP_ok e).2).1 r h⟩
  · rw [if_neg e] at h; cases h
theorem one_sm {s r : ByteArray} (h : r ∈ leftM s) : oneP (smS r) [] = true := by
  obtain ⟨h1, h2⟩ := leftM_mem h
  obtain ⟨e1, e2, e3⟩ := rl_one h1
  rw [oneP_is]
  exact ⟨by rw [rl_sm, e2]; rfl, by rw [fl_small, smS_size, e1], smS_again r, by rw [smS_size]; exact h2⟩
theorem wErr_sm : ∀ (l : List ByteArray) (i : Nat), wErr i (l.map smS) = wErr i l
  | [], _ => rfl
  | r :: t, i => by rw [List.map_cons, wErr, wErr, smS_size, wErr_sm t]
theorem wFil_sm (st : List ByteArray) : ∀ (l : List ByteArray) (i : Nat), wFil st i (l.map smS) = wFil st i l
  | [], _ => rfl
  | r :: t, i => by rw [List.map_cons, wFil, wFil, smS_again, wFil_sm st t]
theorem errP_sm (s : ByteArray) : errP (smS s) = errP s := by
  unfold errP; rw [fl_small, smS_size, rl_sm, wErr_sm]
theorem words_sm (s : ByteArray) : wordsP (smS s) [] = wordsP s [] := by
  rw [wordsP_is, wordsP_is, errP_sm, rl_sm, wFil_sm]
/-- a round of WordsLeft. -/
theorem left_round (s : ByteArray) (st : List ByteArray) (i : Nat) (h : i < (leftM s).length) :
    ∃ q : ByteArray, (wFil [] 0 (leftM s))[i]? = some (q, i) ∧ oneP q [] = true ∧ q.size ≤ 24 ∧ wFil st i ((leftM s).drop i) = if inS st q then wFil st (i + 1) ((leftM s).drop (i + 1)) else (q, i) :: wFil st (i + 1) ((leftM s).drop (i + 1)) := by
  have hm := List.getElem_mem h
  refine ⟨smS (leftM s)[i], by have := wFil_get (i := 0) h; rwa [Nat.zero_add] at this, one_sm hm, by rw [smS_size]; exact (leftM_mem hm).2, ?_⟩
  rw [List.drop_eq_getElem_cons h, wFil]
theorem words_len2 (s : ByteArray) (st : List ByteArray) : (wordsP s st).2.length ≤ s.size := by
  have h : ∀ (l : List ByteArray) (i : Nat), (wFil st i l).length ≤ l.length := by
    intro l
    induction l with
    | nil => intro i; exact Nat.le_refl _
    | cons r t ih =>
      intro i
      have := ih (i + 1)
      rw [wFil]
      split
      · simp only [List.length_cons]; omega
      · simp only [List.length_cons]; omega
  rw [words_left]
  refine Nat.le_trans (h _ _) ?_
  unfold leftM
  split
  · exact rl_length s
  · exact Nat.zero_le _
end Go.Proofs.YthjfalbchkbdfaaDoor

/- The laws' much and kept; the document's Same. -/
namespace Go.Proofs.YthjfalbchkbdfaaDoor
set_option linter.unusedSimpArgs false
set_option linter.unusedVariables false
open Go.RowKit Go.Deep

def muchP (s : ByteArray) (st : List ByteArray) (e : Ending) : Prop := ∃ b, e = .returned (.bool b) ∧ (b = false → s.size ≤ 2000 ∧ st.length ≤ 100)
set_option maxHeartbeats 4000000 in
set_option maxRecDepth 100000 in
theorem much_any (s : ByteArray) (v : Value) (st : List ByteArray) (w : World) (hv : strsAt w v st) :
    Calls Tryd.prog 9 #[.string s, v] w fun e w' => muchP s st e ∧ w' = w := by
  obtain ⟨va, vc, rfl, hvc, _, hl, hrow⟩ := hv.slice
  have hm : (st.length : Int) ≤ 9223372036854775807 := by unfold maxLen at hl; omega
  have HR : Hid _ := hrow
  clear hv hrow hl
  go_enter Tryd.func9, Tryd.ntmps9
  by_cases h1 : (s.size : Int) > 2000
  · go_wp2
    go_ret
    exact ⟨⟨_, rfl, fun h => by cases h⟩, rfl⟩
  · by_cases h2 : (st.length : Int) > 100
    · go_wp2
      go_ret
      exact ⟨⟨_, rfl, fun h => by cases h⟩, rfl⟩
    · go_wp2
      go_loopw [5] (fun i wr => ∃ j : Nat, j ≤ st.length ∧ i = .int .i64 (j : Int) ∧ wr = w) (fun i _ => st.length - (intOf i).toNat)
      case atStart => exact ⟨0, Nat.zero_le _, rfl, rfl⟩
      case round =>
        obtain ⟨j, hj, rfl, rfl⟩ := hrel
        have j0 : (0 : Int) ≤ (j : Int) := by omega
        by_cases hlt : j < st.length
        · obtain ⟨pb, po, rfl, hpb, hcell⟩ := HR.out (by omega)
          obtain ⟨hc, _⟩ := hcell j _ (List.getElem?_eq_getElem hlt)
          generalize st[j] = y at hc
          have j1 : (j : Int) < (st.length : Int) := by omega
          clear hcell
          by_cases h3 : (y.size : Int) > 100
          · go_wp2
            go_ret
            exact ⟨⟨_, rfl, fun h => by cases h⟩, rfl⟩
          · go_wp2
            go_light
            exact ⟨⟨j + 1, by omega, by go_num, by first | rfl | trivial⟩, by simp [intOf]; omega⟩
        · obtain rfl : j = st.length := by omega
          go_wp2
          go_ret
          exact ⟨⟨_, rfl, fun _ => ⟨by omega, by omega⟩⟩, rfl⟩
end Go.Proofs.YthjfalbchkbdfaaDoor

/- The law WordsJoins walked. -/
namespace Go.Proofs.YthjfalbchkbdfaaDoor
set_option linter.unusedSimpArgs false
set_option linter.unusedVariables false
open Go.RowKit Go.Deep

end Go.Proofs.YthjfalbchkbdfaaDoor

/- The law WordsLeft walked. -/
namespace Go.Proofs.YthjfalbchkbdfaaDoor
set_option linter.unusedSimpArgs false
set_option linter.unusedVariables false
open Go.RowKit Go.Deep

set_option maxHeartbeats 32000000 in
set_option maxRecDepth 100000 in
theorem wordsLeft_any (s : ByteArray) (v : Value) (st : List ByteArray) (w : World) (hT : utT w) (hv : strsAt w v st) :
    Calls Tryd.prog 7 #[.string s, v] w fun e w' => e = .returned (.bool true) ∧ Below w.heap.size w w' := by
  obtain ⟨va, vc, rfl, _⟩ := hv.slice
  have X := much_any s _ st w hv
  have HT : Hid (utT w) := (show utT w from hT)
  have HV : Hid (strsAt w (.slice va st.length vc) st) := (show _ from hv)
  clear hT hv
  go_enter Tryd.func7, Tryd.ntmps7
  go_wp2_with fail
  refine X.mono ?_
  rintro e w1 ⟨⟨b, rfl, hb⟩, hw⟩
  obtain rfl := hw
  clear X
  cases b with
  | true =>
    have XA := awake_any w1 HT.out
    go_wp2_with fail
    refine XA.mono ?_
    rintro e w2 ⟨rfl, b2⟩
    clear XA hb
    go_wp2
    go_ret
    exact ⟨rfl, b2⟩
  | false =>
    obtain ⟨h1, h2⟩ := hb rfl
    have HS : Hid (s.size ≤ maxLen) := (show s.size ≤ maxLen from by unfold maxLen; omega)
    have HS2 : Hid (s.size ≤ 2000) := (show s.size ≤ 2000 from h1)
    have X := words_any s HS.out (.slice none 0 0) [] w1 HT.out (.inl ⟨rfl, rfl⟩)
    clear hb h1 h2
    go_wp2_with fail
    refine X.mono ?_
    rintro e w2 ⟨av, rfl, ha, b2⟩
    have B2 : Hid (Below w1.heap.size w1 w2) := (show _ from b2)
    have A2 : Hid (wordsAt w2 av (wordsP s []).2) := (show _ from ha.at)
    have X2 := words_any s HS.out _ st w2 (HT.out.below b2) (HV.out.below b2)
    clear X b2 ha
    go_wp2_with fail
    refine X2.mono ?_
    rintro e w3 ⟨sv, rfl, hs, b3⟩
    have B3 : Hid (Below w1.heap.size w1 w3) := (show Below w1.heap.size w1 w3 from B2.out.trans (b3.mono B2.out.size))
    have A3 : Hid (wordsAt w3 av (wordsP s []).2) := (show _ from A2.out.below b3)
    have S3 : Hid (wordsAt w3 sv (wordsP s st).2) := (show _ from hs.at)
    have X3 := small_any s HS.out w3
    clear X2 b3 hs A2
    go_wp2_with fail
    refine X3.mono ?_
    rintro e w4 ⟨rfl, b4⟩
    have B4 : Hid (Below w1.heap.size w1 w4) := (show Below w1.heap.size w1 w4 from B3.out.trans (b4.mono B3.out.size))
    have A4 : Hid (wordsAt w4 av (wordsP s []).2) := (show _ from A3.out.below b4)
    have S4 : Hid (wordsAt w4 sv (wordsP s st).2) := (show _ from S3.out.below b4)
    have X4 := words_any (smS s) (by rw [smS_size]; exact HS.out) (.slice none 0 0) [] w4 (HT.out.below B4.out) (.inl ⟨rfl, rfl⟩)
    rw [words_sm] at X4
    clear X3 b4 A3 S3
    go_wp2_with fail
    refine X4.mono ?_
    rintro e w5 ⟨mv, rfl, hm, b5⟩
    have B5 : Hid (Below w1.heap.size w1 w5) := (show Below w1.heap.size w1 w5 from B4.out.trans (b5.mono B4.out.size))
    have A5 : Hid (wordsAt w5 av (wordsP s []).2) := (show _ from A4.out.below b5)
    have S5 : Hid (wordsAt w5 sv (wordsP s st).2) := (show _ from S4.out.below b5)
    have M5 : Hid (wordsAt w5 mv (wordsP s []).2) := (show _ from hm.at)
    clear X4 b5 hm A4 S4
    have hal : (wordsP s []).2.length ≤ 2000 := Nat.le_trans (words_len2 s []) HS2.out
    have hsl : (wordsP s st).2.length ≤ 2000 := Nat.le_trans (words_len2 s st) HS2.out
    have hR := left_round s st
    have e1 := words_left s []
    have e2 := words_left s st
    have hML : (wordsP s []).2.length = (leftM s).length := by rw [e1, wFil_length]
    have HSF : Hid ((wordsP s st).2 = wFil st 0 (leftM s)) := (show (wordsP s st).2 = wFil st 0 (leftM s) from by rw [e2])
    rw [show wFil [] 0 (leftM s) = (wordsP s []).2 by rw [e1]] at hR
    rw [show (wordsP s st).1 = (wordsP s []).1 by rw [e1, e2]]
    have HR : Hid _ := hR
    clear hR e1 e2
    generalize (wordsP s []).1 = er
    generalize (wordsP s []).2 = al at *
    generalize (wordsP s st).2 = sl at *
    generalize leftM s = M at *
    obtain ⟨aa, ac, rfl, hac, _, har⟩ := A5.out
    obtain ⟨sa, sc, rfl, hsc, _, hsr⟩ := S5.out
    obtain ⟨ma, mc, rfl, hmc, _, hmr⟩ := M5.out
    have HAR : Hid _ := har
    have HSR : Hid _ := hsr
    have HMR : Hid _ := hmr
    have HML : Hid (al.length = M.length) := (show _ from hML)
    have hali : (al.length : Int) ≤ 2000 := by omega
    have hsli : (sl.length : Int) ≤ 2000 := by omega
    clear har hsr hmr hML hal hsl
    go_wp2
    go_loopw [11, 12] (fun y z wr => ∃ j n : Nat, y = .int .i64 (n : Int) ∧ z = .int .i64 (j : Int) ∧ j ≤ al.length ∧ n ≤ sl.length ∧ sl.drop n = wFil st j (M.drop j) ∧ Below w5.heap.size w5 wr) (fun _ z _ => al.length - (intOf z).toNat)
    case atStart => exact ⟨0, 0, rfl, rfl, Nat.zero_le _, Nat.zero_le _, HSF.out, Below.refl _ _⟩
    case round =>
      obtain ⟨j, n, rfl, rfl, hj, hn, hdr, hb⟩ := hrel
      have HB : Hid (Below w5.heap.size w5 wr) := (show _ from hb)
      have HD : Hid (sl.drop n = wFil st j (M.drop j)) := (show _ from hdr)
      have HN : Hid (n ≤ sl.length) := (show _ from hn)
      have j0 : (0 : Int) ≤ (j : Int) := by omega
      have n0 : (0 : Int) ≤ (n : Int) := by omega
      by_cases hlt : j < al.length
      · have hlt' : (j : Int) < (al.length : Int) := by omega
        obtain ⟨q, eq, hone, hq, hdn⟩ := HR.out j (by have := HML.out; omega)
        obtain ⟨ga, rfl, hga, hca⟩ := HAR.out (by omega)
        obtain ⟨gm, rfl, hgm, hcm⟩ := HMR.out (by omega)
        have c0 := (hb.cell (p := ⟨ga, j * 2, none⟩) hga).trans (hca j _ eq).1
        have c1 := (hb.cell (p := ⟨ga, j * 2 + 1, none⟩) hga).trans (hca j _ eq).2
        have d0 := (hb.cell (p := ⟨gm, j * 2, none⟩) hgm).trans (hcm j _ eq).1
        have d1 := (hb.cell (p := ⟨gm, j * 2 + 1, none⟩) hgm).trans (hcm j _ eq).2
        simp only at c0 c1 d0 d1
        have hga' : ga < wr.heap.size := Nat.lt_of_lt_of_le hga hb.size
        have hgm' : gm < wr.heap.size := Nat.lt_of_lt_of_le hgm hb.size
        have C0 : Hid (∀ wz, Below wr.heap.size wr wz → wz.cell? ⟨ga, j * 2, none⟩ = some (.string q)) := (show ∀ wz, Below wr.heap.size wr wz → wz.cell? ⟨ga, j * 2, none⟩ = some (.string q) from fun wz hz => (hz.cell (p := ⟨ga, j * 2, none⟩) hga').trans c0)
        have C1 : Hid (∀ wz, Below wr.heap.size wr wz → wz.cell? ⟨ga, j * 2 + 1, none⟩ = some (.int .i64 (j : Int))) := (show ∀ wz, Below wr.heap.size wr wz → wz.cell? ⟨ga, j * 2 + 1, none⟩ = some (.int .i64 (j : Int)) from fun wz hz => (hz.cell (p := ⟨ga, j * 2 + 1, none⟩) hga').trans c1)
        have D0 : Hid (∀ wz, Below wr.heap.size wr wz → wz.cell? ⟨gm, j * 2, none⟩ = some (.string q)) := (show ∀ wz, Below wr.heap.size wr wz → wz.cell? ⟨gm, j * 2, none⟩ = some (.string q) from fun wz hz => (hz.cell (p := ⟨gm, j * 2, none⟩) hgm').trans d0)
        have D1 : Hid (∀ wz, Below wr.heap.size wr wz → wz.cell? ⟨gm, j * 2 + 1, none⟩ = some (.int .i64 (j : Int))) := (show ∀ wz, Below wr.heap.size wr wz → wz.cell? ⟨gm, j * 2 + 1, none⟩ = some (.int .i64 (j : Int)) from fun wz hz => (hz.cell (p := ⟨gm, j * 2 + 1, none⟩) hgm').trans d1)
        have XO : Hid (∀ wz, Below wr.heap.size wr wz → Calls Tryd.prog 15 #[.string q, .slice none 0 0] wz fun e w' => e = .returned (.bool true) ∧ Below wz.heap.size wz w') := (show ∀ wz, Below wr.heap.size wr wz → Calls Tryd.prog 15 #[.string q, .slice none 0 0] wz fun e w' => e = .returned (.bool true) ∧ Below wz.heap.size wz w' from fun wz hz => by
          have := one_any q (by unfold maxLen; omega) (.slice none 0 0) [] wz (HT.out.below (B5.out.trans ((HB.out.trans (hz.mono HB.out.size)).mono B5.out.size))) (.inl ⟨rfl, rfl⟩)
          rw [hone] at this
          exact this)
        have HDN : Hid _ := hdn
        have HGA : Hid (ga < wr.heap.size) := (show _ from hga')
        clear hca hcm eq hone hq hdn hga hgm hga' hgm' hb hdr hn hj c0 c1 d0 d1
        go_upto_region 12 with fail
        refine wp_region_noPanic ?_
        refine wp_region_held_drew (S := fun w' => Below wr.heap.size wr w') (by kernel_rfl) ((Below.refl _ _).drew) (fun hHeld => ?_)
        refine take_op (i := 0) (v := ?vz0) rfl (by kernel_rfl) (by kernel_rfl) (by kernel_rfl) (fun _ _ _ h => h) rfl hHeld ?yz0 ?rz0
        case yz0 => (intro wz hz; go_simp; first | done | with_reducible rfl)
        try simp only [Act.put, List.setIfInBounds_toArray, List.set_cons_zero, List.set_cons_succ]
        refine take_op (i := 1) (v := ?vz1) rfl (by kernel_rfl) (by kernel_rfl) (by kernel_rfl) (fun _ _ _ h => h) rfl hHeld ?yz1 ?rz1
        case yz1 => (intro wz hz; go_simp; first | done | with_reducible rfl)
        try simp only [Act.put, List.setIfInBounds_toArray, List.set_cons_zero, List.set_cons_succ]
        refine take_op (i := 2) (v := ?vz2) rfl (by kernel_rfl) (by kernel_rfl) (by kernel_rfl) (fun _ _ _ h => h) rfl hHeld ?yz2 ?rz2
        case yz2 => (intro wz hz; go_simp; first | done | with_reducible rfl)
        try simp only [Act.put, List.setIfInBounds_toArray, List.set_cons_zero, List.set_cons_succ]
        refine take_op (i := 3) (v := ?vz3) rfl (by kernel_rfl) (by kernel_rfl) (by kernel_rfl) (fun _ _ _ h => h) rfl hHeld ?yz3 ?rz3
        case yz3 => (intro wz hz; have c0 := C0.out wz hz; have c1 := C1.out wz hz; have d0 := D0.out wz hz; have d1 := D1.out wz hz; go_simp; first | done | with_reducible rfl)
        try simp only [Act.put, List.setIfInBounds_toArray, List.set_cons_zero, List.set_cons_succ]
        refine take_op (i := 4) (v := ?vz4) rfl (by kernel_rfl) (by kernel_rfl) (by kernel_rfl) (fun _ _ _ h => h) rfl hHeld ?yz4 ?rz4
        case yz4 => (intro wz hz; go_simp; first | done | with_reducible rfl)
        try simp only [Act.put, List.setIfInBounds_toArray, List.set_cons_zero, List.set_cons_succ]
        refine take_op (i := 5) (v := ?vz5) rfl (by kernel_rfl) (by kernel_rfl) (by kernel_rfl) (fun _ _ _ h => h) rfl hHeld ?yz5 ?rz5
        case yz5 => (intro wz hz; go_simp; first | done | with_reducible rfl)
        try simp only [Act.put, List.setIfInBounds_toArray, List.set_cons_zero, List.set_cons_succ]
        refine take_op (i := 6) (v := ?vz6) rfl (by kernel_rfl) (by kernel_rfl) (by kernel_rfl) (fun _ _ _ h => h) rfl hHeld ?yz6 ?rz6
        case yz6 => (intro wz hz; go_simp; first | done | with_reducible rfl)
        try simp only [Act.put, List.setIfInBounds_toArray, List.set_cons_zero, List.set_cons_succ]
        refine take_op (i := 7) (v := ?vz7) rfl (by kernel_rfl) (by kernel_rfl) (by kernel_rfl) (fun _ _ _ h => h) rfl hHeld ?yz7 ?rz7
        case yz7 => (intro wz hz; have c0 := C0.out wz hz; have c1 := C1.out wz hz; have d0 := D0.out wz hz; have d1 := D1.out wz hz; go_simp; first | done | with_reducible rfl)
        try simp only [Act.put, List.setIfInBounds_toArray, List.set_cons_zero, List.set_cons_succ]
        refine take_op (i := 8) (v := ?vz8) rfl (by kernel_rfl) (by kernel_rfl) (by kernel_rfl) (fun _ _ _ h => h) rfl hHeld ?yz8 ?rz8
        case yz8 => (intro wz hz; go_simp; first | done | with_reducible rfl)
        try simp only [Act.put, List.setIfInBounds_toArray, List.set_cons_zero, List.set_cons_succ]
        refine take_op (i := 9) (v := ?vz9) rfl (by kernel_rfl) (by kernel_rfl) (by kernel_rfl) (fun _ _ _ h => h) rfl hHeld ?yz9 ?rz9
        case yz9 => (intro wz hz; go_simp; first | done | with_reducible rfl)
        try simp only [Act.put, List.setIfInBounds_toArray, List.set_cons_zero, List.set_cons_succ]
        refine take_op (i := 10) (v := ?vz10) rfl (by kernel_rfl) (by kernel_rfl) (by kernel_rfl) (fun _ _ _ h => h) rfl hHeld ?yz10 ?rz10
        case yz10 => (intro wz hz; go_simp; first | done | with_reducible rfl)
        try simp only [Act.put, List.setIfInBounds_toArray, List.set_cons_zero, List.set_cons_succ]
        refine take_op (i := 11) (v := ?vz11) rfl (by kernel_rfl) (by kernel_rfl) (by kernel_rfl) (fun _ _ _ h => h) rfl hHeld ?yz11 ?rz11
        case yz11 => (intro wz hz; go_simp; first | done | with_reducible rfl)
        try simp only [Act.put, List.setIfInBounds_toArray, List.set_cons_zero, List.set_cons_succ]
        refine take_op (i := 12) (v := ?vz12) rfl (by kernel_rfl) (by kernel_rfl) (by kernel_rfl) (fun _ _ _ h => h) rfl hHeld ?yz12 ?rz12
        case yz12 => (intro wz hz; go_simp; first | done | with_reducible rfl)
        try simp only [Act.put, List.setIfInBounds_toArray, List.set_cons_zero, List.set_cons_succ]
        refine take_op (i := 13) (v := ?vz13) rfl (by kernel_rfl) (by kernel_rfl) (by kernel_rfl) (fun _ _ _ h => h) rfl hHeld ?yz13 ?rz13
        case yz13 => (intro wz hz; go_simp; first | done | with_reducible rfl)
        try simp only [Act.put, List.setIfInBounds_toArray, List.set_cons_zero, List.set_cons_succ]
        refine take_op (i := 14) (v := ?vz14) rfl (by kernel_rfl) (by kernel_rfl) (by kernel_rfl) (fun _ _ _ h => h) rfl hHeld ?yz14 ?rz14
        case yz14 => (intro wz hz; have c0 := C0.out wz hz; have c1 := C1.out wz hz; have d0 := D0.out wz hz; have d1 := D1.out wz hz; go_simp; first | done | with_reducible rfl)
        try simp only [Act.put, List.setIfInBounds_toArray, List.set_cons_zero, List.set_cons_succ]
        refine take_op (i := 15) (v := ?vz15) rfl (by kernel_rfl) (by kernel_rfl) (by kernel_rfl) (fun _ _ _ h => h) rfl hHeld ?yz15 ?rz15
        case yz15 => (intro wz hz; go_simp; first | done | with_reducible rfl)
        try simp only [Act.put, List.setIfInBounds_toArray, List.set_cons_zero, List.set_cons_succ]
        refine take_op (i := 16) (v := ?vz16) rfl (by kernel_rfl) (by kernel_rfl) (by kernel_rfl) (fun _ _ _ h => h) rfl hHeld ?yz16 ?rz16
        case yz16 => (intro wz hz; go_simp; first | done | with_reducible rfl)
        try simp only [Act.put, List.setIfInBounds_toArray, List.set_cons_zero, List.set_cons_succ]
        refine take_op (i := 17) (v := ?vz17) rfl (by kernel_rfl) (by kernel_rfl) (by kernel_rfl) (fun _ _ _ h => h) rfl hHeld ?yz17 ?rz17
        case yz17 => (intro wz hz; go_simp; first | done | with_reducible rfl)
        try simp only [Act.put, List.setIfInBounds_toArray, List.set_cons_zero, List.set_cons_succ]
        refine take_op (i := 18) (v := ?vz18) rfl (by kernel_rfl) (by kernel_rfl) (by kernel_rfl) (fun _ _ _ h => h) rfl hHeld ?yz18 ?rz18
        case yz18 => (intro wz hz; go_simp; first | done | with_reducible rfl)
        try simp only [Act.put, List.setIfInBounds_toArray, List.set_cons_zero, List.set_cons_succ]
        refine take_op (i := 19) (v := ?vz19) rfl (by kernel_rfl) (by kernel_rfl) (by kernel_rfl) (fun _ _ _ h => h) rfl hHeld ?yz19 ?rz19
        case yz19 => (intro wz hz; go_simp; first | done | with_reducible rfl)
        try simp only [Act.put, List.setIfInBounds_toArray, List.set_cons_zero, List.set_cons_succ]
        refine take_op (i := 20) (v := ?vz20) rfl (by kernel_rfl) (by kernel_rfl) (by kernel_rfl) (fun _ _ _ h => h) rfl hHeld ?yz20 ?rz20
        case yz20 => (intro wz hz; go_simp; first | done | with_reducible rfl)
        try simp only [Act.put, List.setIfInBounds_toArray, List.set_cons_zero, List.set_cons_succ]
        refine take_op (i := 21) (v := ?vz21) rfl (by kernel_rfl) (by kernel_rfl) (by kernel_rfl) (fun _ _ _ h => h) rfl hHeld ?yz21 ?rz21
        case yz21 => (intro wz hz; go_simp; first | done | with_reducible rfl)
        try simp only [Act.put, List.setIfInBounds_toArray, List.set_cons_zero, List.set_cons_succ]
        refine take_op (i := 22) (v := ?vz22) rfl (by kernel_rfl) (by kernel_rfl) (by kernel_rfl) (fun _ _ _ h => h) rfl hHeld ?yz22 ?rz22
        case yz22 => (intro wz hz; go_simp; first | done | with_reducible rfl)
        try simp only [Act.put, List.setIfInBounds_toArray, List.set_cons_zero, List.set_cons_succ]
        refine take_op (i := 23) (v := ?vz23) rfl (by kernel_rfl) (by kernel_rfl) (by kernel_rfl) (fun _ _ _ h => h) rfl hHeld ?yz23 ?rz23
        case yz23 => (intro wz hz; have c0 := C0.out wz hz; have c1 := C1.out wz hz; have d0 := D0.out wz hz; have d1 := D1.out wz hz; go_simp; first | done | with_reducible rfl)
        try simp only [Act.put, List.setIfInBounds_toArray, List.set_cons_zero, List.set_cons_succ]
        refine take_one (i := 24) rfl (by kernel_rfl) rfl (fun K hK => ?_)
        go_simp
        refine Calls.mono (XO.out _ hHeld) ?_
        rintro e w6 ⟨rfl, b6⟩
        have B6 : Hid (Below wr.heap.size wr w6) := (show Below wr.heap.size wr w6 from hHeld.trans (b6.mono hHeld.size))
        clear b6
        refine hK.out _ _ B6.out (fun hHeld => ?_)
        clear hK K
        try simp only [Act.put, List.setIfInBounds_toArray, List.set_cons_zero, List.set_cons_succ]
        refine take_op (i := 25) (v := ?vz25) rfl (by kernel_rfl) (by kernel_rfl) (by kernel_rfl) (fun _ _ _ h => h) rfl hHeld ?yz25 ?rz25
        case yz25 => (intro wz hz; go_simp; first | done | with_reducible rfl)
        try simp only [Act.put, List.setIfInBounds_toArray, List.set_cons_zero, List.set_cons_succ]
        refine take_op (i := 26) (v := ?vz26) rfl (by kernel_rfl) (by kernel_rfl) (by kernel_rfl) (fun _ _ _ h => h) rfl hHeld ?yz26 ?rz26
        case yz26 => (intro wz hz; go_simp; first | done | with_reducible rfl)
        try simp only [Act.put, List.setIfInBounds_toArray, List.set_cons_zero, List.set_cons_succ]
        refine wpAnyH_done (by kernel_rfl) ?_ _
        refine NoPanic.normal ?_
        clear XO
        have XM := among_any _ st q w6 (HV.out.below (B5.out.trans ((HB.out.trans (B6.out.mono HB.out.size)).mono B5.out.size)))
        have c0 := C0.out _ B6.out
        go_wp2_with fail
        refine XM.mono ?_
        rintro e w7 ⟨rfl, hw7⟩
        obtain rfl := hw7.symm
        clear XM hw7
        cases hin : inS st q with
        | true =>
          have HG : Hid (sl.drop n = wFil st (j + 1) (M.drop (j + 1))) := (show sl.drop n = wFil st (j + 1) (M.drop (j + 1)) from by rw [HD.out, HDN.out, if_pos hin])
          clear hin
          go_wp2
          go_light
          exact ⟨⟨j + 1, n, rfl, by go_num, by omega, HN.out, HG.out, HB.out.trans (B6.out.mono HB.out.size)⟩, by simp [intOf]; omega⟩
        | false =>
          have hdd : sl.drop n = (q, j) :: wFil st (j + 1) (M.drop (j + 1)) := by rw [HD.out, HDN.out, if_neg (by rw [hin]; decide)]
          have hnl : n < sl.length := by
            rcases Nat.lt_or_ge n sl.length with h | h
            · exact h
            · rw [List.drop_eq_nil_of_le h] at hdd; cases hdd
          have hdc := List.drop_eq_getElem_cons hnl
          rw [hdd] at hdc
          obtain ⟨hq1, hq2⟩ := List.cons.inj hdc
          have hgs : sl[n]? = some (q, j) := by rw [List.getElem?_eq_getElem hnl, hq1]
          have HG : Hid (sl.drop (n + 1) = wFil st (j + 1) (M.drop (j + 1))) := (show sl.drop (n + 1) = wFil st (j + 1) (M.drop (j + 1)) from hq2.symm)
          obtain ⟨gs, rfl, hgs1, hcs⟩ := HSR.out (by omega)
          have b76 := HB.out.trans (B6.out.mono HB.out.size)
          have s0 := (b76.cell (p := ⟨gs, n * 2, none⟩) hgs1).trans (hcs n _ hgs).1
          have s1 := (b76.cell (p := ⟨gs, n * 2 + 1, none⟩) hgs1).trans (hcs n _ hgs).2
          have c1 := C1.out _ B6.out
          simp only at s0 s1
          have hnl' : ¬ (n : Int) ≥ (sl.length : Int) := by omega
          have hd1 : decide ((n : Int) ≥ (sl.length : Int)) = false := decide_eq_false hnl'
          have hd2 : decide ((sl.length : Int) ≤ (n : Int)) = false := decide_eq_false hnl'
          have hd3 : decide (sl.length ≤ n) = false := decide_eq_false (by omega)
          have hnl2 : (n : Int) < (sl.length : Int) := by omega
          have HN1 : Hid (n + 1 ≤ sl.length) := (show n + 1 ≤ sl.length from hnl)
          clear hdd hnl hdc hq1 hq2 hgs hcs hgs1 b76 hin
          go_upto_region 15 with fail
          go_quiet (fail)
          go_wp2
          go_light
          exact ⟨⟨j + 1, n + 1, by go_num, by go_num, by omega, HN1.out, HG.out, (HB.out.trans (B6.out.mono HB.out.size)).drewN _⟩, by simp [intOf]; omega⟩
      · obtain rfl : j = al.length := by omega
        have hde : sl.drop n = [] := by rw [HD.out, HML.out, List.drop_length]; rfl
        have hne : n = sl.length := by
          have := List.drop_eq_nil_iff.1 hde
          omega
        subst hne
        have XA := awake_any wr (HT.out.below (B5.out.trans (hb.mono B5.out.size)))
        clear hb hde
        go_wp2_with fail
        refine XA.mono ?_
        rintro e w6 ⟨rfl, b6⟩
        clear XA
        go_wp2
        go_ret
        have bb := B5.out.trans (HB.out.mono B5.out.size)
        exact ⟨rfl, bb.trans (b6.mono bb.size)⟩
end Go.Proofs.YthjfalbchkbdfaaDoor

/- The frame of a law's row: what was read reads behind the call as it did, where nothing old has turned. -/
namespace Go.Proofs.YthjfalbchkbdfaaDoor
open Go.RowKit Go.Deep Go.ChangeShapes Go.WideShapes Go.ChangeAt

theorem below_trodAll {H : Type} {enc : TypeId × Value → H} {P : Program} (hl : laidOutB P = true) {W W' : World} (hb : Below W.heap.size W W') :
    ∀ {ts : List TypeId} {vs : List Value} {ds : List (DataW H)} {ps : List MemPlace}, (∀ t ∈ ts, P.readableRec t = true ∧ t < P.types.size) → DataW.TrodAll enc P W 0 (fun _ => true) true ts vs ds ps → (∀ x ∈ ps, x.block < W.heap.size) →
      DataW.TrodAll enc P W' 0 (fun b => decide (b < W.heap.size)) true ts vs ds ps
  | [], [], [], _, _, h, _ => h
  | t :: ts, v :: vs, d :: ds, ps, hts, h, hlt => by
    obtain ⟨p, q, h1, h2, e⟩ := h
    subst e
    exact ⟨p, q, Below.trod hl (hts t List.mem_cons_self).1 (hts t List.mem_cons_self).2 h1 hb (fun x hx => hlt x (List.mem_append_left _ hx)), below_trodAll hl hb (fun u hu => hts u (List.mem_cons_of_mem _ hu)) h2 (fun x hx => hlt x (List.mem_append_right _ hx)), rfl⟩

/-- WHAT A LAW's ROW ASKS BEHIND THE CALL, where the answer is true and nothing old has turned. -/
theorem law_post {H : Type} {enc : TypeId × Value → H} {P : Program} {spec : ChangeSpec} {f : Func} {W W' : World} {args : Array Value} {ds gs : List (DataW H)} {before : List MemPlace} {tb : TypeId}
    (hl : laidOutB P = true) (hts : ∀ t ∈ f.params.toList, P.readableRec t = true ∧ t < P.types.size) (hvars : spec.vars = []) (hres : f.resultTypes = #[tb]) (hbool : P.underlying tb = some .bool)
    (hspec : spec.fn H (ds ++ gs) = { results := [.lit (.bool true)], args := ds })
    (hW : DataW.Whole enc P f.params.toList spec.vars false W args.toList ds gs before) (hb : Below W.heap.size W W') : spec.post enc P f false true false false W args (.bool true) W' := by
  have hW' := hW
  have hlt := hW.lt
  obtain ⟨p, q, hA, hV, rfl, hfz, hnd⟩ := hW
  rw [hvars] at hV
  obtain ⟨rfl, rfl⟩ := trodVars_none hV
  refine ⟨ds, [], p ++ [], [], p, [], hW', ?_, ?_, ?_, ?_, fun h => by cases h⟩
  · rw [hspec, hres]
    exact trodAll_cons_mk (shut_bool hbool _) trodAll_mk0
  · rw [hspec]
    exact below_trodAll hl hb hts hA (fun x hx => hlt x (List.mem_append_left _ hx))
  · rw [hspec, hvars]; exact hV
  · exact hb.frame _

end Go.Proofs.YthjfalbchkbdfaaDoor

/- The frame of a law's row, where no package variable is laid. -/
namespace Go.Proofs.YthjfalbchkbdfaaDoor
open Go.RowKit Go.Deep Go.ChangeShapes Go.WideShapes Go.ChangeAt
theorem own : ownKnob Tryd.prog.godebug = none := by kernel_rfl
theorem laidOut : laidOutB Tryd.prog = true := by kernel_rfl
end Go.Proofs.YthjfalbchkbdfaaDoor

/- Slices that came in, opened. -/
namespace Go.Proofs.YthjfalbchkbdfaaDoor
open Go.RowKit Go.Deep Go.ChangeShapes Go.WideShapes

/-- A SLICE, opened at every index. -/
theorem open_any {H : Type} {enc : TypeId × Value → H} {P : Program} {w : World} {base b0 : Nat} {sp : Nat → Bool} {held : Bool} {r : Reach} {t e : TypeId} {v : Value} {d : DataW H} {ps : List MemPlace} (c : Nat)
    (hu : P.underlying t = some (.slice e)) (hc : P.cellsOf e = c) (hval : Value.okWide P w r b0 t v) (hd : DataW.Trod enc P w base sp held t v d ps) :
    (v = .slice none 0 0) ∨ ∃ pb po len cap : Nat, v = .slice (some ⟨pb, po, none⟩) len cap ∧ len ≤ cap ∧ cap ≤ maxLen ∧ pb < w.heap.size ∧
      ∀ i, i < len → ∃ (cs' : List Value) (n : Nat) (D : DataW H × List MemPlace), cs'.length = c ∧ (∀ j, j < c → w.cell? ⟨pb, po + i * c + j, none⟩ = cs'[j]?) ∧ DataW.trod enc P w base sp held n e cs' = some D := by
  obtain ⟨a, len, cap, rfl⟩ := okWide_slice hu hval
  obtain ⟨fuel, hf⟩ := hd
  rcases open_slice hu hf with ⟨h0, _⟩ | ⟨a', len', cap', m, n, D, Pl, h0, _, h1, h2, h3, _, h4⟩
  · left; simpa [Value.cells] using h0
  · right
    have h0' : a = some a' ∧ len = len' ∧ cap = cap' := by simpa [Value.cells] using h0
    obtain ⟨rfl, rfl, rfl⟩ := h0'
    have hlm : len ≤ m := by rw [h3]; split <;> omega
    simp only [Value.okWide, hu, Cell.okWide, Cell.ok] at hval
    obtain ⟨_, _, _, hsp, row, cells, hsh, _⟩ := hval
    obtain ⟨pb, po, spot⟩ := a'
    obtain rfl : spot = none := hsp
    refine ⟨pb, po, len, cap, rfl, h1, h2, ?_, fun i hi => ?_⟩
    · unfold World.shape? at hsh
      cases hq : w.heap[pb]? with
      | none => rw [hq] at hsh; cases hsh
      | some o => exact (Array.getElem?_eq_some_iff.1 hq).1
    · obtain ⟨cs', g1, g2⟩ := h4 i (by omega)
      rw [hc] at g1
      obtain ⟨_, hlen, hcell⟩ := World.cells?_some g1
      refine ⟨cs', n, _, hlen, fun j hj => ?_, g2⟩
      have e0 := hcell j (by omega)
      rw [add_add, Addr.add_mid] at e0
      rw [Nat.add_assoc]; exact e0
end Go.Proofs.YthjfalbchkbdfaaDoor

/- A row of texts that came in, opened. -/
namespace Go.Proofs.YthjfalbchkbdfaaDoor
set_option maxRecDepth 100000
open Go.RowKit Go.Deep Go.ChangeShapes Go.WideShapes

theorem cellsStr : Tryd.prog.cellsOf 9 = 1 := by kernel_rfl
theorem open_strs {H : Type} {enc : TypeId × Value → H} {w : World} {base b0 : Nat} {sp : Nat → Bool} {held : Bool} {r : Reach} {v : Value} {d : DataW H} {ps : List MemPlace}
    (hval : Value.okWide Tryd.prog w r b0 22 v) (hd : DataW.Trod enc Tryd.prog w base sp held 22 v d ps) : ∃ L, strsAt w v L := by
  rcases open_any 1 Tryd.underlying22 cellsStr hval hd with rfl | ⟨pb, po, len, cap, rfl, h1, h2, h3, h4⟩
  · exact ⟨[], Or.inl ⟨rfl, rfl⟩⟩
  · have each : ∀ i, i < len → ∃ z : ByteArray, w.cell? ⟨pb, po + i, none⟩ = some (.string z) ∧ z.size ≤ maxLen := fun i hi => by
      obtain ⟨cs', n, D, g1, g2, g3⟩ := h4 i hi
      obtain ⟨z, rfl, _, hw⟩ := DataW.trod_string Tryd.underlying9 g3
      have := g2 0 (by omega)
      rw [Nat.mul_one, Nat.add_zero] at this
      exact ⟨z, this, hw⟩
    haveI : Inhabited ByteArray := ⟨ByteArray.empty⟩
    obtain ⟨f, hf⟩ := choose_lt each
    refine ⟨(List.range len).map f, Or.inr ⟨pb, po, cap, by simp, by simpa using h1, h2, h3, fun i s hi => ?_⟩⟩
    rw [List.getElem?_map] at hi
    by_cases hl : i < len
    · rw [List.getElem?_range hl] at hi
      obtain rfl := Option.some.inj hi
      exact hf i hl
    · rw [List.getElem?_eq_none (by simpa using hl)] at hi
      cases hi
end Go.Proofs.YthjfalbchkbdfaaDoor

/- The three tables, as the row lists them; a world that holds them, for the witness. -/
namespace Go.Proofs.YthjfalbchkbdfaaDoor
set_option maxRecDepth 100000
open Go.RowKit Go.Deep Go.ChangeShapes Go.WideShapes Go.ChangeAt Go.Lib Go.Shelf

theorem u8Extra : U8Extra Tryd.prog uRen where
  n3 := by kernel_rfl
  n4 := by kernel_rfl
  y3 := by kernel_rfl
  y4 := by kernel_rfl
  c5 := by kernel_rfl
  c119 := by kernel_rfl
  c138 := by kernel_rfl
/-- the letters' table, as data. -/
def ltData : DataW Unit := .agg ((List.range 43).map fun i => .agg ([ltA i, ltB i].map fun z => .lit (.int .i64 z)))
theorem gLet : Tryd.prog.globalNamed "incipit/utf.letters" = some 0 := by kernel_rfl
theorem gLetType : (Tryd.prog.globals[0]?).map (·.type) = some 77 := by kernel_rfl
theorem cellsInt : Tryd.prog.cellsOf 3 = 1 := by kernel_rfl
theorem cellsSpan : Tryd.prog.cellsOf 76 = 2 := by kernel_rfl
theorem letters_of_reads {w : World} (h : VarReads Tryd.prog w "incipit/utf.letters" ltData) : ltT w := by
  intro i hi
  obtain ⟨g, t, cs, fuel, p, hg, hty, hvar, hd⟩ := h
  obtain rfl := Option.some.inj (gLet.symm.trans hg)
  obtain rfl := Option.some.inj (gLetType.symm.trans hty)
  obtain ⟨fuel', d, q, hdi, he⟩ := array_elem Tryd.underlying77 hd i hi
  simp only [List.getElem?_map, List.getElem?_range hi, Option.map_some, Option.some.injEq] at hdi
  subst hdi
  rw [cellsSpan] at he
  have hcs := ints_of_struct Tryd.underlying76 (fun j f hj => by
    match j, hj with
    | 0, hj => simp at hj; subst hj; exact ⟨Tryd.underlying3, rfl, cellsInt⟩
    | 1, hj => simp at hj; subst hj; exact ⟨Tryd.underlying3, rfl, cellsInt⟩
    | j + 2, hj => simp at hj) (by rw [cellsSpan]; rfl) he
  have e0 := congrArg (·[0]?) hcs
  have e1 := congrArg (·[1]?) hcs
  simp only [List.getElem?_take, List.getElem?_drop] at e0 e1
  constructor
  · rw [World.var?_cell hg hvar (i * 2), ← Array.getElem?_toList]
    simpa using e0
  · rw [World.var?_cell hg hvar (i * 2 + 1), ← Array.getElem?_toList]
    simpa using e1
theorem dFirst : Rows.laid_unicode_utf8_first = firstData := by kernel_rfl
theorem dAccept : (Rows.laid_unicode_utf8_acceptRanges : DataW Unit) = acceptData := by kernel_rfl
theorem dLetters : (Rows.laid_incipit_utf_letters : DataW Unit) = ltData := by kernel_rfl
/-- what the row's list gives. -/
theorem laid_ut {W : World} (h : laidMetH Tryd.prog Rows.wordsTellsRow.laid W) : utT W := by
  have h' : laidMet Tryd.prog [("unicode/utf8.acceptRanges", Rows.laid_unicode_utf8_acceptRanges), ("incipit/utf.letters", Rows.laid_incipit_utf_letters), ("unicode/utf8.first", Rows.laid_unicode_utf8_first)] W := h
  have h1 := laidMet.reads h' (n := "unicode/utf8.first") (d := Rows.laid_unicode_utf8_first) (by simp)
  have h2 := laidMet.reads h' (n := "unicode/utf8.acceptRanges") (d := Rows.laid_unicode_utf8_acceptRanges) (by simp)
  have h3 := laidMet.reads h' (n := "incipit/utf.letters") (d := Rows.laid_incipit_utf_letters) (by simp)
  rw [dFirst] at h1
  rw [dAccept] at h2
  rw [dLetters] at h3
  exact ⟨utf8Tabs_of_reads { uLays with } u8Extra h1 h2, letters_of_reads h3⟩
/-- the tables' blocks, laid. -/
def lObj : Obj → Obj
  | .cells _ t frozen => .cells lrow t frozen
  | o => o
def fObj : Obj → Obj
  | .cells _ t frozen => .cells ((List.range 256).map fun c => Value.int .u8 (firstT c)).toArray t frozen
  | o => o
def aObj : Obj → Obj
  | .cells _ t frozen => .cells ((List.range 16).flatMap fun i => [Value.int .u8 (accLo i), Value.int .u8 (accHi i)]).toArray t frozen
  | o => o
end Go.Proofs.YthjfalbchkbdfaaDoor
