import Derived.ProofKit
import Derived.OpenShut
import Derived.Test.YthpnenblmkdmcaaDoorOwn1
import Derived.Test.YthpnenblmkdmcaaDoorOwn3
import Derived.Test.YthpnenblmkdmcaaDoorOwn5
import Derived.Test.YthpnenblmkdmcaaDoorOwn8
import Derived.Test.YthpnenblmkdmcaaDoorOwn11
set_option linter.unusedVariables false
set_option linter.unusedSimpArgs false
/- The document's tells: its recursion. -/
namespace Go.Proofs.YthpnenblmkdmcaaDoor
set_option linter.unusedSimpArgs false
set_option linter.unusedVariables false
open Go.RowKit Go.Deep

theorem st3.fin2 {w3 W : World} {x y : Nat} (h : st3 w3 W (some x) (some y) none) (p q : List Int) : ∃ V1 V2, (storeVar 29 ⟨x, 0, none⟩ (.agg (rowV 32 (arrV p)))).run Tryd.prog W = .ok () V1 ∧ (storeVar 29 ⟨y, 0, none⟩ (.agg (rowV 32 (arrV q)))).run Tryd.prog V1 = .ok () V2 ∧
    Below w3.heap.size w3 V1 ∧ V2.rowIs x 29 32 (arrV p) ∧ V2.rowIs y 29 32 (arrV q) ∧ Below w3.heap.size w3 V2 ∧ w3.heap.size ≤ x ∧ w3.heap.size ≤ y := by
  obtain ⟨h1, h2, h3, _, h5, _⟩ := h
  obtain ⟨hx, rx⟩ := h2 x rfl
  obtain ⟨hy, ry⟩ := h3 y rfl
  have nxy : y ≠ x := fun e => (h5 x rfl).1 (by rw [e])
  have s1 := h1.size
  obtain ⟨V1, e1, q1, z1, b1⟩ := tell_store (q := p) rx
  have ry1 := b1.row ry (gRow_lt ry) nxy
  obtain ⟨V2, e2, q2, z2, b2⟩ := tell_store (q := q) ry1
  exact ⟨V1, V2, e1, e2, h1.trans (b1.below' hx (by omega)), b2.row q1 (gRow_lt q1) (Ne.symm nxy), q2, h1.trans ((b1.below' hx (by omega)).trans (b2.below' hy (by omega))), hx, hy⟩
/-- what tells' own boxes hold, while the way goes on: old, the two results (not yet told), the last of the path. -/
def tOwn (w : World) (old y : List Int) (W : World) : Prop :=
  Below w.heap.size w W ∧ W.rowIs w.heap.size 29 32 (arrV old) ∧ W.rowIs (w.heap.size + 1) 29 32 (fun _ => .int .u8 0) ∧ W.rowIs (w.heap.size + 2) 29 32 (fun _ => .int .u8 0) ∧ W.rowIs (w.heap.size + 3) 29 32 (arrV y) ∧ w.heap.size + 4 ≤ W.heap.size
theorem tOwn.below {w W W' : World} {old y : List Int} (h : tOwn w old y W) {B : Nat} (hb : Below B W W') (hB : w.heap.size + 4 ≤ B) : tOwn w old y W' := by
  obtain ⟨h1, h2, h3, h4, h5, h6⟩ := h
  have := hb.size
  exact ⟨h1.trans (hb.mono (by omega)), hb.row h2 (by omega), hb.row h3 (by omega), hb.row h4 (by omega), hb.row h5 (by omega), by omega⟩
/-- the two results are told: nothing old has turned. -/
theorem tOwn.tell {w W : World} {old y : List Int} (h : tOwn w old y W) (p q : List Int) : ∃ V1 V2, (storeVar 29 ⟨w.heap.size + 1, 0, none⟩ (.agg (rowV 32 (arrV p)))).run Tryd.prog W = .ok () V1 ∧ (storeVar 29 ⟨w.heap.size + 2, 0, none⟩ (.agg (rowV 32 (arrV q)))).run Tryd.prog V1 = .ok () V2 ∧
    V2.rowIs (w.heap.size + 1) 29 32 (arrV p) ∧ V2.rowIs (w.heap.size + 2) 29 32 (arrV q) ∧ Below w.heap.size w V2 ∧
    (∀ b f, b ≠ w.heap.size + 1 → b ≠ w.heap.size + 2 → W.rowIs b 29 32 f → V1.rowIs b 29 32 f ∧ V2.rowIs b 29 32 f) := by
  obtain ⟨h1, h2, h3, h4, h5, h6⟩ := h
  obtain ⟨V1, e1, q1, z1, b1⟩ := tell_store (q := p) h3
  have h4' := b1.row h4 (by omega) (by omega)
  obtain ⟨V2, e2, q2, z2, b2⟩ := tell_store (q := q) h4'
  exact ⟨V1, V2, e1, e2, b2.row q1 (by omega) (by omega), q2, h1.trans ((b1.below' (by omega) (by omega)).trans (b2.below' (by omega) (by omega))), fun b f n1 n2 hr => ⟨b1.row hr (gRow_lt hr) n1, b2.row (b1.row hr (gRow_lt hr) n1) (gRow_lt (b1.row hr (gRow_lt hr) n1)) n2⟩⟩
theorem path_last {q : List (List Int)} {y : List Int} {w : World} {pv : Value} (h : sumsAt w pv (q ++ [y])) : ∃ g o cap, pv = .slice (some ⟨g, o, none⟩) (q.length + 1) cap ∧ g < w.heap.size ∧ isSum y ∧ ∀ j, j < 32 → w.cell? ⟨g, o + q.length * 32 + j, none⟩ = some (arrV y j) := by
  obtain ⟨hs, a, cap, rfl, h3, h4, h5⟩ := h
  obtain ⟨g, o, rfl, hg, hc⟩ := h5 (by simp)
  refine ⟨g, o, cap, by simp, hg, hs y (by simp), fun j hj => ?_⟩
  have := hc q.length (by simp) j hj
  simpa using this
set_option maxHeartbeats 4000000 in
set_option maxRecDepth 100000 in
theorem rtells_any : ∀ (k m n : Nat) (first : Bool) (old : List Int) (path : List (List Int)) (pv : Value) (w : World), n ≤ k → 1 ≤ m → m ≤ n → (n : Int) ≤ 9223372036854775807 → isSum old → sumsAt w pv path → path.length = sN m n first →
    Calls Tryd.prog 30 #[.int .i64 (m : Int), .int .i64 (n : Int), .bool first, sumV old, pv] w fun e w' => e = .returned (.tuple #[sumV (tT m n first old path).1, sumV (tT m n first old path).2]) ∧ Below w.heap.size w w' := by
  intro k
  induction k with
  | zero => intro m n first old path pv w h h1 h2; omega
  | succ k ih =>
    intro m n first old path pv w hk h1 h2 hn ho hp hl
    by_cases e : m = n
    · subst e
      cases first with
      | true => rw [tT_end, if_pos rfl]; exact tells_first m old pv w
      | false =>
        rw [sN_end, if_neg (by simp)] at hl
        rw [tT_end, if_neg (by simp)]
        cases path with
        | nil => simp at hl
        | cons z q => exact tells_last m old z q pv w hp
    have hlt : m < n := by omega
    have hpos : 0 < path.length := by
      rw [hl, sN_is]
      by_cases hx : m ≤ halfN n
      · rw [gL_right h1 hlt hx]; simp; omega
      · rw [gL_left h1 hlt hx]; simp; omega
    obtain ⟨q, y, hpy⟩ : ∃ q y, path = q ++ [y] := ⟨_, _, path_split hpos⟩
    subst hpy
    have hh := halfN_is (n := n) (by omega)
    have hI : halfI (n : Int) = (halfN n : Int) := by unfold halfI; rw [Int.toNat_natCast]
    have ER : m ≤ halfN n → q.length = sN m (halfN n) first ∧ tT m n first old (q ++ [y]) = gUp (tT m (halfN n) first old q) (true, y) := fun hx => by
      have hq : q.length = sN m (halfN n) first := by
        have := sN_right h1 hlt hx first
        rw [List.length_append, List.length_singleton] at hl
        omega
      exact ⟨hq, tT_right h1 hlt hx first old q y hq⟩
    have EL : ¬ m ≤ halfN n → q.length = sN (m - halfN n) (n - halfN n) false ∧ tT m n first old (q ++ [y]) = gUp (tT (m - halfN n) (n - halfN n) false old q) (false, y) := fun hx => by
      have hq : q.length = sN (m - halfN n) (n - halfN n) false := by
        have := sN_left h1 hlt hx first
        rw [List.length_append, List.length_singleton] at hl
        omega
      exact ⟨hq, tT_left h1 hlt hx first old q y hq⟩
    obtain ⟨u, ru, su0, _, xu, yu, rfl⟩ := hp.to' q.length (by simp)
    have su : sumsAt w (.slice xu q.length yu) q := by simpa using su0
    obtain ⟨g, o, cap, rfl, hg, hy, hcy⟩ := path_last hp
    have hqs : ∀ x ∈ q, isSum x := su.1
    have hql : (q.length : Int) ≤ 64 := by
      have h3 := sN_le m n h1 hn first
      rw [← hl, List.length_append] at h3
      omega
    generalize halfN n = hf at hh hI ER EL
    obtain ⟨w1, hw1⟩ : ∃ w1, w1 = ((w.alloc (.cells (rowV 32 (arrV old)) 29)).alloc (.cells (rowV 32 (fun _ => .int .u8 0)) 29)).alloc (.cells (rowV 32 (fun _ => .int .u8 0)) 29) := ⟨_, rfl⟩
    obtain ⟨b1, z1, r8, r10, r11⟩ := tells_boxes old w w1 hw1
    have XH := rhalf_any (n : Int) (by omega) hn w1
    rw [hI] at XH
    have hcy1 : ∀ j, j < 32 → w1.cell? ⟨g, o + q.length * 32 + j, none⟩ = some (arrV y j) := fun j hj => (b1.cell (p := ⟨g, o + q.length * 32 + j, none⟩) hg).trans (hcy j hj)
    have r3 := rowIs_box w1 29 32 (fun _ => .int .u8 0)
    have OW : Hid (∀ w4, w4.rowIs w1.heap.size 29 32 (fun i => if 0 ≤ i ∧ i < 0 + 32 then arrV y (i - 0) else .int .u8 0) → w4.heap.size = (w1.alloc (.cells (rowV 32 (fun _ => .int .u8 0)) 29)).heap.size → But (w1.alloc (.cells (rowV 32 (fun _ => .int .u8 0)) 29)).heap.size w1.heap.size (w1.alloc (.cells (rowV 32 (fun _ => .int .u8 0)) 29)) w4 → tOwn w old y w4) := (show _ from fun w4 r4 hz4 hb4 => by
      have ba : Below w1.heap.size w1 (w1.alloc (.cells (rowV 32 (fun _ => .int .u8 0)) 29)) := (Below.refl _ _).alloc (Nat.le_refl _) _
      have b14 : Below w1.heap.size w1 w4 := ba.trans ((hb4.mono (by simp)).below (Nat.le_refl _))
      have e3 : w.heap.size + 3 = w1.heap.size := by omega
      refine ⟨b1.trans (b14.mono (by omega)), b14.row r8 (by omega), b14.row r10 (by omega), b14.row r11 (by omega), ?_, by rw [hz4]; simp; omega⟩
      rw [e3]
      exact r4.congr fun i hi => by rw [if_pos (by omega), Nat.sub_zero])
    have RU : Hid (∀ wz : World, (Instr.slice 22 (.slice (some ⟨g, o, none⟩) (q.length + 1) cap) none (some (.int .i64 q.length)) none).run Tryd.prog wz = .ok (.slice xu q.length yu) wz) := (show _ from ru)
    have HQ : Hid (∀ wz, tOwn w old y wz → sumsAt wz (.slice xu q.length yu) q) := (show _ from fun wz hz => su.below hz.1 (Nat.le_refl _))
    have HY : Hid (isSum y ∧ isSum old ∧ (∀ x ∈ q, isSum x)) := (show _ from ⟨hy, ho, hqs⟩)
    have hwl : IntKind.wrap .i64 (((q.length + 1 : Nat) : Int) - 1) = (q.length : Int) := by rw [IntWalk.i64_in _ ⟨by omega, by omega⟩]; omega
    have hwl2 : IntKind.wrap .i64 (q.length : Int) = (q.length : Int) := IntWalk.i64_in _ ⟨by omega, by omega⟩
    have ne : ¬ (m : Int) = (n : Int) := by omega
    have Z1 : Hid (w1.heap.size = w.heap.size + 3) := (show w1.heap.size = w.heap.size + 3 from z1)
    have hlt1 : q.length < q.length + 1 := by omega
    have hz32 := zero_s32
    unfold sumV
    clear hp hcy hg su su0 ru hI z1 b1 r8 r10 r11 hpos hl hqs hy
    by_cases hx : m ≤ hf
    · obtain ⟨hq, hE⟩ := ER hx
      have hc : (m : Int) ≤ (hf : Int) := by omega
      have TS := tT_sum m hf first old q HY.out.2.1 HY.out.2.2 hq
      have RC : Hid (∀ W, tOwn w old y W → Calls Tryd.prog 30 #[.int .i64 ((m : Int)), .int .i64 ((hf : Int)), .bool first, .agg (rowV 32 (arrV old)), .slice xu q.length yu] W fun e w' => e = .returned (.tuple #[.agg (rowV 32 (arrV (tT m hf first old q).1)), .agg (rowV 32 (arrV (tT m hf first old q).2))]) ∧ Below W.heap.size W w') := (show _ from fun W hW => by
        have := ih m hf first old q (.slice xu q.length yu) W (by omega) (by omega) (by omega) (by omega) HY.out.2.1 (HQ.out W hW) hq
        exact this)
      generalize tT m hf first old q = X at hE TS RC
      obtain ⟨XA, XB⟩ := X
      have EQ : Hid (tT m n first old (q ++ [y]) = (XA, nodeS [XB, y])) := (show tT m n first old (q ++ [y]) = (XA, nodeS [XB, y]) from by rw [hE]; unfold gUp; rw [if_pos rfl])
      have TSH : Hid (isSum XA ∧ isSum XB) := (show isSum XA ∧ isSum XB from TS)
      clear ER EL ih hE TS hh h1 h2 hk hn hq e
      go_enter Tryd.func30, Tryd.ntmps30
      go_upto_region 1 with fail
      rw [← hw1]
      clear hw1
      go_wp2_with fail
      refine XH.mono ?_
      rintro e w' ⟨rfl, hw⟩
      obtain rfl := hw.symm
      clear XH hw
      go_upto_region 7 with (first | (refine wpList_load_w 29 (.tmp 36) rfl rfl g (o + q.length * 32) 32 (arrV y) rfl _ Tryd.underlying29 rfl hi32' hcy1 ?_) | (refine wpList_store_row rfl 29 _ _ rfl rfl w1.heap.size 0 32 (arrV y) rfl rfl hi32' (fun _ _ => rfl) _ _ _ r3 (by omega) ?_; intro w4 r4 hz4 hb4))
      have OWN : Hid (tOwn w old y w4) := (show tOwn w old y w4 from OW.out w4 r4 hz4 hb4)
      have e13 : w1.heap.size = w.heap.size + 3 := Z1.out
      clear OW r4 hz4 hb4 r3 hcy1
      rw [e13]
      clear e13
      go_upto_region 8 with fail
      go_cut [14, 15] from 41 to 53 (fun pa pb wx => ∃ ba bb, pa = .pointer (some ⟨ba, 0, none⟩) ∧ pb = .pointer (some ⟨bb, 0, none⟩) ∧ wx.rowIs ba 29 32 (arrV XA) ∧ wx.rowIs bb 29 32 (arrV XB) ∧ Below w4.heap.size w4 wx ∧ w4.heap.size ≤ ba ∧ w4.heap.size ≤ bb)
      case first =>
        have H : st3 w4 w4.drew none none none := ⟨(Below.refl _ _).drew, fun x h => (by cases h), fun x h => (by cases h), fun x h => (by cases h), fun x h => (by cases h), fun x h => (by cases h)⟩
        refine wp_region_noPanic ?_
        refine wp_region_held_drew (S := fun w' => Below w4.heap.size w4 w') (by kernel_rfl) H.1 (fun hHeld => ?_)
        have RCW : Hid (∀ W, Below w4.heap.size w4 W → Calls Tryd.prog 30 #[.int .i64 ((m : Int)), .int .i64 ((hf : Int)), .bool first, .agg (rowV 32 (arrV old)), .slice xu q.length yu] W fun e w' => e = .returned (.tuple #[.agg (rowV 32 (arrV XA)), .agg (rowV 32 (arrV XB))]) ∧ Below W.heap.size W w') := (show _ from fun W hW => RC.out W (OWN.out.below hW OWN.out.2.2.2.2.2))
        generalize w4.drew = W at H hHeld ⊢
        refine take_op (i := 0) (v := ?va0) rfl (by kernel_rfl) (by kernel_rfl) (by kernel_rfl) (fun _ _ _ h => h) rfl hHeld ?ya0 ?ra0
        case ya0 => (intro wz hz; go_simp; first | done | with_reducible rfl)
        try simp only [Act.put, List.setIfInBounds_toArray, List.set_cons_zero, List.set_cons_succ]
        refine take_op (i := 1) (v := ?va1) rfl (by kernel_rfl) (by kernel_rfl) (by kernel_rfl) (fun _ _ _ h => h) rfl hHeld ?ya1 ?ra1
        case ya1 => (intro wz hz; go_simp; first | done | with_reducible rfl)
        try simp only [Act.put, List.setIfInBounds_toArray, List.set_cons_zero, List.set_cons_succ]
        refine take_op (i := 2) (v := ?va2) rfl (by kernel_rfl) (by kernel_rfl) (by kernel_rfl) (fun _ _ _ h => h) rfl hHeld ?ya2 ?ra2
        case ya2 => (intro wz hz; go_simp; first | done | with_reducible rfl)
        try simp only [Act.put, List.setIfInBounds_toArray, List.set_cons_zero, List.set_cons_succ]
        refine take_load (i := 3) rfl (by kernel_rfl) (by kernel_rfl) (by kernel_rfl) 29 _ rfl w.heap.size 0 32 (arrV old) rfl _ Tryd.underlying29 rfl (by kernel_rfl) (fun _ _ _ h => h) rfl hHeld (fun wz hz j hj => by rw [Nat.zero_add]; exact (OWN.out.below hz OWN.out.2.2.2.2.2).2.1.cell hj) ?_
        try simp only [Act.put, List.setIfInBounds_toArray, List.set_cons_zero, List.set_cons_succ]
        refine take_op (i := 4) (v := ?va4) rfl (by kernel_rfl) (by kernel_rfl) (by kernel_rfl) (fun _ _ _ h => h) rfl hHeld ?ya4 ?ra4
        case ya4 => (intro wz hz; go_simp; first | done | with_reducible rfl)
        try simp only [Act.put, List.setIfInBounds_toArray, List.set_cons_zero, List.set_cons_succ]
        refine take_op (i := 5) (v := ?va5) rfl (by kernel_rfl) (by kernel_rfl) (by kernel_rfl) (fun _ _ _ h => h) rfl hHeld ?ya5 ?ra5
        case ya5 => (intro wz hz; go_simp; first | done | with_reducible rfl)
        try simp only [Act.put, List.setIfInBounds_toArray, List.set_cons_zero, List.set_cons_succ]
        refine take_op (i := 6) (v := ?va6) rfl (by kernel_rfl) (by kernel_rfl) (by kernel_rfl) (fun _ _ _ h => h) rfl hHeld ?ya6 ?ra6
        case ya6 => (intro wz hz; go_simp; first | done | with_reducible rfl)
        try simp only [Act.put, List.setIfInBounds_toArray, List.set_cons_zero, List.set_cons_succ]
        refine take_op (i := 7) (v := ?va7) rfl (by kernel_rfl) (by kernel_rfl) (by kernel_rfl) (fun _ _ _ h => h) rfl hHeld ?ya7 ?ra7
        case ya7 => (intro wz hz; go_simp; first | done | with_reducible rfl)
        try simp only [Act.put, List.setIfInBounds_toArray, List.set_cons_zero, List.set_cons_succ]
        refine take_op (i := 8) (v := ?va8) rfl (by kernel_rfl) (by kernel_rfl) (by kernel_rfl) (fun _ _ _ h => h) rfl hHeld ?ya8 ?ra8
        case ya8 => (intro wz hz; have hcz := RU.out wz; go_simp; first | done | with_reducible rfl)
        try simp only [Act.put, List.setIfInBounds_toArray, List.set_cons_zero, List.set_cons_succ]
        refine regionK (fun G hG => ?_)
        refine actK (p := fun a => G 8 _ a W) (fun a0 ha0 => ?_)
        refine listK (p := fun l => G 8 l a0 W) (fun l0 hl0 => ?_)
        have HG : Hid _ := hG
        have HA0 : Hid _ := ha0
        have HL0 : Hid _ := hl0
        clear hG ha0 hl0 hHeld
        have ST9_13_14 : Hid (∀ b1 b2, ∀ W : World, st3 w4 W (some b1) (some b2) none → G 2 (((((((l0.setIfInBounds 9 true).setIfInBounds 10 true).setIfInBounds 11 true).setIfInBounds 12 true)).setIfInBounds 13 true).setIfInBounds 14 true) ((((((a0.put (some 51) (.tuple #[.agg (rowV 32 (arrV XA)), .agg (rowV 32 (arrV XB))])).put (some 41) (.tuple #[.agg (rowV 32 (arrV XA)), .agg (rowV 32 (arrV XB))])).put (some 52) (.agg (rowV 32 (arrV XA)))).put (some 53) (.agg (rowV 32 (arrV XB)))).put (some 14) (.pointer (some ⟨b1, 0, none⟩))).put (some 15) (.pointer (some ⟨b2, 0, none⟩))) W) := (show ∀ b1 b2, ∀ W : World, st3 w4 W (some b1) (some b2) none → G 2 (((((((l0.setIfInBounds 9 true).setIfInBounds 10 true).setIfInBounds 11 true).setIfInBounds 12 true)).setIfInBounds 13 true).setIfInBounds 14 true) ((((((a0.put (some 51) (.tuple #[.agg (rowV 32 (arrV XA)), .agg (rowV 32 (arrV XB))])).put (some 41) (.tuple #[.agg (rowV 32 (arrV XA)), .agg (rowV 32 (arrV XB))])).put (some 52) (.agg (rowV 32 (arrV XA)))).put (some 53) (.agg (rowV 32 (arrV XB)))).put (some 14) (.pointer (some ⟨b1, 0, none⟩))).put (some 15) (.pointer (some ⟨b2, 0, none⟩))) W from by
          intro b1 b2 W H
          rw [HA0.out, HL0.out, HG.out]
          try simp only [Act.put, List.setIfInBounds_toArray, List.set_cons_zero, List.set_cons_succ]
          obtain ⟨V1, V2, e1, e2, F1, F⟩ := H.fin2 XA XB
          refine take_one (i := 15) rfl (by kernel_rfl) rfl (fun K hK => ?_)
          unfold Oper.wp execOp
          simp only [Instr.storeAt, Instr.sureAddr, Sem.run_bind, Sem.run_pure, Result.andThen_ok]
          simp [Act.eval, e1, Oper.upon]
          refine hK.out _ _ F1 (fun _ => ?_)
          clear hK K
          try simp only [Act.put, List.setIfInBounds_toArray, List.set_cons_zero, List.set_cons_succ]
          refine take_one (i := 16) rfl (by kernel_rfl) rfl (fun K hK => ?_)
          unfold Oper.wp execOp
          simp only [Instr.storeAt, Instr.sureAddr, Sem.run_bind, Sem.run_pure, Result.andThen_ok]
          simp [Act.eval, e2, Oper.upon]
          refine hK.out _ _ F.2.2.1 (fun _ => ?_)
          clear hK K
          try simp only [Act.put, List.setIfInBounds_toArray, List.set_cons_zero, List.set_cons_succ]
          refine wpAnyH_done (by kernel_rfl) ?_ _
          refine NoPanic.normal ?_
          clear e1 e2 H
          go_wp2_with fail
          go_meet
          case rel => exact ⟨_, _, rfl, rfl, F⟩)
        have ST13_14 : Hid (∀ b1 b2, ∀ W : World, st3 w4 W (some b1) (some b2) none → G 6 ((l0.setIfInBounds 13 true).setIfInBounds 14 true) ((a0.put (some 14) (.pointer (some ⟨b1, 0, none⟩))).put (some 15) (.pointer (some ⟨b2, 0, none⟩))) W) := (show ∀ b1 b2, ∀ W : World, st3 w4 W (some b1) (some b2) none → G 6 ((l0.setIfInBounds 13 true).setIfInBounds 14 true) ((a0.put (some 14) (.pointer (some ⟨b1, 0, none⟩))).put (some 15) (.pointer (some ⟨b2, 0, none⟩))) W from by
          intro b1 b2 W H
          rw [HA0.out, HL0.out, HG.out]
          try simp only [Act.put, List.setIfInBounds_toArray, List.set_cons_zero, List.set_cons_succ]
          refine take_one (i := 9) rfl (by kernel_rfl) rfl (fun K hK => ?_)
          go_simp
          refine Calls.mono (RCW.out _ H.1) ?_
          rintro e W2 ⟨rfl, hb⟩
          have H2 := H.call hb
          refine hK.out _ _ H2.1 (fun hHeld => ?_)
          try simp only [Act.put, List.setIfInBounds_toArray, List.set_cons_zero, List.set_cons_succ]
          refine take_op (i := 10) (v := ?vc9_13_1410) rfl (by kernel_rfl) (by kernel_rfl) (by kernel_rfl) (fun _ _ _ h => h) rfl hHeld ?yc9_13_1410 ?rc9_13_1410
          case yc9_13_1410 => (intro wz hz; go_simp; first | done | with_reducible rfl)
          try simp only [Act.put, List.setIfInBounds_toArray, List.set_cons_zero, List.set_cons_succ]
          refine take_op (i := 11) (v := ?vc9_13_1411) rfl (by kernel_rfl) (by kernel_rfl) (by kernel_rfl) (fun _ _ _ h => h) rfl hHeld ?yc9_13_1411 ?rc9_13_1411
          case yc9_13_1411 => (intro wz hz; go_simp; first | done | with_reducible rfl)
          try simp only [Act.put, List.setIfInBounds_toArray, List.set_cons_zero, List.set_cons_succ]
          refine take_op (i := 12) (v := ?vc9_13_1412) rfl (by kernel_rfl) (by kernel_rfl) (by kernel_rfl) (fun _ _ _ h => h) rfl hHeld ?yc9_13_1412 ?rc9_13_1412
          case yc9_13_1412 => (intro wz hz; go_simp; first | done | with_reducible rfl)
          try simp only [Act.put, List.setIfInBounds_toArray, List.set_cons_zero, List.set_cons_succ]
          have T := ST9_13_14.out b1 b2 W2 H2
          rw [HA0.out, HL0.out, HG.out] at T
          try simp only [Act.put, List.setIfInBounds_toArray, List.set_cons_zero, List.set_cons_succ] at T
          exact lcong (by kernel_rfl) T)
        have ST9_13 : Hid (∀ b1, ∀ W : World, st3 w4 W (some b1) none none → G 3 ((((((l0.setIfInBounds 9 true).setIfInBounds 10 true).setIfInBounds 11 true).setIfInBounds 12 true)).setIfInBounds 13 true) (((((a0.put (some 51) (.tuple #[.agg (rowV 32 (arrV XA)), .agg (rowV 32 (arrV XB))])).put (some 41) (.tuple #[.agg (rowV 32 (arrV XA)), .agg (rowV 32 (arrV XB))])).put (some 52) (.agg (rowV 32 (arrV XA)))).put (some 53) (.agg (rowV 32 (arrV XB)))).put (some 14) (.pointer (some ⟨b1, 0, none⟩))) W) := (show ∀ b1, ∀ W : World, st3 w4 W (some b1) none none → G 3 ((((((l0.setIfInBounds 9 true).setIfInBounds 10 true).setIfInBounds 11 true).setIfInBounds 12 true)).setIfInBounds 13 true) (((((a0.put (some 51) (.tuple #[.agg (rowV 32 (arrV XA)), .agg (rowV 32 (arrV XB))])).put (some 41) (.tuple #[.agg (rowV 32 (arrV XA)), .agg (rowV 32 (arrV XB))])).put (some 52) (.agg (rowV 32 (arrV XA)))).put (some 53) (.agg (rowV 32 (arrV XB)))).put (some 14) (.pointer (some ⟨b1, 0, none⟩))) W from by
          intro b1 W H
          rw [HA0.out, HL0.out, HG.out]
          try simp only [Act.put, List.setIfInBounds_toArray, List.set_cons_zero, List.set_cons_succ]
          refine take_one (i := 14) rfl (by kernel_rfl) rfl (fun K hK => ?_)
          obtain ⟨W2, b2, hr, H2⟩ := H.al2
          refine wp_of_run (exec_allocR rfl hr) ?_
          refine hK.out _ _ H2.1 (fun hHeld => ?_)
          try simp only [Act.put, List.setIfInBounds_toArray, List.set_cons_zero, List.set_cons_succ]
          have T := ST9_13_14.out b1 b2 W2 H2
          rw [HA0.out, HL0.out, HG.out] at T
          try simp only [Act.put, List.setIfInBounds_toArray, List.set_cons_zero, List.set_cons_succ] at T
          exact lcong (by kernel_rfl) T)
        have ST9_14 : Hid (∀ b2, ∀ W : World, st3 w4 W none (some b2) none → G 3 ((((((l0.setIfInBounds 9 true).setIfInBounds 10 true).setIfInBounds 11 true).setIfInBounds 12 true)).setIfInBounds 14 true) (((((a0.put (some 51) (.tuple #[.agg (rowV 32 (arrV XA)), .agg (rowV 32 (arrV XB))])).put (some 41) (.tuple #[.agg (rowV 32 (arrV XA)), .agg (rowV 32 (arrV XB))])).put (some 52) (.agg (rowV 32 (arrV XA)))).put (some 53) (.agg (rowV 32 (arrV XB)))).put (some 15) (.pointer (some ⟨b2, 0, none⟩))) W) := (show ∀ b2, ∀ W : World, st3 w4 W none (some b2) none → G 3 ((((((l0.setIfInBounds 9 true).setIfInBounds 10 true).setIfInBounds 11 true).setIfInBounds 12 true)).setIfInBounds 14 true) (((((a0.put (some 51) (.tuple #[.agg (rowV 32 (arrV XA)), .agg (rowV 32 (arrV XB))])).put (some 41) (.tuple #[.agg (rowV 32 (arrV XA)), .agg (rowV 32 (arrV XB))])).put (some 52) (.agg (rowV 32 (arrV XA)))).put (some 53) (.agg (rowV 32 (arrV XB)))).put (some 15) (.pointer (some ⟨b2, 0, none⟩))) W from by
          intro b2 W H
          rw [HA0.out, HL0.out, HG.out]
          try simp only [Act.put, List.setIfInBounds_toArray, List.set_cons_zero, List.set_cons_succ]
          refine take_one (i := 13) rfl (by kernel_rfl) rfl (fun K hK => ?_)
          obtain ⟨W2, b1, hr, H2⟩ := H.al1
          refine wp_of_run (exec_allocR rfl hr) ?_
          refine hK.out _ _ H2.1 (fun hHeld => ?_)
          try simp only [Act.put, List.setIfInBounds_toArray, List.set_cons_zero, List.set_cons_succ]
          have T := ST9_13_14.out b1 b2 W2 H2
          rw [HA0.out, HL0.out, HG.out] at T
          try simp only [Act.put, List.setIfInBounds_toArray, List.set_cons_zero, List.set_cons_succ] at T
          exact lcong (by kernel_rfl) T)
        have ST13 : Hid (∀ b1, ∀ W : World, st3 w4 W (some b1) none none → G 7 (l0.setIfInBounds 13 true) (a0.put (some 14) (.pointer (some ⟨b1, 0, none⟩))) W) := (show ∀ b1, ∀ W : World, st3 w4 W (some b1) none none → G 7 (l0.setIfInBounds 13 true) (a0.put (some 14) (.pointer (some ⟨b1, 0, none⟩))) W from by
          intro b1 W H
          rw [HA0.out, HL0.out, HG.out]
          try simp only [Act.put, List.setIfInBounds_toArray, List.set_cons_zero, List.set_cons_succ]
          refine take_pair (i := 9) (j := 14) rfl rfl (by kernel_rfl) rfl rfl (fun K hK => ?_) (fun K hK => ?_)
          · go_simp
            refine Calls.mono (RCW.out _ H.1) ?_
            rintro e W2 ⟨rfl, hb⟩
            have H2 := H.call hb
            refine hK.out _ _ H2.1 (fun hHeld => ?_)
            try simp only [Act.put, List.setIfInBounds_toArray, List.set_cons_zero, List.set_cons_succ]
            refine take_op (i := 10) (v := ?vc9_1310) rfl (by kernel_rfl) (by kernel_rfl) (by kernel_rfl) (fun _ _ _ h => h) rfl hHeld ?yc9_1310 ?rc9_1310
            case yc9_1310 => (intro wz hz; go_simp; first | done | with_reducible rfl)
            try simp only [Act.put, List.setIfInBounds_toArray, List.set_cons_zero, List.set_cons_succ]
            refine take_op (i := 11) (v := ?vc9_1311) rfl (by kernel_rfl) (by kernel_rfl) (by kernel_rfl) (fun _ _ _ h => h) rfl hHeld ?yc9_1311 ?rc9_1311
            case yc9_1311 => (intro wz hz; go_simp; first | done | with_reducible rfl)
            try simp only [Act.put, List.setIfInBounds_toArray, List.set_cons_zero, List.set_cons_succ]
            refine take_op (i := 12) (v := ?vc9_1312) rfl (by kernel_rfl) (by kernel_rfl) (by kernel_rfl) (fun _ _ _ h => h) rfl hHeld ?yc9_1312 ?rc9_1312
            case yc9_1312 => (intro wz hz; go_simp; first | done | with_reducible rfl)
            try simp only [Act.put, List.setIfInBounds_toArray, List.set_cons_zero, List.set_cons_succ]
            have T := ST9_13.out b1 W2 H2
            rw [HA0.out, HL0.out, HG.out] at T
            try simp only [Act.put, List.setIfInBounds_toArray, List.set_cons_zero, List.set_cons_succ] at T
            exact lcong (by kernel_rfl) T
          · obtain ⟨W2, b2, hr, H2⟩ := H.al2
            refine wp_of_run (exec_allocR rfl hr) ?_
            refine hK.out _ _ H2.1 (fun hHeld => ?_)
            try simp only [Act.put, List.setIfInBounds_toArray, List.set_cons_zero, List.set_cons_succ]
            have T := ST13_14.out b1 b2 W2 H2
            rw [HA0.out, HL0.out, HG.out] at T
            try simp only [Act.put, List.setIfInBounds_toArray, List.set_cons_zero, List.set_cons_succ] at T
            exact lcong (by kernel_rfl) T)
        have ST14 : Hid (∀ b2, ∀ W : World, st3 w4 W none (some b2) none → G 7 (l0.setIfInBounds 14 true) (a0.put (some 15) (.pointer (some ⟨b2, 0, none⟩))) W) := (show ∀ b2, ∀ W : World, st3 w4 W none (some b2) none → G 7 (l0.setIfInBounds 14 true) (a0.put (some 15) (.pointer (some ⟨b2, 0, none⟩))) W from by
          intro b2 W H
          rw [HA0.out, HL0.out, HG.out]
          try simp only [Act.put, List.setIfInBounds_toArray, List.set_cons_zero, List.set_cons_succ]
          refine take_pair (i := 9) (j := 13) rfl rfl (by kernel_rfl) rfl rfl (fun K hK => ?_) (fun K hK => ?_)
          · go_simp
            refine Calls.mono (RCW.out _ H.1) ?_
            rintro e W2 ⟨rfl, hb⟩
            have H2 := H.call hb
            refine hK.out _ _ H2.1 (fun hHeld => ?_)
            try simp only [Act.put, List.setIfInBounds_toArray, List.set_cons_zero, List.set_cons_succ]
            refine take_op (i := 10) (v := ?vc9_1410) rfl (by kernel_rfl) (by kernel_rfl) (by kernel_rfl) (fun _ _ _ h => h) rfl hHeld ?yc9_1410 ?rc9_1410
            case yc9_1410 => (intro wz hz; go_simp; first | done | with_reducible rfl)
            try simp only [Act.put, List.setIfInBounds_toArray, List.set_cons_zero, List.set_cons_succ]
            refine take_op (i := 11) (v := ?vc9_1411) rfl (by kernel_rfl) (by kernel_rfl) (by kernel_rfl) (fun _ _ _ h => h) rfl hHeld ?yc9_1411 ?rc9_1411
            case yc9_1411 => (intro wz hz; go_simp; first | done | with_reducible rfl)
            try simp only [Act.put, List.setIfInBounds_toArray, List.set_cons_zero, List.set_cons_succ]
            refine take_op (i := 12) (v := ?vc9_1412) rfl (by kernel_rfl) (by kernel_rfl) (by kernel_rfl) (fun _ _ _ h => h) rfl hHeld ?yc9_1412 ?rc9_1412
            case yc9_1412 => (intro wz hz; go_simp; first | done | with_reducible rfl)
            try simp only [Act.put, List.setIfInBounds_toArray, List.set_cons_zero, List.set_cons_succ]
            have T := ST9_14.out b2 W2 H2
            rw [HA0.out, HL0.out, HG.out] at T
            try simp only [Act.put, List.setIfInBounds_toArray, List.set_cons_zero, List.set_cons_succ] at T
            exact lcong (by kernel_rfl) T
          · obtain ⟨W2, b1, hr, H2⟩ := H.al1
            refine wp_of_run (exec_allocR rfl hr) ?_
            refine hK.out _ _ H2.1 (fun hHeld => ?_)
            try simp only [Act.put, List.setIfInBounds_toArray, List.set_cons_zero, List.set_cons_succ]
            have T := ST13_14.out b1 b2 W2 H2
            rw [HA0.out, HL0.out, HG.out] at T
            try simp only [Act.put, List.setIfInBounds_toArray, List.set_cons_zero, List.set_cons_succ] at T
            exact lcong (by kernel_rfl) T)
        have ST9 : Hid (∀ W : World, st3 w4 W none none none → G 4 (((((l0.setIfInBounds 9 true).setIfInBounds 10 true).setIfInBounds 11 true).setIfInBounds 12 true)) ((((a0.put (some 51) (.tuple #[.agg (rowV 32 (arrV XA)), .agg (rowV 32 (arrV XB))])).put (some 41) (.tuple #[.agg (rowV 32 (arrV XA)), .agg (rowV 32 (arrV XB))])).put (some 52) (.agg (rowV 32 (arrV XA)))).put (some 53) (.agg (rowV 32 (arrV XB)))) W) := (show ∀ W : World, st3 w4 W none none none → G 4 (((((l0.setIfInBounds 9 true).setIfInBounds 10 true).setIfInBounds 11 true).setIfInBounds 12 true)) ((((a0.put (some 51) (.tuple #[.agg (rowV 32 (arrV XA)), .agg (rowV 32 (arrV XB))])).put (some 41) (.tuple #[.agg (rowV 32 (arrV XA)), .agg (rowV 32 (arrV XB))])).put (some 52) (.agg (rowV 32 (arrV XA)))).put (some 53) (.agg (rowV 32 (arrV XB)))) W from by
          intro  W H
          rw [HA0.out, HL0.out, HG.out]
          try simp only [Act.put, List.setIfInBounds_toArray, List.set_cons_zero, List.set_cons_succ]
          refine take_pair (i := 13) (j := 14) rfl rfl (by kernel_rfl) rfl rfl (fun K hK => ?_) (fun K hK => ?_)
          · obtain ⟨W2, b1, hr, H2⟩ := H.al1
            refine wp_of_run (exec_allocR rfl hr) ?_
            refine hK.out _ _ H2.1 (fun hHeld => ?_)
            try simp only [Act.put, List.setIfInBounds_toArray, List.set_cons_zero, List.set_cons_succ]
            have T := ST9_13.out b1 W2 H2
            rw [HA0.out, HL0.out, HG.out] at T
            try simp only [Act.put, List.setIfInBounds_toArray, List.set_cons_zero, List.set_cons_succ] at T
            exact lcong (by kernel_rfl) T
          · obtain ⟨W2, b2, hr, H2⟩ := H.al2
            refine wp_of_run (exec_allocR rfl hr) ?_
            refine hK.out _ _ H2.1 (fun hHeld => ?_)
            try simp only [Act.put, List.setIfInBounds_toArray, List.set_cons_zero, List.set_cons_succ]
            have T := ST9_14.out b2 W2 H2
            rw [HA0.out, HL0.out, HG.out] at T
            try simp only [Act.put, List.setIfInBounds_toArray, List.set_cons_zero, List.set_cons_succ] at T
            exact lcong (by kernel_rfl) T)
        have ST : Hid (∀ W : World, st3 w4 W none none none → G 8 l0 a0 W) := (show ∀ W : World, st3 w4 W none none none → G 8 l0 a0 W from by
          intro  W H
          rw [HA0.out, HL0.out, HG.out]
          try simp only [Act.put, List.setIfInBounds_toArray, List.set_cons_zero, List.set_cons_succ]
          refine take_threeG (i := 9) (j := 13) (k := 14) rfl rfl rfl (by kernel_rfl) rfl rfl rfl (fun K hK => ?_) (fun K hK => ?_) (fun K hK => ?_)
          · go_simp
            refine Calls.mono (RCW.out _ H.1) ?_
            rintro e W2 ⟨rfl, hb⟩
            have H2 := H.call hb
            refine hK.out _ _ H2.1 (fun hHeld => ?_)
            try simp only [Act.put, List.setIfInBounds_toArray, List.set_cons_zero, List.set_cons_succ]
            refine take_op (i := 10) (v := ?vc9_10) rfl (by kernel_rfl) (by kernel_rfl) (by kernel_rfl) (fun _ _ _ h => h) rfl hHeld ?yc9_10 ?rc9_10
            case yc9_10 => (intro wz hz; go_simp; first | done | with_reducible rfl)
            try simp only [Act.put, List.setIfInBounds_toArray, List.set_cons_zero, List.set_cons_succ]
            refine take_op (i := 11) (v := ?vc9_11) rfl (by kernel_rfl) (by kernel_rfl) (by kernel_rfl) (fun _ _ _ h => h) rfl hHeld ?yc9_11 ?rc9_11
            case yc9_11 => (intro wz hz; go_simp; first | done | with_reducible rfl)
            try simp only [Act.put, List.setIfInBounds_toArray, List.set_cons_zero, List.set_cons_succ]
            refine take_op (i := 12) (v := ?vc9_12) rfl (by kernel_rfl) (by kernel_rfl) (by kernel_rfl) (fun _ _ _ h => h) rfl hHeld ?yc9_12 ?rc9_12
            case yc9_12 => (intro wz hz; go_simp; first | done | with_reducible rfl)
            try simp only [Act.put, List.setIfInBounds_toArray, List.set_cons_zero, List.set_cons_succ]
            have T := ST9.out  W2 H2
            rw [HA0.out, HL0.out, HG.out] at T
            try simp only [Act.put, List.setIfInBounds_toArray, List.set_cons_zero, List.set_cons_succ] at T
            exact lcong (by kernel_rfl) T
          · obtain ⟨W2, b1, hr, H2⟩ := H.al1
            refine wp_of_run (exec_allocR rfl hr) ?_
            refine hK.out _ _ H2.1 (fun hHeld => ?_)
            try simp only [Act.put, List.setIfInBounds_toArray, List.set_cons_zero, List.set_cons_succ]
            have T := ST13.out b1 W2 H2
            rw [HA0.out, HL0.out, HG.out] at T
            try simp only [Act.put, List.setIfInBounds_toArray, List.set_cons_zero, List.set_cons_succ] at T
            exact lcong (by kernel_rfl) T
          · obtain ⟨W2, b2, hr, H2⟩ := H.al2
            refine wp_of_run (exec_allocR rfl hr) ?_
            refine hK.out _ _ H2.1 (fun hHeld => ?_)
            try simp only [Act.put, List.setIfInBounds_toArray, List.set_cons_zero, List.set_cons_succ]
            have T := ST14.out b2 W2 H2
            rw [HA0.out, HL0.out, HG.out] at T
            try simp only [Act.put, List.setIfInBounds_toArray, List.set_cons_zero, List.set_cons_succ] at T
            exact lcong (by kernel_rfl) T)
        exact ST.out W H
      case rest =>
        obtain ⟨ba, bb, rfl, rfl, ra, rb, b6, na, nb⟩ := hcut
        rename World => w6
        have O6 : Hid (tOwn w old y w6) := (show tOwn w old y w6 from OWN.out.below b6 OWN.out.2.2.2.2.2)
        have s4 := OWN.out.2.2.2.2.2
        have NN : Hid (w.heap.size + 4 ≤ ba ∧ w.heap.size + 4 ≤ bb) := (show w.heap.size + 4 ≤ ba ∧ w.heap.size + 4 ≤ bb from ⟨by omega, by omega⟩)
        have S6 : w6.drew.rowIs ba 29 32 (arrV XA) ∧ w6.drew.rowIs bb 29 32 (arrV XB) ∧ w6.drew.rowIs (w.heap.size + 3) 29 32 (arrV y) := ⟨ra, rb, O6.out.2.2.2.2.1⟩
        have OD : Hid (tOwn w old y w6.drew) := (show tOwn w old y w6.drew from O6.out.below ((Below.refl w6.heap.size w6).drew) O6.out.2.2.2.2.2)
        clear RC ra rb b6 na nb s4
        go_upto_region 9 with fail
        refine wp_region_noPanic ?_
        refine wp_region_held_drew (S := fun w' => w'.rowIs ba 29 32 (arrV XA) ∧ w'.rowIs bb 29 32 (arrV XB) ∧ w'.rowIs (w.heap.size + 3) 29 32 (arrV y)) (by kernel_rfl) S6 (fun hHeld => ?_)
        refine take_load (S := fun w' => w'.rowIs ba 29 32 (arrV XA) ∧ w'.rowIs bb 29 32 (arrV XB) ∧ w'.rowIs (w.heap.size + 3) 29 32 (arrV y)) (i := 0) rfl (by kernel_rfl) (by kernel_rfl) (by kernel_rfl) 29 _ rfl ba 0 32 (arrV XA) rfl _ Tryd.underlying29 rfl (by kernel_rfl) (fun _ _ _ h => h) rfl hHeld (fun wz hz j hj => by rw [Nat.zero_add]; exact hz.1.cell hj) ?_
        try simp only [Act.put, List.setIfInBounds_toArray, List.set_cons_zero, List.set_cons_succ]
        refine take_load (S := fun w' => w'.rowIs ba 29 32 (arrV XA) ∧ w'.rowIs bb 29 32 (arrV XB) ∧ w'.rowIs (w.heap.size + 3) 29 32 (arrV y)) (i := 1) rfl (by kernel_rfl) (by kernel_rfl) (by kernel_rfl) 29 _ rfl bb 0 32 (arrV XB) rfl _ Tryd.underlying29 rfl (by kernel_rfl) (fun _ _ _ h => h) rfl hHeld (fun wz hz j hj => by rw [Nat.zero_add]; exact hz.2.1.cell hj) ?_
        try simp only [Act.put, List.setIfInBounds_toArray, List.set_cons_zero, List.set_cons_succ]
        refine take_load (S := fun w' => w'.rowIs ba 29 32 (arrV XA) ∧ w'.rowIs bb 29 32 (arrV XB) ∧ w'.rowIs (w.heap.size + 3) 29 32 (arrV y)) (i := 2) rfl (by kernel_rfl) (by kernel_rfl) (by kernel_rfl) 29 _ rfl (w.heap.size + 3) 0 32 (arrV y) rfl _ Tryd.underlying29 rfl (by kernel_rfl) (fun _ _ _ h => h) rfl hHeld (fun wz hz j hj => by rw [Nat.zero_add]; exact hz.2.2.cell hj) ?_
        try simp only [Act.put, List.setIfInBounds_toArray, List.set_cons_zero, List.set_cons_succ]
        have XN0 := rnode_any XB y w6.drew TSH.out.2 HY.out.1
        unfold sumV at XN0
        refine take_one (i := 3) rfl (by kernel_rfl) rfl (fun K hK => ?_)
        go_simp
        refine Calls.mono XN0 ?_
        rintro e x0 ⟨rfl, c0⟩
        have T0 : tOwn w old y x0 := (OD.out).below c0 (OD.out).2.2.2.2.2
        have U0 : x0.rowIs ba 29 32 (arrV XA) ∧ x0.rowIs bb 29 32 (arrV XB) ∧ x0.rowIs (w.heap.size + 3) 29 32 (arrV y) := ⟨c0.row S6.1 (gRow_lt S6.1), c0.row S6.2.1 (gRow_lt S6.2.1), c0.row S6.2.2 (gRow_lt S6.2.2)⟩
        refine hK.out _ _ U0 (fun hHeld => ?_)
        clear hK K XN0 c0
        try simp only [Act.put, List.setIfInBounds_toArray, List.set_cons_zero, List.set_cons_succ]
        obtain ⟨V1, V2, e1, e2, rV1, rV2, bV, kV⟩ := T0.tell XA (nodeS [XB, y])
        have g1 := kV ba _ (by have := NN.out; omega) (by have := NN.out; omega) U0.1
        have g2 := kV bb _ (by have := NN.out; omega) (by have := NN.out; omega) U0.2.1
        have g3 := kV (w.heap.size + 3) _ (by omega) (by omega) U0.2.2
        refine take_one (i := 4) rfl (by kernel_rfl) rfl (fun K hK => ?_)
        unfold Oper.wp execOp
        simp only [Instr.storeAt, Instr.sureAddr, Sem.run_bind, Sem.run_pure, Result.andThen_ok]
        simp [Act.eval, e1, Oper.upon]
        refine hK.out _ _ ⟨g1.1, g2.1, g3.1⟩ (fun hHeld => ?_)
        clear hK K
        try simp only [Act.put, List.setIfInBounds_toArray, List.set_cons_zero, List.set_cons_succ]
        refine take_one (i := 5) rfl (by kernel_rfl) rfl (fun K hK => ?_)
        unfold Oper.wp execOp
        simp only [Instr.storeAt, Instr.sureAddr, Sem.run_bind, Sem.run_pure, Result.andThen_ok]
        simp [Act.eval, e2, Oper.upon]
        refine hK.out _ _ ⟨g1.2, g2.2, g3.2⟩ (fun hHeld => ?_)
        clear hK K
        try simp only [Act.put, List.setIfInBounds_toArray, List.set_cons_zero, List.set_cons_succ]
        refine wpAnyH_done (by kernel_rfl) ?_ _
        refine NoPanic.normal ?_
        have BV : Hid (Below w.heap.size w V2) := (show Below w.heap.size w V2 from bV)
        have Y1 : Hid (V2.rowIs (w.heap.size + 1) 29 32 (arrV XA)) := (show V2.rowIs (w.heap.size + 1) 29 32 (arrV XA) from rV1)
        have Y2 : Hid (V2.rowIs (w.heap.size + 2) 29 32 (arrV (nodeS [XB, y]))) := (show V2.rowIs (w.heap.size + 2) 29 32 (arrV (nodeS [XB, y])) from rV2)
        clear bV rV1 rV2 kV g1 g2 g3 hHeld e1 e2 U0 T0 S6
        go_wp2
        exact bodyPost_ret (results_two_cells rfl _ _ (w.heap.size + 1) (w.heap.size + 2) 29 (arrV XA) (arrV (nodeS [XB, y])) 32 _ rfl rfl Tryd.underlying29 rfl hi32' Y1.out Y2.out) rfl ⟨by rw [EQ.out], BV.out⟩
    · obtain ⟨hq, hE⟩ := EL hx
      have hc : ¬ (m : Int) ≤ (hf : Int) := by omega
      have TS := tT_sum (m - hf) (n - hf) false old q HY.out.2.1 HY.out.2.2 hq
      have RC : Hid (∀ W, tOwn w old y W → Calls Tryd.prog 30 #[.int .i64 ((m : Int) - (hf : Int)), .int .i64 ((n : Int) - (hf : Int)), .bool false, .agg (rowV 32 (arrV old)), .slice xu q.length yu] W fun e w' => e = .returned (.tuple #[.agg (rowV 32 (arrV (tT (m - hf) (n - hf) false old q).1)), .agg (rowV 32 (arrV (tT (m - hf) (n - hf) false old q).2))]) ∧ Below W.heap.size W w') := (show _ from fun W hW => by
        have := ih (m - hf) (n - hf) false old q (.slice xu q.length yu) W (by omega) (by omega) (by omega) (by omega) HY.out.2.1 (HQ.out W hW) hq
        rw [show ((m - hf : Nat) : Int) = (m : Int) - (hf : Int) by omega, show ((n - hf : Nat) : Int) = (n : Int) - (hf : Int) by omega] at this
        exact this)
      generalize tT (m - hf) (n - hf) false old q = X at hE TS RC
      obtain ⟨XA, XB⟩ := X
      have EQ : Hid (tT m n first old (q ++ [y]) = (nodeS [y, XA], nodeS [y, XB])) := (show tT m n first old (q ++ [y]) = (nodeS [y, XA], nodeS [y, XB]) from by rw [hE]; unfold gUp; rw [if_neg (by simp)])
      have TSH : Hid (isSum XA ∧ isSum XB) := (show isSum XA ∧ isSum XB from TS)
      have hwm : IntKind.wrap .i64 ((m : Int) - (hf : Int)) = (m : Int) - (hf : Int) := IntWalk.i64_in _ ⟨by omega, by omega⟩
      have hwn : IntKind.wrap .i64 ((n : Int) - (hf : Int)) = (n : Int) - (hf : Int) := IntWalk.i64_in _ ⟨by omega, by omega⟩
      clear ER EL ih hE TS hh h1 h2 hk hn hq e
      go_enter Tryd.func30, Tryd.ntmps30
      go_upto_region 1 with fail
      rw [← hw1]
      clear hw1
      go_wp2_with fail
      refine XH.mono ?_
      rintro e w' ⟨rfl, hw⟩
      obtain rfl := hw.symm
      clear XH hw
      go_upto_region 7 with (first | (refine wpList_load_w 29 (.tmp 36) rfl rfl g (o + q.length * 32) 32 (arrV y) rfl _ Tryd.underlying29 rfl hi32' hcy1 ?_) | (refine wpList_store_row rfl 29 _ _ rfl rfl w1.heap.size 0 32 (arrV y) rfl rfl hi32' (fun _ _ => rfl) _ _ _ r3 (by omega) ?_; intro w4 r4 hz4 hb4))
      have OWN : Hid (tOwn w old y w4) := (show tOwn w old y w4 from OW.out w4 r4 hz4 hb4)
      have e13 : w1.heap.size = w.heap.size + 3 := Z1.out
      clear OW r4 hz4 hb4 r3 hcy1
      rw [e13]
      clear e13
      go_upto_region 10 with fail
      go_cut [16, 17] from 58 to 73 (fun pa pb wx => ∃ ba bb, pa = .pointer (some ⟨ba, 0, none⟩) ∧ pb = .pointer (some ⟨bb, 0, none⟩) ∧ wx.rowIs ba 29 32 (arrV XA) ∧ wx.rowIs bb 29 32 (arrV XB) ∧ Below w4.heap.size w4 wx ∧ w4.heap.size ≤ ba ∧ w4.heap.size ≤ bb)
      case first =>
        have H : st3 w4 w4.drew none none none := ⟨(Below.refl _ _).drew, fun x h => (by cases h), fun x h => (by cases h), fun x h => (by cases h), fun x h => (by cases h), fun x h => (by cases h)⟩
        refine wp_region_noPanic ?_
        refine wp_region_held_drew (S := fun w' => Below w4.heap.size w4 w') (by kernel_rfl) H.1 (fun hHeld => ?_)
        have RCW : Hid (∀ W, Below w4.heap.size w4 W → Calls Tryd.prog 30 #[.int .i64 ((m : Int) - (hf : Int)), .int .i64 ((n : Int) - (hf : Int)), .bool false, .agg (rowV 32 (arrV old)), .slice xu q.length yu] W fun e w' => e = .returned (.tuple #[.agg (rowV 32 (arrV XA)), .agg (rowV 32 (arrV XB))]) ∧ Below W.heap.size W w') := (show _ from fun W hW => RC.out W (OWN.out.below hW OWN.out.2.2.2.2.2))
        generalize w4.drew = W at H hHeld ⊢
        refine take_op (i := 0) (v := ?vb0) rfl (by kernel_rfl) (by kernel_rfl) (by kernel_rfl) (fun _ _ _ h => h) rfl hHeld ?yb0 ?rb0
        case yb0 => (intro wz hz; go_simp; first | done | with_reducible rfl)
        try simp only [Act.put, List.setIfInBounds_toArray, List.set_cons_zero, List.set_cons_succ]
        refine take_op (i := 1) (v := ?vb1) rfl (by kernel_rfl) (by kernel_rfl) (by kernel_rfl) (fun _ _ _ h => h) rfl hHeld ?yb1 ?rb1
        case yb1 => (intro wz hz; go_simp; first | done | with_reducible rfl)
        try simp only [Act.put, List.setIfInBounds_toArray, List.set_cons_zero, List.set_cons_succ]
        refine take_op (i := 2) (v := ?vb2) rfl (by kernel_rfl) (by kernel_rfl) (by kernel_rfl) (fun _ _ _ h => h) rfl hHeld ?yb2 ?rb2
        case yb2 => (intro wz hz; go_simp; first | done | with_reducible rfl)
        try simp only [Act.put, List.setIfInBounds_toArray, List.set_cons_zero, List.set_cons_succ]
        refine take_op (i := 3) (v := ?vb3) rfl (by kernel_rfl) (by kernel_rfl) (by kernel_rfl) (fun _ _ _ h => h) rfl hHeld ?yb3 ?rb3
        case yb3 => (intro wz hz; go_simp; first | done | with_reducible rfl)
        try simp only [Act.put, List.setIfInBounds_toArray, List.set_cons_zero, List.set_cons_succ]
        refine take_op (i := 4) (v := ?vb4) rfl (by kernel_rfl) (by kernel_rfl) (by kernel_rfl) (fun _ _ _ h => h) rfl hHeld ?yb4 ?rb4
        case yb4 => (intro wz hz; go_simp; first | done | with_reducible rfl)
        try simp only [Act.put, List.setIfInBounds_toArray, List.set_cons_zero, List.set_cons_succ]
        refine take_op (i := 5) (v := ?vb5) rfl (by kernel_rfl) (by kernel_rfl) (by kernel_rfl) (fun _ _ _ h => h) rfl hHeld ?yb5 ?rb5
        case yb5 => (intro wz hz; go_simp; first | done | with_reducible rfl)
        try simp only [Act.put, List.setIfInBounds_toArray, List.set_cons_zero, List.set_cons_succ]
        refine take_load (i := 6) rfl (by kernel_rfl) (by kernel_rfl) (by kernel_rfl) 29 _ rfl w.heap.size 0 32 (arrV old) rfl _ Tryd.underlying29 rfl (by kernel_rfl) (fun _ _ _ h => h) rfl hHeld (fun wz hz j hj => by rw [Nat.zero_add]; exact (OWN.out.below hz OWN.out.2.2.2.2.2).2.1.cell hj) ?_
        try simp only [Act.put, List.setIfInBounds_toArray, List.set_cons_zero, List.set_cons_succ]
        refine take_op (i := 7) (v := ?vb7) rfl (by kernel_rfl) (by kernel_rfl) (by kernel_rfl) (fun _ _ _ h => h) rfl hHeld ?yb7 ?rb7
        case yb7 => (intro wz hz; go_simp; first | done | with_reducible rfl)
        try simp only [Act.put, List.setIfInBounds_toArray, List.set_cons_zero, List.set_cons_succ]
        refine take_op (i := 8) (v := ?vb8) rfl (by kernel_rfl) (by kernel_rfl) (by kernel_rfl) (fun _ _ _ h => h) rfl hHeld ?yb8 ?rb8
        case yb8 => (intro wz hz; go_simp; first | done | with_reducible rfl)
        try simp only [Act.put, List.setIfInBounds_toArray, List.set_cons_zero, List.set_cons_succ]
        refine take_op (i := 9) (v := ?vb9) rfl (by kernel_rfl) (by kernel_rfl) (by kernel_rfl) (fun _ _ _ h => h) rfl hHeld ?yb9 ?rb9
        case yb9 => (intro wz hz; go_simp; first | done | with_reducible rfl)
        try simp only [Act.put, List.setIfInBounds_toArray, List.set_cons_zero, List.set_cons_succ]
        refine take_op (i := 10) (v := ?vb10) rfl (by kernel_rfl) (by kernel_rfl) (by kernel_rfl) (fun _ _ _ h => h) rfl hHeld ?yb10 ?rb10
        case yb10 => (intro wz hz; go_simp; first | done | with_reducible rfl)
        try simp only [Act.put, List.setIfInBounds_toArray, List.set_cons_zero, List.set_cons_succ]
        refine take_op (i := 11) (v := ?vb11) rfl (by kernel_rfl) (by kernel_rfl) (by kernel_rfl) (fun _ _ _ h => h) rfl hHeld ?yb11 ?rb11
        case yb11 => (intro wz hz; have hcz := RU.out wz; go_simp; first | done | with_reducible rfl)
        try simp only [Act.put, List.setIfInBounds_toArray, List.set_cons_zero, List.set_cons_succ]
        refine regionK (fun G hG => ?_)
        refine actK (p := fun a => G 8 _ a W) (fun a0 ha0 => ?_)
        refine listK (p := fun l => G 8 l a0 W) (fun l0 hl0 => ?_)
        have HG : Hid _ := hG
        have HA0 : Hid _ := ha0
        have HL0 : Hid _ := hl0
        clear hG ha0 hl0 hHeld
        have ST12_16_17 : Hid (∀ b1 b2, ∀ W : World, st3 w4 W (some b1) (some b2) none → G 2 (((((((l0.setIfInBounds 12 true).setIfInBounds 13 true).setIfInBounds 14 true).setIfInBounds 15 true)).setIfInBounds 16 true).setIfInBounds 17 true) ((((((a0.put (some 71) (.tuple #[.agg (rowV 32 (arrV XA)), .agg (rowV 32 (arrV XB))])).put (some 58) (.tuple #[.agg (rowV 32 (arrV XA)), .agg (rowV 32 (arrV XB))])).put (some 72) (.agg (rowV 32 (arrV XA)))).put (some 73) (.agg (rowV 32 (arrV XB)))).put (some 16) (.pointer (some ⟨b1, 0, none⟩))).put (some 17) (.pointer (some ⟨b2, 0, none⟩))) W) := (show ∀ b1 b2, ∀ W : World, st3 w4 W (some b1) (some b2) none → G 2 (((((((l0.setIfInBounds 12 true).setIfInBounds 13 true).setIfInBounds 14 true).setIfInBounds 15 true)).setIfInBounds 16 true).setIfInBounds 17 true) ((((((a0.put (some 71) (.tuple #[.agg (rowV 32 (arrV XA)), .agg (rowV 32 (arrV XB))])).put (some 58) (.tuple #[.agg (rowV 32 (arrV XA)), .agg (rowV 32 (arrV XB))])).put (some 72) (.agg (rowV 32 (arrV XA)))).put (some 73) (.agg (rowV 32 (arrV XB)))).put (some 16) (.pointer (some ⟨b1, 0, none⟩))).put (some 17) (.pointer (some ⟨b2, 0, none⟩))) W from by
          intro b1 b2 W H
          rw [HA0.out, HL0.out, HG.out]
          try simp only [Act.put, List.setIfInBounds_toArray, List.set_cons_zero, List.set_cons_succ]
          obtain ⟨V1, V2, e1, e2, F1, F⟩ := H.fin2 XA XB
          refine take_one (i := 18) rfl (by kernel_rfl) rfl (fun K hK => ?_)
          unfold Oper.wp execOp
          simp only [Instr.storeAt, Instr.sureAddr, Sem.run_bind, Sem.run_pure, Result.andThen_ok]
          simp [Act.eval, e1, Oper.upon]
          refine hK.out _ _ F1 (fun _ => ?_)
          clear hK K
          try simp only [Act.put, List.setIfInBounds_toArray, List.set_cons_zero, List.set_cons_succ]
          refine take_one (i := 19) rfl (by kernel_rfl) rfl (fun K hK => ?_)
          unfold Oper.wp execOp
          simp only [Instr.storeAt, Instr.sureAddr, Sem.run_bind, Sem.run_pure, Result.andThen_ok]
          simp [Act.eval, e2, Oper.upon]
          refine hK.out _ _ F.2.2.1 (fun _ => ?_)
          clear hK K
          try simp only [Act.put, List.setIfInBounds_toArray, List.set_cons_zero, List.set_cons_succ]
          refine wpAnyH_done (by kernel_rfl) ?_ _
          refine NoPanic.normal ?_
          clear e1 e2 H
          go_wp2_with fail
          go_meet
          case rel => exact ⟨_, _, rfl, rfl, F⟩)
        have ST16_17 : Hid (∀ b1 b2, ∀ W : World, st3 w4 W (some b1) (some b2) none → G 6 ((l0.setIfInBounds 16 true).setIfInBounds 17 true) ((a0.put (some 16) (.pointer (some ⟨b1, 0, none⟩))).put (some 17) (.pointer (some ⟨b2, 0, none⟩))) W) := (show ∀ b1 b2, ∀ W : World, st3 w4 W (some b1) (some b2) none → G 6 ((l0.setIfInBounds 16 true).setIfInBounds 17 true) ((a0.put (some 16) (.pointer (some ⟨b1, 0, none⟩))).put (some 17) (.pointer (some ⟨b2, 0, none⟩))) W from by
          intro b1 b2 W H
          rw [HA0.out, HL0.out, HG.out]
          try simp only [Act.put, List.setIfInBounds_toArray, List.set_cons_zero, List.set_cons_succ]
          refine take_one (i := 12) rfl (by kernel_rfl) rfl (fun K hK => ?_)
          go_simp
          refine Calls.mono (RCW.out _ H.1) ?_
          rintro e W2 ⟨rfl, hb⟩
          have H2 := H.call hb
          refine hK.out _ _ H2.1 (fun hHeld => ?_)
          try simp only [Act.put, List.setIfInBounds_toArray, List.set_cons_zero, List.set_cons_succ]
          refine take_op (i := 13) (v := ?vc12_16_1713) rfl (by kernel_rfl) (by kernel_rfl) (by kernel_rfl) (fun _ _ _ h => h) rfl hHeld ?yc12_16_1713 ?rc12_16_1713
          case yc12_16_1713 => (intro wz hz; go_simp; first | done | with_reducible rfl)
          try simp only [Act.put, List.setIfInBounds_toArray, List.set_cons_zero, List.set_cons_succ]
          refine take_op (i := 14) (v := ?vc12_16_1714) rfl (by kernel_rfl) (by kernel_rfl) (by kernel_rfl) (fun _ _ _ h => h) rfl hHeld ?yc12_16_1714 ?rc12_16_1714
          case yc12_16_1714 => (intro wz hz; go_simp; first | done | with_reducible rfl)
          try simp only [Act.put, List.setIfInBounds_toArray, List.set_cons_zero, List.set_cons_succ]
          refine take_op (i := 15) (v := ?vc12_16_1715) rfl (by kernel_rfl) (by kernel_rfl) (by kernel_rfl) (fun _ _ _ h => h) rfl hHeld ?yc12_16_1715 ?rc12_16_1715
          case yc12_16_1715 => (intro wz hz; go_simp; first | done | with_reducible rfl)
          try simp only [Act.put, List.setIfInBounds_toArray, List.set_cons_zero, List.set_cons_succ]
          have T := ST12_16_17.out b1 b2 W2 H2
          rw [HA0.out, HL0.out, HG.out] at T
          try simp only [Act.put, List.setIfInBounds_toArray, List.set_cons_zero, List.set_cons_succ] at T
          exact lcong (by kernel_rfl) T)
        have ST12_16 : Hid (∀ b1, ∀ W : World, st3 w4 W (some b1) none none → G 3 ((((((l0.setIfInBounds 12 true).setIfInBounds 13 true).setIfInBounds 14 true).setIfInBounds 15 true)).setIfInBounds 16 true) (((((a0.put (some 71) (.tuple #[.agg (rowV 32 (arrV XA)), .agg (rowV 32 (arrV XB))])).put (some 58) (.tuple #[.agg (rowV 32 (arrV XA)), .agg (rowV 32 (arrV XB))])).put (some 72) (.agg (rowV 32 (arrV XA)))).put (some 73) (.agg (rowV 32 (arrV XB)))).put (some 16) (.pointer (some ⟨b1, 0, none⟩))) W) := (show ∀ b1, ∀ W : World, st3 w4 W (some b1) none none → G 3 ((((((l0.setIfInBounds 12 true).setIfInBounds 13 true).setIfInBounds 14 true).setIfInBounds 15 true)).setIfInBounds 16 true) (((((a0.put (some 71) (.tuple #[.agg (rowV 32 (arrV XA)), .agg (rowV 32 (arrV XB))])).put (some 58) (.tuple #[.agg (rowV 32 (arrV XA)), .agg (rowV 32 (arrV XB))])).put (some 72) (.agg (rowV 32 (arrV XA)))).put (some 73) (.agg (rowV 32 (arrV XB)))).put (some 16) (.pointer (some ⟨b1, 0, none⟩))) W from by
          intro b1 W H
          rw [HA0.out, HL0.out, HG.out]
          try simp only [Act.put, List.setIfInBounds_toArray, List.set_cons_zero, List.set_cons_succ]
          refine take_one (i := 17) rfl (by kernel_rfl) rfl (fun K hK => ?_)
          obtain ⟨W2, b2, hr, H2⟩ := H.al2
          refine wp_of_run (exec_allocR rfl hr) ?_
          refine hK.out _ _ H2.1 (fun hHeld => ?_)
          try simp only [Act.put, List.setIfInBounds_toArray, List.set_cons_zero, List.set_cons_succ]
          have T := ST12_16_17.out b1 b2 W2 H2
          rw [HA0.out, HL0.out, HG.out] at T
          try simp only [Act.put, List.setIfInBounds_toArray, List.set_cons_zero, List.set_cons_succ] at T
          exact lcong (by kernel_rfl) T)
        have ST12_17 : Hid (∀ b2, ∀ W : World, st3 w4 W none (some b2) none → G 3 ((((((l0.setIfInBounds 12 true).setIfInBounds 13 true).setIfInBounds 14 true).setIfInBounds 15 true)).setIfInBounds 17 true) (((((a0.put (some 71) (.tuple #[.agg (rowV 32 (arrV XA)), .agg (rowV 32 (arrV XB))])).put (some 58) (.tuple #[.agg (rowV 32 (arrV XA)), .agg (rowV 32 (arrV XB))])).put (some 72) (.agg (rowV 32 (arrV XA)))).put (some 73) (.agg (rowV 32 (arrV XB)))).put (some 17) (.pointer (some ⟨b2, 0, none⟩))) W) := (show ∀ b2, ∀ W : World, st3 w4 W none (some b2) none → G 3 ((((((l0.setIfInBounds 12 true).setIfInBounds 13 true).setIfInBounds 14 true).setIfInBounds 15 true)).setIfInBounds 17 true) (((((a0.put (some 71) (.tuple #[.agg (rowV 32 (arrV XA)), .agg (rowV 32 (arrV XB))])).put (some 58) (.tuple #[.agg (rowV 32 (arrV XA)), .agg (rowV 32 (arrV XB))])).put (some 72) (.agg (rowV 32 (arrV XA)))).put (some 73) (.agg (rowV 32 (arrV XB)))).put (some 17) (.pointer (some ⟨b2, 0, none⟩))) W from by
          intro b2 W H
          rw [HA0.out, HL0.out, HG.out]
          try simp only [Act.put, List.setIfInBounds_toArray, List.set_cons_zero, List.set_cons_succ]
          refine take_one (i := 16) rfl (by kernel_rfl) rfl (fun K hK => ?_)
          obtain ⟨W2, b1, hr, H2⟩ := H.al1
          refine wp_of_run (exec_allocR rfl hr) ?_
          refine hK.out _ _ H2.1 (fun hHeld => ?_)
          try simp only [Act.put, List.setIfInBounds_toArray, List.set_cons_zero, List.set_cons_succ]
          have T := ST12_16_17.out b1 b2 W2 H2
          rw [HA0.out, HL0.out, HG.out] at T
          try simp only [Act.put, List.setIfInBounds_toArray, List.set_cons_zero, List.set_cons_succ] at T
          exact lcong (by kernel_rfl) T)
        have ST16 : Hid (∀ b1, ∀ W : World, st3 w4 W (some b1) none none → G 7 (l0.setIfInBounds 16 true) (a0.put (some 16) (.pointer (some ⟨b1, 0, none⟩))) W) := (show ∀ b1, ∀ W : World, st3 w4 W (some b1) none none → G 7 (l0.setIfInBounds 16 true) (a0.put (some 16) (.pointer (some ⟨b1, 0, none⟩))) W from by
          intro b1 W H
          rw [HA0.out, HL0.out, HG.out]
          try simp only [Act.put, List.setIfInBounds_toArray, List.set_cons_zero, List.set_cons_succ]
          refine take_pair (i := 12) (j := 17) rfl rfl (by kernel_rfl) rfl rfl (fun K hK => ?_) (fun K hK => ?_)
          · go_simp
            refine Calls.mono (RCW.out _ H.1) ?_
            rintro e W2 ⟨rfl, hb⟩
            have H2 := H.call hb
            refine hK.out _ _ H2.1 (fun hHeld => ?_)
            try simp only [Act.put, List.setIfInBounds_toArray, List.set_cons_zero, List.set_cons_succ]
            refine take_op (i := 13) (v := ?vc12_1613) rfl (by kernel_rfl) (by kernel_rfl) (by kernel_rfl) (fun _ _ _ h => h) rfl hHeld ?yc12_1613 ?rc12_1613
            case yc12_1613 => (intro wz hz; go_simp; first | done | with_reducible rfl)
            try simp only [Act.put, List.setIfInBounds_toArray, List.set_cons_zero, List.set_cons_succ]
            refine take_op (i := 14) (v := ?vc12_1614) rfl (by kernel_rfl) (by kernel_rfl) (by kernel_rfl) (fun _ _ _ h => h) rfl hHeld ?yc12_1614 ?rc12_1614
            case yc12_1614 => (intro wz hz; go_simp; first | done | with_reducible rfl)
            try simp only [Act.put, List.setIfInBounds_toArray, List.set_cons_zero, List.set_cons_succ]
            refine take_op (i := 15) (v := ?vc12_1615) rfl (by kernel_rfl) (by kernel_rfl) (by kernel_rfl) (fun _ _ _ h => h) rfl hHeld ?yc12_1615 ?rc12_1615
            case yc12_1615 => (intro wz hz; go_simp; first | done | with_reducible rfl)
            try simp only [Act.put, List.setIfInBounds_toArray, List.set_cons_zero, List.set_cons_succ]
            have T := ST12_16.out b1 W2 H2
            rw [HA0.out, HL0.out, HG.out] at T
            try simp only [Act.put, List.setIfInBounds_toArray, List.set_cons_zero, List.set_cons_succ] at T
            exact lcong (by kernel_rfl) T
          · obtain ⟨W2, b2, hr, H2⟩ := H.al2
            refine wp_of_run (exec_allocR rfl hr) ?_
            refine hK.out _ _ H2.1 (fun hHeld => ?_)
            try simp only [Act.put, List.setIfInBounds_toArray, List.set_cons_zero, List.set_cons_succ]
            have T := ST16_17.out b1 b2 W2 H2
            rw [HA0.out, HL0.out, HG.out] at T
            try simp only [Act.put, List.setIfInBounds_toArray, List.set_cons_zero, List.set_cons_succ] at T
            exact lcong (by kernel_rfl) T)
        have ST17 : Hid (∀ b2, ∀ W : World, st3 w4 W none (some b2) none → G 7 (l0.setIfInBounds 17 true) (a0.put (some 17) (.pointer (some ⟨b2, 0, none⟩))) W) := (show ∀ b2, ∀ W : World, st3 w4 W none (some b2) none → G 7 (l0.setIfInBounds 17 true) (a0.put (some 17) (.pointer (some ⟨b2, 0, none⟩))) W from by
          intro b2 W H
          rw [HA0.out, HL0.out, HG.out]
          try simp only [Act.put, List.setIfInBounds_toArray, List.set_cons_zero, List.set_cons_succ]
          refine take_pair (i := 12) (j := 16) rfl rfl (by kernel_rfl) rfl rfl (fun K hK => ?_) (fun K hK => ?_)
          · go_simp
            refine Calls.mono (RCW.out _ H.1) ?_
            rintro e W2 ⟨rfl, hb⟩
            have H2 := H.call hb
            refine hK.out _ _ H2.1 (fun hHeld => ?_)
            try simp only [Act.put, List.setIfInBounds_toArray, List.set_cons_zero, List.set_cons_succ]
            refine take_op (i := 13) (v := ?vc12_1713) rfl (by kernel_rfl) (by kernel_rfl) (by kernel_rfl) (fun _ _ _ h => h) rfl hHeld ?yc12_1713 ?rc12_1713
            case yc12_1713 => (intro wz hz; go_simp; first | done | with_reducible rfl)
            try simp only [Act.put, List.setIfInBounds_toArray, List.set_cons_zero, List.set_cons_succ]
            refine take_op (i := 14) (v := ?vc12_1714) rfl (by kernel_rfl) (by kernel_rfl) (by kernel_rfl) (fun _ _ _ h => h) rfl hHeld ?yc12_1714 ?rc12_1714
            case yc12_1714 => (intro wz hz; go_simp; first | done | with_reducible rfl)
            try simp only [Act.put, List.setIfInBounds_toArray, List.set_cons_zero, List.set_cons_succ]
            refine take_op (i := 15) (v := ?vc12_1715) rfl (by kernel_rfl) (by kernel_rfl) (by kernel_rfl) (fun _ _ _ h => h) rfl hHeld ?yc12_1715 ?rc12_1715
            case yc12_1715 => (intro wz hz; go_simp; first | done | with_reducible rfl)
            try simp only [Act.put, List.setIfInBounds_toArray, List.set_cons_zero, List.set_cons_succ]
            have T := ST12_17.out b2 W2 H2
            rw [HA0.out, HL0.out, HG.out] at T
            try simp only [Act.put, List.setIfInBounds_toArray, List.set_cons_zero, List.set_cons_succ] at T
            exact lcong (by kernel_rfl) T
          · obtain ⟨W2, b1, hr, H2⟩ := H.al1
            refine wp_of_run (exec_allocR rfl hr) ?_
            refine hK.out _ _ H2.1 (fun hHeld => ?_)
            try simp only [Act.put, List.setIfInBounds_toArray, List.set_cons_zero, List.set_cons_succ]
            have T := ST16_17.out b1 b2 W2 H2
            rw [HA0.out, HL0.out, HG.out] at T
            try simp only [Act.put, List.setIfInBounds_toArray, List.set_cons_zero, List.set_cons_succ] at T
            exact lcong (by kernel_rfl) T)
        have ST12 : Hid (∀ W : World, st3 w4 W none none none → G 4 (((((l0.setIfInBounds 12 true).setIfInBounds 13 true).setIfInBounds 14 true).setIfInBounds 15 true)) ((((a0.put (some 71) (.tuple #[.agg (rowV 32 (arrV XA)), .agg (rowV 32 (arrV XB))])).put (some 58) (.tuple #[.agg (rowV 32 (arrV XA)), .agg (rowV 32 (arrV XB))])).put (some 72) (.agg (rowV 32 (arrV XA)))).put (some 73) (.agg (rowV 32 (arrV XB)))) W) := (show ∀ W : World, st3 w4 W none none none → G 4 (((((l0.setIfInBounds 12 true).setIfInBounds 13 true).setIfInBounds 14 true).setIfInBounds 15 true)) ((((a0.put (some 71) (.tuple #[.agg (rowV 32 (arrV XA)), .agg (rowV 32 (arrV XB))])).put (some 58) (.tuple #[.agg (rowV 32 (arrV XA)), .agg (rowV 32 (arrV XB))])).put (some 72) (.agg (rowV 32 (arrV XA)))).put (some 73) (.agg (rowV 32 (arrV XB)))) W from by
          intro  W H
          rw [HA0.out, HL0.out, HG.out]
          try simp only [Act.put, List.setIfInBounds_toArray, List.set_cons_zero, List.set_cons_succ]
          refine take_pair (i := 16) (j := 17) rfl rfl (by kernel_rfl) rfl rfl (fun K hK => ?_) (fun K hK => ?_)
          · obtain ⟨W2, b1, hr, H2⟩ := H.al1
            refine wp_of_run (exec_allocR rfl hr) ?_
            refine hK.out _ _ H2.1 (fun hHeld => ?_)
            try simp only [Act.put, List.setIfInBounds_toArray, List.set_cons_zero, List.set_cons_succ]
            have T := ST12_16.out b1 W2 H2
            rw [HA0.out, HL0.out, HG.out] at T
            try simp only [Act.put, List.setIfInBounds_toArray, List.set_cons_zero, List.set_cons_succ] at T
            exact lcong (by kernel_rfl) T
          · obtain ⟨W2, b2, hr, H2⟩ := H.al2
            refine wp_of_run (exec_allocR rfl hr) ?_
            refine hK.out _ _ H2.1 (fun hHeld => ?_)
            try simp only [Act.put, List.setIfInBounds_toArray, List.set_cons_zero, List.set_cons_succ]
            have T := ST12_17.out b2 W2 H2
            rw [HA0.out, HL0.out, HG.out] at T
            try simp only [Act.put, List.setIfInBounds_toArray, List.set_cons_zero, List.set_cons_succ] at T
            exact lcong (by kernel_rfl) T)
        have ST : Hid (∀ W : World, st3 w4 W none none none → G 8 l0 a0 W) := (show ∀ W : World, st3 w4 W none none none → G 8 l0 a0 W from by
          intro  W H
          rw [HA0.out, HL0.out, HG.out]
          try simp only [Act.put, List.setIfInBounds_toArray, List.set_cons_zero, List.set_cons_succ]
          refine take_threeG (i := 12) (j := 16) (k := 17) rfl rfl rfl (by kernel_rfl) rfl rfl rfl (fun K hK => ?_) (fun K hK => ?_) (fun K hK => ?_)
          · go_simp
            refine Calls.mono (RCW.out _ H.1) ?_
            rintro e W2 ⟨rfl, hb⟩
            have H2 := H.call hb
            refine hK.out _ _ H2.1 (fun hHeld => ?_)
            try simp only [Act.put, List.setIfInBounds_toArray, List.set_cons_zero, List.set_cons_succ]
            refine take_op (i := 13) (v := ?vc12_13) rfl (by kernel_rfl) (by kernel_rfl) (by kernel_rfl) (fun _ _ _ h => h) rfl hHeld ?yc12_13 ?rc12_13
            case yc12_13 => (intro wz hz; go_simp; first | done | with_reducible rfl)
            try simp only [Act.put, List.setIfInBounds_toArray, List.set_cons_zero, List.set_cons_succ]
            refine take_op (i := 14) (v := ?vc12_14) rfl (by kernel_rfl) (by kernel_rfl) (by kernel_rfl) (fun _ _ _ h => h) rfl hHeld ?yc12_14 ?rc12_14
            case yc12_14 => (intro wz hz; go_simp; first | done | with_reducible rfl)
            try simp only [Act.put, List.setIfInBounds_toArray, List.set_cons_zero, List.set_cons_succ]
            refine take_op (i := 15) (v := ?vc12_15) rfl (by kernel_rfl) (by kernel_rfl) (by kernel_rfl) (fun _ _ _ h => h) rfl hHeld ?yc12_15 ?rc12_15
            case yc12_15 => (intro wz hz; go_simp; first | done | with_reducible rfl)
            try simp only [Act.put, List.setIfInBounds_toArray, List.set_cons_zero, List.set_cons_succ]
            have T := ST12.out  W2 H2
            rw [HA0.out, HL0.out, HG.out] at T
            try simp only [Act.put, List.setIfInBounds_toArray, List.set_cons_zero, List.set_cons_succ] at T
            exact lcong (by kernel_rfl) T
          · obtain ⟨W2, b1, hr, H2⟩ := H.al1
            refine wp_of_run (exec_allocR rfl hr) ?_
            refine hK.out _ _ H2.1 (fun hHeld => ?_)
            try simp only [Act.put, List.setIfInBounds_toArray, List.set_cons_zero, List.set_cons_succ]
            have T := ST16.out b1 W2 H2
            rw [HA0.out, HL0.out, HG.out] at T
            try simp only [Act.put, List.setIfInBounds_toArray, List.set_cons_zero, List.set_cons_succ] at T
            exact lcong (by kernel_rfl) T
          · obtain ⟨W2, b2, hr, H2⟩ := H.al2
            refine wp_of_run (exec_allocR rfl hr) ?_
            refine hK.out _ _ H2.1 (fun hHeld => ?_)
            try simp only [Act.put, List.setIfInBounds_toArray, List.set_cons_zero, List.set_cons_succ]
            have T := ST17.out b2 W2 H2
            rw [HA0.out, HL0.out, HG.out] at T
            try simp only [Act.put, List.setIfInBounds_toArray, List.set_cons_zero, List.set_cons_succ] at T
            exact lcong (by kernel_rfl) T)
        exact ST.out W H
      case rest =>
        obtain ⟨ba, bb, rfl, rfl, ra, rb, b6, na, nb⟩ := hcut
        rename World => w6
        have O6 : Hid (tOwn w old y w6) := (show tOwn w old y w6 from OWN.out.below b6 OWN.out.2.2.2.2.2)
        have s4 := OWN.out.2.2.2.2.2
        have NN : Hid (w.heap.size + 4 ≤ ba ∧ w.heap.size + 4 ≤ bb) := (show w.heap.size + 4 ≤ ba ∧ w.heap.size + 4 ≤ bb from ⟨by omega, by omega⟩)
        have S6 : w6.drew.rowIs ba 29 32 (arrV XA) ∧ w6.drew.rowIs bb 29 32 (arrV XB) ∧ w6.drew.rowIs (w.heap.size + 3) 29 32 (arrV y) := ⟨ra, rb, O6.out.2.2.2.2.1⟩
        have OD : Hid (tOwn w old y w6.drew) := (show tOwn w old y w6.drew from O6.out.below ((Below.refl w6.heap.size w6).drew) O6.out.2.2.2.2.2)
        clear RC ra rb b6 na nb s4
        go_upto_region 11 with fail
        refine wp_region_noPanic ?_
        refine wp_region_held_drew (S := fun w' => w'.rowIs ba 29 32 (arrV XA) ∧ w'.rowIs bb 29 32 (arrV XB) ∧ w'.rowIs (w.heap.size + 3) 29 32 (arrV y)) (by kernel_rfl) S6 (fun hHeld => ?_)
        refine take_load (S := fun w' => w'.rowIs ba 29 32 (arrV XA) ∧ w'.rowIs bb 29 32 (arrV XB) ∧ w'.rowIs (w.heap.size + 3) 29 32 (arrV y)) (i := 0) rfl (by kernel_rfl) (by kernel_rfl) (by kernel_rfl) 29 _ rfl (w.heap.size + 3) 0 32 (arrV y) rfl _ Tryd.underlying29 rfl (by kernel_rfl) (fun _ _ _ h => h) rfl hHeld (fun wz hz j hj => by rw [Nat.zero_add]; exact hz.2.2.cell hj) ?_
        try simp only [Act.put, List.setIfInBounds_toArray, List.set_cons_zero, List.set_cons_succ]
        refine take_load (S := fun w' => w'.rowIs ba 29 32 (arrV XA) ∧ w'.rowIs bb 29 32 (arrV XB) ∧ w'.rowIs (w.heap.size + 3) 29 32 (arrV y)) (i := 1) rfl (by kernel_rfl) (by kernel_rfl) (by kernel_rfl) 29 _ rfl ba 0 32 (arrV XA) rfl _ Tryd.underlying29 rfl (by kernel_rfl) (fun _ _ _ h => h) rfl hHeld (fun wz hz j hj => by rw [Nat.zero_add]; exact hz.1.cell hj) ?_
        try simp only [Act.put, List.setIfInBounds_toArray, List.set_cons_zero, List.set_cons_succ]
        refine take_load (S := fun w' => w'.rowIs ba 29 32 (arrV XA) ∧ w'.rowIs bb 29 32 (arrV XB) ∧ w'.rowIs (w.heap.size + 3) 29 32 (arrV y)) (i := 3) rfl (by kernel_rfl) (by kernel_rfl) (by kernel_rfl) 29 _ rfl (w.heap.size + 3) 0 32 (arrV y) rfl _ Tryd.underlying29 rfl (by kernel_rfl) (fun _ _ _ h => h) rfl hHeld (fun wz hz j hj => by rw [Nat.zero_add]; exact hz.2.2.cell hj) ?_
        try simp only [Act.put, List.setIfInBounds_toArray, List.set_cons_zero, List.set_cons_succ]
        refine take_load (S := fun w' => w'.rowIs ba 29 32 (arrV XA) ∧ w'.rowIs bb 29 32 (arrV XB) ∧ w'.rowIs (w.heap.size + 3) 29 32 (arrV y)) (i := 4) rfl (by kernel_rfl) (by kernel_rfl) (by kernel_rfl) 29 _ rfl bb 0 32 (arrV XB) rfl _ Tryd.underlying29 rfl (by kernel_rfl) (fun _ _ _ h => h) rfl hHeld (fun wz hz j hj => by rw [Nat.zero_add]; exact hz.2.1.cell hj) ?_
        try simp only [Act.put, List.setIfInBounds_toArray, List.set_cons_zero, List.set_cons_succ]
        have XN0 := rnode_any y XA w6.drew HY.out.1 TSH.out.1
        unfold sumV at XN0
        refine take_one (i := 2) rfl (by kernel_rfl) rfl (fun K hK => ?_)
        go_simp
        refine Calls.mono XN0 ?_
        rintro e x0 ⟨rfl, c0⟩
        have T0 : tOwn w old y x0 := (OD.out).below c0 (OD.out).2.2.2.2.2
        have U0 : x0.rowIs ba 29 32 (arrV XA) ∧ x0.rowIs bb 29 32 (arrV XB) ∧ x0.rowIs (w.heap.size + 3) 29 32 (arrV y) := ⟨c0.row S6.1 (gRow_lt S6.1), c0.row S6.2.1 (gRow_lt S6.2.1), c0.row S6.2.2 (gRow_lt S6.2.2)⟩
        refine hK.out _ _ U0 (fun hHeld => ?_)
        clear hK K XN0 c0
        try simp only [Act.put, List.setIfInBounds_toArray, List.set_cons_zero, List.set_cons_succ]
        have XN1 := rnode_any y XB x0 HY.out.1 TSH.out.2
        unfold sumV at XN1
        refine take_one (i := 5) rfl (by kernel_rfl) rfl (fun K hK => ?_)
        go_simp
        refine Calls.mono XN1 ?_
        rintro e x1 ⟨rfl, c1⟩
        have T1 : tOwn w old y x1 := (T0).below c1 (T0).2.2.2.2.2
        have U1 : x1.rowIs ba 29 32 (arrV XA) ∧ x1.rowIs bb 29 32 (arrV XB) ∧ x1.rowIs (w.heap.size + 3) 29 32 (arrV y) := ⟨c1.row U0.1 (gRow_lt U0.1), c1.row U0.2.1 (gRow_lt U0.2.1), c1.row U0.2.2 (gRow_lt U0.2.2)⟩
        refine hK.out _ _ U1 (fun hHeld => ?_)
        clear hK K XN1 c1
        try simp only [Act.put, List.setIfInBounds_toArray, List.set_cons_zero, List.set_cons_succ]
        obtain ⟨V1, V2, e1, e2, rV1, rV2, bV, kV⟩ := T1.tell (nodeS [y, XA]) (nodeS [y, XB])
        have g1 := kV ba _ (by have := NN.out; omega) (by have := NN.out; omega) U1.1
        have g2 := kV bb _ (by have := NN.out; omega) (by have := NN.out; omega) U1.2.1
        have g3 := kV (w.heap.size + 3) _ (by omega) (by omega) U1.2.2
        refine take_one (i := 6) rfl (by kernel_rfl) rfl (fun K hK => ?_)
        unfold Oper.wp execOp
        simp only [Instr.storeAt, Instr.sureAddr, Sem.run_bind, Sem.run_pure, Result.andThen_ok]
        simp [Act.eval, e1, Oper.upon]
        refine hK.out _ _ ⟨g1.1, g2.1, g3.1⟩ (fun hHeld => ?_)
        clear hK K
        try simp only [Act.put, List.setIfInBounds_toArray, List.set_cons_zero, List.set_cons_succ]
        refine take_one (i := 7) rfl (by kernel_rfl) rfl (fun K hK => ?_)
        unfold Oper.wp execOp
        simp only [Instr.storeAt, Instr.sureAddr, Sem.run_bind, Sem.run_pure, Result.andThen_ok]
        simp [Act.eval, e2, Oper.upon]
        refine hK.out _ _ ⟨g1.2, g2.2, g3.2⟩ (fun hHeld => ?_)
        clear hK K
        try simp only [Act.put, List.setIfInBounds_toArray, List.set_cons_zero, List.set_cons_succ]
        refine wpAnyH_done (by kernel_rfl) ?_ _
        refine NoPanic.normal ?_
        have BV : Hid (Below w.heap.size w V2) := (show Below w.heap.size w V2 from bV)
        have Y1 : Hid (V2.rowIs (w.heap.size + 1) 29 32 (arrV (nodeS [y, XA]))) := (show V2.rowIs (w.heap.size + 1) 29 32 (arrV (nodeS [y, XA])) from rV1)
        have Y2 : Hid (V2.rowIs (w.heap.size + 2) 29 32 (arrV (nodeS [y, XB]))) := (show V2.rowIs (w.heap.size + 2) 29 32 (arrV (nodeS [y, XB])) from rV2)
        clear bV rV1 rV2 kV g1 g2 g3 hHeld e1 e2 U0 T0 S6 U1 T1
        go_wp2
        exact bodyPost_ret (results_two_cells rfl _ _ (w.heap.size + 1) (w.heap.size + 2) 29 (arrV (nodeS [y, XA])) (arrV (nodeS [y, XB])) 32 _ rfl rfl Tryd.underlying29 rfl hi32' Y1.out Y2.out) rfl ⟨by rw [EQ.out], BV.out⟩
end Go.Proofs.YthpnenblmkdmcaaDoor

/- The document's Extends. -/
namespace Go.Proofs.YthpnenblmkdmcaaDoor
set_option linter.unusedSimpArgs false
set_option linter.unusedVariables false
open Go.RowKit Go.Deep

theorem ext_boxes (old fresh : List Int) (w w1 : World) (hw1 : w1 = (w.alloc (.cells (rowV 32 (arrV old)) 29)).alloc (.cells (rowV 32 (arrV fresh)) 29)) :
    Below w.heap.size w w1 ∧ w1.heap.size = w.heap.size + 2 ∧ w1.rowIs w.heap.size 29 32 (arrV old) ∧ w1.rowIs (w.heap.size + 1) 29 32 (arrV fresh) := by
  subst hw1
  refine ⟨(((Below.refl _ _).alloc (Nat.le_refl _) _).alloc (by simp) _), by simp, ?_, ?_⟩
  · have r1 := rowIs_box w 29 32 (arrV old)
    exact (((Below.refl (w.alloc (.cells (rowV 32 (arrV old)) 29)).heap.size _).alloc (Nat.le_refl _) _)).row r1 (by simp)
  · have r1 := rowIs_box (w.alloc (.cells (rowV 32 (arrV old)) 29)) 29 32 (arrV fresh)
    rw [World.size_alloc] at r1
    exact r1
theorem two_boxes (w : World) : ((w.alloc (.cells (rowV 32 (fun _ => .int .u8 0)) 29)).alloc (.cells (rowV 32 (fun _ => .int .u8 0)) 29)).rowIs w.heap.size 29 32 (fun _ => .int .u8 0) ∧ ((w.alloc (.cells (rowV 32 (fun _ => .int .u8 0)) 29)).alloc (.cells (rowV 32 (fun _ => .int .u8 0)) 29)).rowIs (w.heap.size + 1) 29 32 (fun _ => .int .u8 0) := by
  refine ⟨(((Below.refl (w.alloc (.cells (rowV 32 (fun _ => .int .u8 0)) 29)).heap.size _).alloc (Nat.le_refl _) _)).row (rowIs_box w 29 32 (fun _ => .int .u8 0)) (by simp), ?_⟩
  have r1 := rowIs_box (w.alloc (.cells (rowV 32 (fun _ => .int .u8 0)) 29)) 29 32 (fun _ => .int .u8 0)
  rw [World.size_alloc] at r1
  exact r1
set_option maxHeartbeats 4000000 in
set_option maxRecDepth 100000 in
theorem rext_any (m n : Int) (hmb : -9223372036854775808 ≤ m ∧ m ≤ 9223372036854775807) (hnb : -9223372036854775808 ≤ n ∧ n ≤ 9223372036854775807) (old fresh : List Int) (path : List (List Int)) (pv : Value) (w : World) (ho : isSum old) (hf : isSum fresh) (hp : sumsAt w pv path) :
    Calls Tryd.prog 16 #[.int .i64 m, .int .i64 n, .agg (rowV 32 (arrV old)), .agg (rowV 32 (arrV fresh)), pv] w fun e w' => e = .returned (.bool (extR m n old fresh path)) ∧ Below w.heap.size w w' := by
  obtain ⟨w1, hw1⟩ : ∃ w1, w1 = (w.alloc (.cells (rowV 32 (arrV old)) 29)).alloc (.cells (rowV 32 (arrV fresh)) 29) := ⟨_, rfl⟩
  obtain ⟨b1, z1, r7, r8⟩ := ext_boxes old fresh w w1 hw1
  have hsl : ∃ a cap, pv = .slice a path.length cap ∧ (path.length : Int) ≤ 9223372036854775807 := by
    obtain ⟨_, a, cap, e, h3, h4, _⟩ := hp
    unfold maxLen at h4
    exact ⟨a, cap, e, by omega⟩
  obtain ⟨pa, pc, rfl, q1⟩ := hsl
  have B1 : Hid (Below w.heap.size w w1) := (show Below w.heap.size w w1 from b1)
  have p0 : (0 : Int) ≤ (path.length : Int) := by omega
  by_cases hno : extNo m n path.length = true
  · have E : Hid (extR m n old fresh path = false) := (show extR m n old fresh path = false from by unfold extR; rw [if_pos hno])
    clear b1 z1 r7 r8 ho hf hp
    by_cases c1 : m < 0
    · clear hno
      go_enter Tryd.func16, Tryd.ntmps16
      go_upto_region 1 with fail
      rw [← hw1]
      clear hw1
      go_wp2
      go_ret
      exact ⟨by rw [E.out]; rfl, B1.out⟩
    by_cases c2 : m > n
    · clear hno
      go_enter Tryd.func16, Tryd.ntmps16
      go_upto_region 1 with fail
      rw [← hw1]
      clear hw1
      go_wp2
      go_ret
      exact ⟨by rw [E.out]; rfl, B1.out⟩
    · have c3 : ¬ (path.length : Int) = gSteps m n := by
        intro e
        unfold extNo at hno
        simp [e, c1] at hno
        omega
      have X := rSteps_any m n hnb.2 w1
      generalize gSteps m n = s at X c3
      clear hno
      go_enter Tryd.func16, Tryd.ntmps16
      go_upto_region 1 with fail
      rw [← hw1]
      clear hw1
      go_wp2_with fail
      refine X.mono ?_
      rintro e w' ⟨rfl, hw⟩
      obtain rfl := hw.symm
      clear X hw
      go_wp2
      go_ret
      exact ⟨by rw [E.out]; rfl, B1.out⟩
  have hn' : extNo m n path.length = false := by simpa using hno
  have hall : ¬ m < 0 ∧ ¬ m > n ∧ (path.length : Int) = gSteps m n := by
    unfold extNo at hn'
    simp at hn'
    refine ⟨by omega, by omega, hn'.2⟩
  obtain ⟨c1, c2, c3⟩ := hall
  have XS := rSteps_any m n hnb.2 w1
  rw [← c3] at XS
  have hz32 := zero_s32
  have ROW : Hid (∀ wz, Below w1.heap.size w1 wz → Below w.heap.size w wz ∧ wz.rowIs w.heap.size 29 32 (arrV old) ∧ wz.rowIs (w.heap.size + 1) 29 32 (arrV fresh)) := (show _ from fun wz hz => ⟨b1.trans (hz.mono (by omega)), hz.row r7 (by omega), hz.row r8 (by omega)⟩)
  by_cases h0 : m = 0
  · subst h0
    have X := rof_any 2 0 (.slice none 0 0) (fun i => ([] : List (List Int)).getD i []) w1 (Or.inl (Or.inl ⟨rfl, rfl⟩)) (nodeS_light [] (by simp) (fun x hx => by simp at hx))
    have ES : rootS [] = sumL (preB 2 0 (fun i => ([] : List (List Int)).getD i [])) := rootS_none rfl
    have HZ : isSum (rootS []) := rootS_sum (fun x hx => by simp at hx)
    have E : Hid (extR 0 n old fresh path = if n = 0 then decide (rootS [] = old) && decide (rootS [] = fresh) else decide (rootS [] = old)) := (show extR 0 n old fresh path = if n = 0 then decide (rootS [] = old) && decide (rootS [] = fresh) else decide (rootS [] = old) from by unfold extR; rw [if_neg hno]; simp)
    rw [← ES] at X
    generalize rootS [] = Z at X HZ E
    have X' : Calls Tryd.prog 29 #[.int .i64 2, .slice none 0 0] w1 fun e w' => e = .returned (.agg (rowV 32 (arrV Z))) ∧ Below w1.heap.size w1 w' := X
    have EQ1 : ∀ wz : World, (Op.equalIn 10000 29 (.agg (rowV 32 (arrV old))) (.agg (rowV 32 (arrV Z)))).run Tryd.prog wz = .ok (decide (old = Z)) wz := fun wz => run_eq_sums wz 9998 ho HZ
    have EQ2 : ∀ wz : World, (Op.equalIn 10000 29 (.agg (rowV 32 (arrV fresh))) (.agg (rowV 32 (arrV Z)))).run Tryd.prog wz = .ok (decide (fresh = Z)) wz := fun wz => run_eq_sums wz 9998 hf HZ
    clear X ES b1 z1 r7 r8 hp hno hn' c3 hf HZ ho
    go_enter Tryd.func16, Tryd.ntmps16
    go_upto_region 1 with fail
    rw [← hw1]
    clear hw1
    go_wp2_with fail
    refine XS.mono ?_
    rintro e w' ⟨rfl, hw⟩
    obtain rfl := hw.symm
    clear XS hw
    go_wp2_with fail
    refine X'.mono ?_
    rintro e w2 ⟨rfl, b2⟩
    have B2 : Hid (Below w1.heap.size w1 w2) := (show Below w1.heap.size w1 w2 from b2)
    clear X' b2
    have r11 := rowIs_box w2 29 32 (fun _ => .int .u8 0)
    go_upto_region 5 with (refine wpList_store_row rfl 29 (.tmp 11) _ rfl rfl (w2.heap.size) 0 32 (arrV Z) rfl rfl hi32' (fun _ _ => rfl) _ _ _ r11 (by omega) ?_; intro w3 r3 hz3 hb3)
    have ba : Below w2.heap.size w2 (w2.alloc (.cells (rowV 32 (fun _ => .int .u8 0)) 29)) := (Below.refl _ _).alloc (Nat.le_refl _) _
    have b23 : Below w2.heap.size w2 w3 := ba.trans ((hb3.mono (by simp)).below (Nat.le_refl _))
    have r3' : w3.rowIs w2.heap.size 29 32 (arrV Z) := r3.congr fun i hi => by rw [if_pos (by omega), Nat.sub_zero]
    obtain ⟨b3, r7, r8⟩ := ROW.out w3 (B2.out.trans (b23.mono B2.out.size))
    have B3 : Hid (Below w.heap.size w w3) := (show Below w.heap.size w w3 from b3)
    have l7 : ∀ j, j < 32 → w3.cell? ⟨w.heap.size, 0 + j, none⟩ = some (arrV old j) := fun j hj => by rw [Nat.zero_add]; exact r7.cell hj
    have l8 : ∀ j, j < 32 → w3.cell? ⟨w.heap.size + 1, 0 + j, none⟩ = some (arrV fresh j) := fun j hj => by rw [Nat.zero_add]; exact r8.cell hj
    have l11 : ∀ j, j < 32 → w3.cell? ⟨w2.heap.size, 0 + j, none⟩ = some (arrV Z j) := fun j hj => by rw [Nat.zero_add]; exact r3'.cell hj
    clear ba b23 r3' r3 hz3 hb3 r11 b3 r7 r8 hz32
    by_cases e1 : old = Z
    · subst e1
      rw [decide_eq_true rfl] at EQ1
      by_cases hn0 : n > 0
      · have EV : Hid (extR 0 n old fresh path = true) := (show extR 0 n old fresh path = true from by rw [E.out, if_neg (by omega)]; simp)
        clear EQ2 E
        go_wp2_with (first | (refine wpList_load_w 29 (.tmp 7) rfl rfl (w.heap.size) 0 32 (arrV old) rfl _ Tryd.underlying29 rfl hi32' l7 ?_) | (refine wpList_load_w 29 (.tmp 11) rfl rfl (w2.heap.size) 0 32 (arrV old) rfl _ Tryd.underlying29 rfl hi32' l11 ?_) | (refine wpList_load_w 29 (.tmp 8) rfl rfl (w.heap.size + 1) 0 32 (arrV fresh) rfl _ Tryd.underlying29 rfl hi32' l8 ?_))
        go_ret
        exact ⟨by rw [EV.out]; rfl, B3.out⟩
      · obtain rfl : n = 0 := by omega
        by_cases e2 : fresh = old
        · subst e2
          rw [decide_eq_true rfl] at EQ2
          have EV : Hid (extR 0 0 fresh fresh path = true) := (show extR 0 0 fresh fresh path = true from by rw [E.out, if_pos rfl]; simp)
          clear E
          go_wp2_with (first | (refine wpList_load_w 29 (.tmp 7) rfl rfl (w.heap.size) 0 32 (arrV fresh) rfl _ Tryd.underlying29 rfl hi32' l7 ?_) | (refine wpList_load_w 29 (.tmp 11) rfl rfl (w2.heap.size) 0 32 (arrV fresh) rfl _ Tryd.underlying29 rfl hi32' l11 ?_) | (refine wpList_load_w 29 (.tmp 8) rfl rfl (w.heap.size + 1) 0 32 (arrV fresh) rfl _ Tryd.underlying29 rfl hi32' l8 ?_))
          go_ret
          exact ⟨by rw [EV.out]; rfl, B3.out⟩
        · rw [decide_eq_false e2] at EQ2
          have EV : Hid (extR 0 0 old fresh path = false) := (show extR 0 0 old fresh path = false from by rw [E.out, if_pos rfl]; simp [Ne.symm e2])
          clear E
          go_wp2_with (first | (refine wpList_load_w 29 (.tmp 7) rfl rfl (w.heap.size) 0 32 (arrV old) rfl _ Tryd.underlying29 rfl hi32' l7 ?_) | (refine wpList_load_w 29 (.tmp 11) rfl rfl (w2.heap.size) 0 32 (arrV old) rfl _ Tryd.underlying29 rfl hi32' l11 ?_) | (refine wpList_load_w 29 (.tmp 8) rfl rfl (w.heap.size + 1) 0 32 (arrV fresh) rfl _ Tryd.underlying29 rfl hi32' l8 ?_))
          go_ret
          exact ⟨by rw [EV.out]; rfl, B3.out⟩
    · rw [decide_eq_false e1] at EQ1
      have EV : Hid (extR 0 n old fresh path = false) := (show extR 0 n old fresh path = false from by rw [E.out]; have := Ne.symm e1; split <;> simp [this])
      clear EQ2 E
      go_wp2_with (first | (refine wpList_load_w 29 (.tmp 7) rfl rfl (w.heap.size) 0 32 (arrV old) rfl _ Tryd.underlying29 rfl hi32' l7 ?_) | (refine wpList_load_w 29 (.tmp 11) rfl rfl (w2.heap.size) 0 32 (arrV Z) rfl _ Tryd.underlying29 rfl hi32' l11 ?_) | (refine wpList_load_w 29 (.tmp 8) rfl rfl (w.heap.size + 1) 0 32 (arrV fresh) rfl _ Tryd.underlying29 rfl hi32' l8 ?_))
      go_ret
      exact ⟨by rw [EV.out]; rfl, B3.out⟩
  · have n0 : ¬ n = 0 := by omega
    obtain ⟨a, rfl⟩ : ∃ a : Nat, m = (a : Int) := ⟨m.toNat, by omega⟩
    obtain ⟨b, rfl⟩ : ∃ b : Nat, n = (b : Int) := ⟨n.toNat, by omega⟩
    have hlen : path.length = sN a b true := by
      have := sN_steps (n := b) (show 1 ≤ a by omega)
      rw [← c3] at this; omega
    have E : Hid (extR (a : Int) (b : Int) old fresh path = (decide ((tT a b true old path).1 = old) && decide ((tT a b true old path).2 = fresh))) := (show extR (a : Int) (b : Int) old fresh path = (decide ((tT a b true old path).1 = old) && decide ((tT a b true old path).2 = fresh)) from by
      unfold extR; rw [if_neg hno, if_neg n0, if_neg h0, tT_tell (by omega)])
    have hp1 := hp.below b1 (Nat.le_refl _)
    have X := rtells_any b a b true old path _ w1 (Nat.le_refl _) (by omega) (by omega) hnb.2 ho hp1 hlen
    have TS := tT_sum a b true old path ho hp.1 hlen
    generalize tT a b true old path = T at X E TS
    obtain ⟨TA, TB⟩ := T
    unfold sumV at X
    have EQ1 : ∀ wz : World, (Op.equalIn 10000 29 (.agg (rowV 32 (arrV TA))) (.agg (rowV 32 (arrV old)))).run Tryd.prog wz = .ok (decide (TA = old)) wz := fun wz => run_eq_sums wz 9998 TS.1 ho
    have EQ2 : ∀ wz : World, (Op.equalIn 10000 29 (.agg (rowV 32 (arrV TB))) (.agg (rowV 32 (arrV fresh)))).run Tryd.prog wz = .ok (decide (TB = fresh)) wz := fun wz => run_eq_sums wz 9998 TS.2 hf
    have l7a : ∀ j, j < 32 → w1.cell? ⟨w.heap.size, 0 + j, none⟩ = some (arrV old j) := fun j hj => by rw [Nat.zero_add]; exact r7.cell hj
    clear hp hp1 b1 z1 r7 r8 hno hn' c3 hf ho TS hlen
    go_enter Tryd.func16, Tryd.ntmps16
    go_upto_region 1 with fail
    rw [← hw1]
    clear hw1
    go_wp2_with fail
    refine XS.mono ?_
    rintro e w' ⟨rfl, hw⟩
    obtain rfl := hw.symm
    clear XS hw
    go_wp2_with (refine wpList_load_w 29 (.tmp 7) rfl rfl (w.heap.size) 0 32 (arrV old) rfl _ Tryd.underlying29 rfl hi32' l7a ?_)
    refine X.mono ?_
    rintro e w2 ⟨rfl, b2⟩
    have B2 : Hid (Below w1.heap.size w1 w2) := (show Below w1.heap.size w1 w2 from b2)
    clear X b2 l7a
    obtain ⟨r12, r13⟩ := two_boxes w2
    go_upto_region 7 with (first | (refine wpList_store_row rfl 29 (.tmp 12) _ rfl rfl (w2.heap.size) 0 32 (arrV TA) rfl rfl hi32' (fun _ _ => rfl) _ _ _ r12 (by omega) ?_; intro w3 r3 hz3 hb3; have r13b := hb3.row r13 (by simp) (by omega)) | (refine wpList_store_row rfl 29 (.tmp 13) _ rfl rfl (w2.heap.size + 1) 0 32 (arrV TB) rfl rfl hi32' (fun _ _ => rfl) _ _ _ r13b (by omega) ?_; intro w4 r4 hz4 hb4))
    have ba : Below w2.heap.size w2 ((w2.alloc (.cells (rowV 32 (fun _ => .int .u8 0)) 29)).alloc (.cells (rowV 32 (fun _ => .int .u8 0)) 29)) := ((Below.refl _ _).alloc (Nat.le_refl _) _).alloc (by simp) _
    have zz : ((w2.alloc (.cells (rowV 32 (fun _ => .int .u8 0)) 29)).alloc (.cells (rowV 32 (fun _ => .int .u8 0)) 29)).heap.size = w2.heap.size + 2 := by simp
    have r3' : w3.rowIs w2.heap.size 29 32 (arrV TA) := r3.congr fun i hi => by rw [if_pos (by omega), Nat.sub_zero]
    have r12' := hb4.row r3' (by omega) (by omega)
    have r13' : w4.rowIs (w2.heap.size + 1) 29 32 (arrV TB) := r4.congr fun i hi => by rw [if_pos (by omega), Nat.sub_zero]
    have b24 : Below w2.heap.size w2 w4 := ba.trans (((hb3.mono (by omega)).below (Nat.le_refl _)).trans ((hb4.mono (by omega)).below (by omega)))
    obtain ⟨b3, r7, r8⟩ := ROW.out w4 (B2.out.trans (b24.mono B2.out.size))
    have B3 : Hid (Below w.heap.size w w4) := (show Below w.heap.size w w4 from b3)
    have l7 : ∀ j, j < 32 → w4.cell? ⟨w.heap.size, 0 + j, none⟩ = some (arrV old j) := fun j hj => by rw [Nat.zero_add]; exact r7.cell hj
    have l8 : ∀ j, j < 32 → w4.cell? ⟨w.heap.size + 1, 0 + j, none⟩ = some (arrV fresh j) := fun j hj => by rw [Nat.zero_add]; exact r8.cell hj
    have l12 : ∀ j, j < 32 → w4.cell? ⟨w2.heap.size, 0 + j, none⟩ = some (arrV TA j) := fun j hj => by rw [Nat.zero_add]; exact r12'.cell hj
    have l13 : ∀ j, j < 32 → w4.cell? ⟨w2.heap.size + 1, 0 + j, none⟩ = some (arrV TB j) := fun j hj => by rw [Nat.zero_add]; exact r13'.cell hj
    clear ba zz r3' r12' r13' b24 r3 hz3 hb3 r4 hz4 hb4 r12 r13 r13b b3 r7 r8 hz32
    by_cases e1 : TA = old
    · subst e1
      rw [decide_eq_true rfl] at EQ1
      by_cases e2 : TB = fresh
      · subst e2
        rw [decide_eq_true rfl] at EQ2
        have EV : Hid (extR (a : Int) (b : Int) TA TB path = true) := (show extR (a : Int) (b : Int) TA TB path = true from by rw [E.out]; simp)
        clear E
        go_wp2_with (first | (refine wpList_load_w 29 (.tmp 12) rfl rfl (w2.heap.size) 0 32 (arrV TA) rfl _ Tryd.underlying29 rfl hi32' l12 ?_) | (refine wpList_load_w 29 (.tmp 7) rfl rfl (w.heap.size) 0 32 (arrV TA) rfl _ Tryd.underlying29 rfl hi32' l7 ?_) | (refine wpList_load_w 29 (.tmp 13) rfl rfl (w2.heap.size + 1) 0 32 (arrV TB) rfl _ Tryd.underlying29 rfl hi32' l13 ?_) | (refine wpList_load_w 29 (.tmp 8) rfl rfl (w.heap.size + 1) 0 32 (arrV TB) rfl _ Tryd.underlying29 rfl hi32' l8 ?_))
        go_ret
        exact ⟨by rw [EV.out]; rfl, B3.out⟩
      · rw [decide_eq_false e2] at EQ2
        have EV : Hid (extR (a : Int) (b : Int) TA fresh path = false) := (show extR (a : Int) (b : Int) TA fresh path = false from by rw [E.out]; simp [e2])
        clear E
        go_wp2_with (first | (refine wpList_load_w 29 (.tmp 12) rfl rfl (w2.heap.size) 0 32 (arrV TA) rfl _ Tryd.underlying29 rfl hi32' l12 ?_) | (refine wpList_load_w 29 (.tmp 7) rfl rfl (w.heap.size) 0 32 (arrV TA) rfl _ Tryd.underlying29 rfl hi32' l7 ?_) | (refine wpList_load_w 29 (.tmp 13) rfl rfl (w2.heap.size + 1) 0 32 (arrV TB) rfl _ Tryd.underlying29 rfl hi32' l13 ?_) | (refine wpList_load_w 29 (.tmp 8) rfl rfl (w.heap.size + 1) 0 32 (arrV fresh) rfl _ Tryd.underlying29 rfl hi32' l8 ?_))
        go_ret
        exact ⟨by rw [EV.out]; rfl, B3.out⟩
    · rw [decide_eq_false e1] at EQ1
      have EV : Hid (extR (a : Int) (b : Int) old fresh path = false) := (show extR (a : Int) (b : Int) old fresh path = false from by rw [E.out]; simp [e1])
      clear EQ2 E
      go_wp2_with (first | (refine wpList_load_w 29 (.tmp 12) rfl rfl (w2.heap.size) 0 32 (arrV TA) rfl _ Tryd.underlying29 rfl hi32' l12 ?_) | (refine wpList_load_w 29 (.tmp 7) rfl rfl (w.heap.size) 0 32 (arrV old) rfl _ Tryd.underlying29 rfl hi32' l7 ?_) | (refine wpList_load_w 29 (.tmp 13) rfl rfl (w2.heap.size + 1) 0 32 (arrV TB) rfl _ Tryd.underlying29 rfl hi32' l13 ?_) | (refine wpList_load_w 29 (.tmp 8) rfl rfl (w.heap.size + 1) 0 32 (arrV fresh) rfl _ Tryd.underlying29 rfl hi32' l8 ?_))
      go_ret
      exact ⟨by rw [EV.out]; rfl, B3.out⟩
end Go.Proofs.YthpnenblmkdmcaaDoor

/- How often a book has hashed. -/
namespace Go.Proofs.YthpnenblmkdmcaaDoor
set_option linter.unusedSimpArgs false
set_option linter.unusedVariables false
open Go.RowKit Go.Deep

theorem calls_nil (w : World) : Calls Tryd.prog 17 #[.pointer none] w fun e w' => e = .returned (.int .i64 0) ∧ w' = w := by
  go_enter Tryd.func17, Tryd.ntmps17
  go_wp2_with fail
  refine (empty_none w).mono ?_
  rintro e w' ⟨rfl, rfl⟩
  go_wp2
  go_ret
  exact ⟨rfl, rfl⟩
theorem calls_any (F : Nat → Prop) (k : Nat) (N : List Nt) (c : Int) (w : World) (h : bookAt w F k N c) : Calls Tryd.prog 17 #[.pointer (some ⟨k, 0, none⟩)] w fun e w' => e = .returned (.int .i64 c) ∧ w' = w := by
  obtain ⟨h1, h2, pv, h3, ⟨rfl, rfl, rfl⟩ | ⟨nb, rfl, _, lv, mv, r, _⟩⟩ := h
  · go_enter Tryd.func17, Tryd.ntmps17
    go_wp2_with fail
    refine (empty_zero k w h3).mono ?_
    rintro e w' ⟨rfl, rfl⟩
    go_wp2
    go_ret
    exact ⟨rfl, rfl⟩
  · have c0 : w.cell? ⟨k, 0, none⟩ = some (.pointer (some ⟨nb, 0, none⟩)) := h3.cell (i := 0) (by omega)
    have c2 : w.cell? ⟨nb, 2, none⟩ = some (.int .i64 c) := r.cell (i := 2) (by omega)
    go_enter Tryd.func17, Tryd.ntmps17
    go_wp2_with fail
    refine (empty_some k nb w h3).mono ?_
    rintro e w' ⟨rfl, hw⟩
    obtain rfl := hw.symm
    clear hw
    go_wp2
    go_ret
    exact ⟨rfl, rfl⟩
end Go.Proofs.YthpnenblmkdmcaaDoor

/- A copy of a row of sums; clear of a row of sums. -/
namespace Go.Proofs.YthpnenblmkdmcaaDoor
set_option linter.unusedSimpArgs false
set_option linter.unusedVariables false
open Go.RowKit Go.Deep

/-- append([]api.Sum{}, l...): the copy. -/
theorem copy_sums (w : World) (L : List (List Int)) (v : Value) (h : sumsAt w v L) (hL : L.length ≤ 1000) :
    ∃ a c w', (Builtin.append_ #[22, 22] 22 #[.slice (some ⟨w.heap.size, 0, none⟩) 0 0, v]).run Tryd.prog (w.alloc (.cells #[] 29)) = .ok (.slice a L.length c) w' ∧ newSums w' w.heap.size (.slice a L.length c) L ∧ Below w.heap.size w w' := by
  have ba : Below w.heap.size w (w.alloc (.cells #[] 29)) := (Below.refl _ _).alloc (Nat.le_refl _) _
  have h0 : newSums (w.alloc (.cells #[] 29)) w.heap.size (.slice (some ⟨w.heap.size, 0, none⟩) 0 0) [] := ⟨fun x hx => by simp at hx, ownsRow_empty _ _ _ _ _ (blk_alloc_new w _) (Nat.le_refl _)⟩
  obtain ⟨a, c, w', hr, hn, hg, _⟩ := sums_append (w.alloc (.cells #[] 29)) w.heap.size _ [] h0 v L (h.below ba (Nat.le_refl _)) (by simp; omega) (by simp)
  have e : ([] : List (List Int)).length + L.length = L.length := by simp
  rw [e] at hr hn
  refine ⟨a, c, w', hr, hn, ba.trans (below_grown hg (fun j hj => ?_) (by simp))⟩
  have : w.heap.size = j := by simpa [Value.ownBlock] using hj
  omega
theorem zero_cells32 (n : Nat) : (Builtin.zeroCells (Value.agg (rowV 32 (fun _ => .int .u8 0))).cells n).toList = List.replicate (n * 32) (.int .u8 0) := by
  have e : (Value.agg (rowV 32 (fun _ => .int .u8 0))).cells = rowV 32 (fun _ => .int .u8 0) := rfl
  rw [e]
  unfold Builtin.zeroCells
  rw [rowV_size]
  apply List.ext_getElem
  · simp
  · intro i h1 h2
    have h3 : i % 32 < 32 := Nat.mod_lt _ (by omega)
    have h4 := rowV_get 32 (fun _ => Value.int .u8 0) (i % 32) h3
    have h5 : (rowV 32 (fun _ => Value.int .u8 0))[i % 32]! = .int .u8 0 := by
      rw [getElem!_def, h4]
    simp [h5]
/-- clear, of sums of the call's own. -/
theorem clear_sums (w : World) (B : Nat) (v : Value) (L : List (List Int)) (h : newSums w B v L) :
    ∃ w', (Builtin.clear_ #[22] 0 #[v]).run Tryd.prog w = .ok (.tuple #[]) w' ∧ Below B w w' ∧ w'.heap.size = w.heap.size := by
  obtain ⟨_, _, h | ⟨g, cap, cur, rfl, hB, hg, hc, hm, hs, ht⟩⟩ := h
  · obtain ⟨rfl, _⟩ := h
    exact ⟨w, by simp [Builtin.clear_, run_underlying Tryd.underlying22], Below.refl _ _, rfl⟩
  · by_cases hn : 0 < L.length
    · have hrow : w.rowIs g 29 (cap * 32) (fun j => cur.getD j undef) := ⟨cur, hg, by omega, fun j hj => by rw [Array.getElem?_eq_getElem (by omega)]; simp [Array.getD, hs, hj]⟩
      have hst := run_storeCells_cells (P := Tryd.prog) g 0 (List.replicate (L.length * 32) (.int .u8 0)) 0 w (fun j hj => by
        have hj' : j < L.length * 32 := by simpa using hj
        show (w.cell? ⟨g, 0 + 0 + j, none⟩).isSome = true
        rw [Nat.zero_add, hrow.cell (by have := Nat.mul_le_mul_right 32 hc; omega)]; rfl) (fun j _ => hrow.frozen _) (by intro v hv'; rw [List.eq_of_mem_replicate hv']; rfl)
      refine ⟨w.setCells g 0 (List.replicate (L.length * 32) (.int .u8 0)), ?_, below_setCells g hB _ _ (Below.refl _ _), size_setCells _ _ _ _⟩
      obtain ⟨m, hm'⟩ : ∃ m, L.length = m + 1 := ⟨L.length - 1, by omega⟩
      rw [hm'] at hst ⊢
      have zc := zero_cells32 (m + 1)
      have zv := zero_s32
      generalize Value.agg (rowV 32 (fun _ => .int .u8 0)) = z at zc zv
      rw [Nat.add_zero] at hst
      generalize List.replicate ((m + 1) * 32) (Value.int .u8 0) = R at zc hst ⊢
      simp [Builtin.clear_, run_underlying Tryd.underlying22, zv, zc, hst]
    · have e : L.length = 0 := by omega
      rw [e]
      exact ⟨w, by simp [Builtin.clear_, run_underlying Tryd.underlying22], Below.refl _ _, rfl⟩
end Go.Proofs.YthpnenblmkdmcaaDoor

/- Two rows of sums: the document's Same. -/
namespace Go.Proofs.YthpnenblmkdmcaaDoor
set_option linter.unusedSimpArgs false
set_option linter.unusedVariables false
open Go.RowKit Go.Deep

set_option maxHeartbeats 2000000 in
set_option maxRecDepth 100000 in
theorem rsame_any (A B : List (List Int)) (v u : Value) (w : World) (hA : sumsAt w v A) (hB : sumsAt w u B) (hm : A.length ≤ 100000) :
    Calls Tryd.prog 11 #[v, u] w fun e w' => e = .returned (.bool (decide (A = B))) ∧ Below w.heap.size w w' := by
  obtain ⟨sA, a, ac, rfl, ha, ham, cA⟩ := hA
  obtain ⟨sB, b, bc, rfl, hb, hbm, cB⟩ := hB
  have q0 : (A.length : Int) ≤ 100000 := by omega
  by_cases hl : A.length = B.length
  · have CA : Hid _ := cA
    have CB : Hid _ := cB
    have SA : Hid _ := sA
    have SB : Hid _ := sB
    obtain ⟨n, hn⟩ : ∃ n, n = A.length := ⟨_, rfl⟩
    have HN : Hid (n = A.length ∧ A.length = B.length) := (show n = A.length ∧ A.length = B.length from ⟨hn, hl⟩)
    rw [← hl, ← hn]
    rw [← hn] at q0
    clear cA cB sA sB ham hbm ha hb hl hn
    go_enter Tryd.func11, Tryd.ntmps11
    go_wp2
    go_loopw [5] (fun i wr => ∃ k : Nat, k ≤ n ∧ i = .int .i64 k ∧ (∀ j, j < k → A[j]? = B[j]?) ∧ Below w.heap.size w wr) (fun i _ => n - (intOf i).toNat)
    case atStart => exact ⟨0, by omega, rfl, fun j hj => by omega, Below.refl _ _⟩
    case round =>
      obtain ⟨k, hk, rfl, hall, hbw⟩ := hrel
      have HL : Hid _ := hall
      have HW : Hid _ := hbw
      clear hall hbw
      have p0 : (0 : Int) ≤ (k : Int) := by omega
      by_cases hlt : k < n
      · have p1 : (k : Int) < (n : Int) := by omega
        have hkA : k < A.length := by have := HN.out; omega
        have hkB : k < B.length := by have := HN.out; omega
        obtain ⟨g, o, rfl, hg, hc⟩ := CA.out (by omega)
        obtain ⟨g', o', rfl, hg', hc'⟩ := CB.out (by omega)
        obtain ⟨x, hx⟩ : ∃ x, x = A[k] := ⟨_, rfl⟩
        obtain ⟨y, hy⟩ : ∃ y, y = B[k] := ⟨_, rfl⟩
        have hxs : isSum x := by rw [hx]; exact SA.out _ (List.getElem_mem _)
        have hys : isSum y := by rw [hy]; exact SB.out _ (List.getElem_mem _)
        have lx : ∀ wz, Below w.heap.size w wz → ∀ i, i < 32 → wz.cell? ⟨g, o + k * 32 + i, none⟩ = some (arrV x i) := fun wz hz i hi => by rw [hx]; exact (hz.cell (p := ⟨g, o + k * 32 + i, none⟩) hg).trans (hc k hkA i hi)
        have ly : ∀ wz, Below w.heap.size w wz → ∀ i, i < 32 → wz.cell? ⟨g', o' + k * 32 + i, none⟩ = some (arrV y i) := fun wz hz i hi => by rw [hy]; exact (hz.cell (p := ⟨g', o' + k * 32 + i, none⟩) hg').trans (hc' k hkB i hi)
        have LX : Hid _ := lx
        have LY : Hid _ := ly
        obtain ⟨bq, hbq⟩ : ∃ bq, bq = !decide (x = y) := ⟨_, rfl⟩
        have E : ∀ wx, (binOp .neq 29 (.agg (rowV 32 (arrV x))) (.agg (rowV 32 (arrV y)))).run Tryd.prog wx = .ok (.bool bq) wx := fun wx => by
          have := run_neq_arr (P := Tryd.prog) wx 29 5 .u8 32 (fun i => x.getD i 0) (fun i => y.getD i 0) Tryd.underlying29 Tryd.underlying5 (by kernel_rfl) (by kernel_rfl)
          rw [arrEq_list hxs hys] at this
          rw [hbq]; exact this
        have HX : Hid (A[k]? = some x ∧ B[k]? = some y) := (show A[k]? = some x ∧ B[k]? = some y from ⟨by rw [hx]; exact List.getElem?_eq_getElem hkA, by rw [hy]; exact List.getElem?_eq_getElem hkB⟩)
        have HBQ : Hid _ := hbq
        clear hc hc' lx ly hx hy hbq CA CB
        go_upto_region 6 with fail
        go_cut [5, 25] from 11 to 25 (fun i c wx => i = .int .i64 (k : Int) ∧ c = .bool bq ∧ Below w.heap.size w wx)
        case first =>
          refine wp_region_noPanic ?_
          refine wp_region_held_drew (S := fun w' => Below w.heap.size w w') (by kernel_rfl) (HW.out.drew) (fun hHeld => ?_)
          refine take_op (i := 0) (v := ?va0) rfl (by kernel_rfl) (by kernel_rfl) (by kernel_rfl) (fun _ _ _ h => h) rfl hHeld ?ya0 ?ra0
          case ya0 => (intro wz hz; go_simp; first | done | with_reducible rfl)
          try simp only [Act.put, List.setIfInBounds_toArray, List.set_cons_zero, List.set_cons_succ]
          refine take_op (i := 1) (v := ?va1) rfl (by kernel_rfl) (by kernel_rfl) (by kernel_rfl) (fun _ _ _ h => h) rfl hHeld ?ya1 ?ra1
          case ya1 => (intro wz hz; go_simp; first | done | with_reducible rfl)
          try simp only [Act.put, List.setIfInBounds_toArray, List.set_cons_zero, List.set_cons_succ]
          refine take_op (i := 2) (v := ?va2) rfl (by kernel_rfl) (by kernel_rfl) (by kernel_rfl) (fun _ _ _ h => h) rfl hHeld ?ya2 ?ra2
          case ya2 => (intro wz hz; go_simp; first | done | with_reducible rfl)
          try simp only [Act.put, List.setIfInBounds_toArray, List.set_cons_zero, List.set_cons_succ]
          refine take_load (i := 3) rfl (by kernel_rfl) (by kernel_rfl) (by kernel_rfl) 29 _ rfl g (o + k * 32) 32 (arrV x) rfl _ Tryd.underlying29 rfl (by kernel_rfl) (fun _ _ _ h => h) rfl hHeld (fun wz hz => LX.out wz hz) ?_
          try simp only [Act.put, List.setIfInBounds_toArray, List.set_cons_zero, List.set_cons_succ]
          refine take_op (i := 4) (v := ?va4) rfl (by kernel_rfl) (by kernel_rfl) (by kernel_rfl) (fun _ _ _ h => h) rfl hHeld ?ya4 ?ra4
          case ya4 => (intro wz hz; go_simp; first | done | with_reducible rfl)
          try simp only [Act.put, List.setIfInBounds_toArray, List.set_cons_zero, List.set_cons_succ]
          refine take_op (i := 5) (v := ?va5) rfl (by kernel_rfl) (by kernel_rfl) (by kernel_rfl) (fun _ _ _ h => h) rfl hHeld ?ya5 ?ra5
          case ya5 => (intro wz hz; go_simp; first | done | with_reducible rfl)
          try simp only [Act.put, List.setIfInBounds_toArray, List.set_cons_zero, List.set_cons_succ]
          refine take_op (i := 6) (v := ?va6) rfl (by kernel_rfl) (by kernel_rfl) (by kernel_rfl) (fun _ _ _ h => h) rfl hHeld ?ya6 ?ra6
          case ya6 => (intro wz hz; go_simp; first | done | with_reducible rfl)
          try simp only [Act.put, List.setIfInBounds_toArray, List.set_cons_zero, List.set_cons_succ]
          refine take_load (i := 7) rfl (by kernel_rfl) (by kernel_rfl) (by kernel_rfl) 29 _ rfl g' (o' + k * 32) 32 (arrV y) rfl _ Tryd.underlying29 rfl (by kernel_rfl) (fun _ _ _ h => h) rfl hHeld (fun wz hz => LY.out wz hz) ?_
          try simp only [Act.put, List.setIfInBounds_toArray, List.set_cons_zero, List.set_cons_succ]
          refine take_op (i := 8) (v := ?va8) rfl (by kernel_rfl) (by kernel_rfl) (by kernel_rfl) (fun _ _ _ h => h) rfl hHeld ?ya8 ?ra8
          case ya8 => (intro wz hz; go_simp; first | done | with_reducible rfl)
          try simp only [Act.put, List.setIfInBounds_toArray, List.set_cons_zero, List.set_cons_succ]
          refine wpAnyH_done (by kernel_rfl) ?_ _
          refine NoPanic.normal ?_
          have HB2 : Hid _ := hHeld
          clear hHeld
          go_wp2_with fail
          go_meet
          case rel => exact ⟨rfl, rfl, HB2.out⟩
        case rest =>
          obtain ⟨rfl, rfl, hb2⟩ := hcut
          have HB2 : Hid _ := hb2
          clear hb2 E LX LY
          cases bq with
          | false =>
            have hxy : x = y := by
              have := HBQ.out
              simpa using this
            have HE : Hid (A[k]? = B[k]?) := (show A[k]? = B[k]? from by rw [HX.out.1, HX.out.2, hxy])
            clear hxy
            go_wp2
            go_light
            refine ⟨⟨k + 1, by omega, by go_num, fun j hj => ?_, HB2.out⟩, by simp [intOf]; omega⟩
            by_cases e : j < k
            · exact HL.out j e
            · obtain rfl : j = k := by omega
              exact HE.out
          | true =>
            have hne : Hid (decide (A = B) = false) := (show decide (A = B) = false from decide_eq_false fun e => by
              have h1 := HX.out
              rw [e] at h1
              have h2 : x = y := Option.some.inj (h1.1.symm.trans h1.2)
              have h3 := HBQ.out
              rw [h2] at h3
              simp at h3)
            go_wp2
            go_ret
            exact ⟨by rw [hne.out]; rfl, HB2.out⟩
      · obtain rfl : k = n := by omega
        have heq : Hid (decide (A = B) = true) := (show decide (A = B) = true from decide_eq_true (List.ext_getElem? fun j => by
          have := HN.out
          by_cases e : j < k
          · exact HL.out j e
          · rw [List.getElem?_eq_none (by omega), List.getElem?_eq_none (by omega)]))
        go_wp2
        go_ret
        exact ⟨by rw [heq.out]; rfl, HW.out⟩
  · have q1 : ¬ (A.length : Int) = (B.length : Int) := by omega
    have hne : Hid (decide (A = B) = false) := (show decide (A = B) = false from decide_eq_false fun e => hl (by rw [e]))
    clear cA cB sA sB hl
    go_enter Tryd.func11, Tryd.ntmps11
    go_wp2
    go_ret
    exact ⟨by rw [hne.out]; rfl, Below.refl _ _⟩
end Go.Proofs.YthpnenblmkdmcaaDoor

/- The frame of a law's row: what was read reads behind the call as it did, where nothing old has turned. -/
namespace Go.Proofs.YthpnenblmkdmcaaDoor
open Go.RowKit Go.Deep Go.ChangeShapes Go.WideShapes Go.ChangeAt

theorem below_trodAll {H : Type} {enc : TypeId × Value → H} {P : Program} (hl : laidOutB P = true) {W W' : World} (hb : Below W.heap.size W W') :
    ∀ {ts : List TypeId} {vs : List Value} {ds : List (DataW H)} {ps : List MemPlace}, (∀ t ∈ ts, P.readableRec t = true ∧ t < P.types.size) → DataW.TrodAll enc P W 0 (fun _ => true) true ts vs ds ps → (∀ x ∈ ps, x.block < W.heap.size) →
      DataW.TrodAll enc P W' 0 (fun b => decide (b < W.heap.size)) true ts vs ds ps
  | [], [], [], _, _, h, _ => h
  | t :: ts, v :: vs, d :: ds, ps, hts, h, hlt => by
    obtain ⟨p, q, h1, h2, e⟩ := h
    subst e
    exact ⟨p, q, Below.trod hl (hts t List.mem_cons_self).1 (hts t List.mem_cons_self).2 h1 hb (fun x hx => hlt x (List.mem_append_left _ hx)), below_trodAll hl hb (fun u hu => hts u (List.mem_cons_of_mem _ hu)) h2 (fun x hx => hlt x (List.mem_append_right _ hx)), rfl⟩

/-- WHAT A LAW's ROW ASKS BEHIND THE CALL, where the answer is true and nothing old has turned. -/
theorem law_post {H : Type} {enc : TypeId × Value → H} {P : Program} {spec : ChangeSpec} {f : Func} {W W' : World} {args : Array Value} {ds gs : List (DataW H)} {before : List MemPlace} {tb : TypeId}
    (hl : laidOutB P = true) (hts : ∀ t ∈ f.params.toList, P.readableRec t = true ∧ t < P.types.size) (hvars : spec.vars = []) (hres : f.resultTypes = #[tb]) (hbool : P.underlying tb = some .bool)
    (hspec : spec.fn H (ds ++ gs) = { results := [.lit (.bool true)], args := ds })
    (hW : DataW.Whole enc P f.params.toList spec.vars false W args.toList ds gs before) (hb : Below W.heap.size W W') : spec.post enc P f false true false false W args (.bool true) W' := by
  have hW' := hW
  have hlt := hW.lt
  obtain ⟨p, q, hA, hV, rfl, hfz, hnd⟩ := hW
  rw [hvars] at hV
  obtain ⟨rfl, rfl⟩ := trodVars_none hV
  refine ⟨ds, [], p ++ [], [], p, [], hW', ?_, ?_, ?_, ?_, fun h => by cases h⟩
  · rw [hspec, hres]
    exact trodAll_cons_mk (shut_bool hbool _) trodAll_mk0
  · rw [hspec]
    exact below_trodAll hl hb hts hA (fun x hx => hlt x (List.mem_append_left _ hx))
  · rw [hspec, hvars]; exact hV
  · exact hb.frame _

/-- AN ARRAY OF BYTES, opened. -/
theorem open_bytes {H : Type} {enc : TypeId × Value → H} {P : Program} {w : World} {base b0 : Nat} {sp : Nat → Bool} {held : Bool} {r : Reach} {t e : TypeId} {n : Nat} {v : Value} {d : DataW H} {ps : List MemPlace}
    (hu : P.underlying t = some (.array n e)) (he : P.underlying e = some (.int .u8)) (hc : P.cellsOf e = 1) (hct : P.cellsOf t = n) (hval : Value.okWide P w r b0 t v) (hd : DataW.Trod enc P w base sp held t v d ps) :
    ∃ f : Nat → Int, v = .agg (rowV n fun i => .int .u8 (f i)) ∧ ∀ i, 0 ≤ f i ∧ f i ≤ 255 := by
  unfold Value.okWide at hval
  rw [hu] at hval
  obtain ⟨cs, rfl, hsz, _⟩ := hval
  obtain ⟨fuel, hf⟩ := hd
  obtain ⟨xs, m, rfl, _, hlen, _, hx⟩ := DataW.trod_array hu hf
  simp only [Value.cells] at hx hlen
  have hget : ∀ i, i < n → ∃ z : Int, cs[i]? = some (.int .u8 z) ∧ 0 ≤ z ∧ z ≤ 255 := fun i hi => by
    have h1 := hx i hi
    rw [hc, Nat.mul_one] at h1
    have hxi : i < xs.length := by omega
    rw [List.getElem?_eq_getElem hxi] at h1
    obtain ⟨z, hz, _, hw⟩ := DataW.trod_int he h1
    refine ⟨z, ?_, bounds_u8 hw⟩
    have hcs : cs.toList[i]? = some (.int .u8 z) := by
      have := congrArg (fun l => l[0]?) hz
      simpa [List.getElem?_take, List.getElem?_drop] using this
    rw [← Array.getElem?_toList]; exact hcs
  refine ⟨fun i => if h : i < n then Classical.choose (hget i h) else 0, ?_, fun i => ?_⟩
  · congr 1
    refine rowV_eq (by omega) fun i hi => ?_
    dsimp only
    rw [dif_pos hi]; exact (Classical.choose_spec (hget i hi)).1
  · dsimp only
    by_cases h : i < n
    · rw [dif_pos h]; exact (Classical.choose_spec (hget i h)).2
    · rw [dif_neg h]; omega
end Go.Proofs.YthpnenblmkdmcaaDoor

/- A sum that is handed in. -/
namespace Go.Proofs.YthpnenblmkdmcaaDoor
open Go.RowKit Go.Deep
/-- its bytes as a list. -/
def listF (f : Nat → Int) : List Int := (List.range 32).map f
theorem listF_getD (f : Nat → Int) (i : Nat) (h : i < 32) : (listF f).getD i 0 = f i := by
  rw [listF, List.getD_eq_getElem?_getD, List.getElem?_map, List.getElem?_range h]; rfl
theorem listF_sum {f : Nat → Int} (hf : ∀ i, 0 ≤ f i ∧ f i ≤ 255) : isSum (listF f) := ⟨by simp [listF], fun i => by
  by_cases h : i < 32
  · rw [listF_getD f i h]; exact hf i
  · rw [List.getD_eq_getElem?_getD, List.getElem?_eq_none (by simp [listF]; omega)]; exact ⟨by simp, by simp⟩⟩
theorem listF_row (f : Nat → Int) : rowV 32 (fun i => .int .u8 (f i)) = rowV 32 (arrV (listF f)) := rowV_congr fun i hi => by rw [arrV, listF_getD f i hi]
def zeroSum : Value := .agg #[.int .u8 0, .int .u8 0, .int .u8 0, .int .u8 0, .int .u8 0, .int .u8 0, .int .u8 0, .int .u8 0, .int .u8 0, .int .u8 0, .int .u8 0, .int .u8 0, .int .u8 0, .int .u8 0, .int .u8 0, .int .u8 0, .int .u8 0, .int .u8 0, .int .u8 0, .int .u8 0, .int .u8 0, .int .u8 0, .int .u8 0, .int .u8 0, .int .u8 0, .int .u8 0, .int .u8 0, .int .u8 0, .int .u8 0, .int .u8 0, .int .u8 0, .int .u8 0]
def zeroSumD {H : Type} : DataW H := .agg [.lit (.int .u8 0), .lit (.int .u8 0), .lit (.int .u8 0), .lit (.int .u8 0), .lit (.int .u8 0), .lit (.int .u8 0), .lit (.int .u8 0), .lit (.int .u8 0), .lit (.int .u8 0), .lit (.int .u8 0), .lit (.int .u8 0), .lit (.int .u8 0), .lit (.int .u8 0), .lit (.int .u8 0), .lit (.int .u8 0), .lit (.int .u8 0), .lit (.int .u8 0), .lit (.int .u8 0), .lit (.int .u8 0), .lit (.int .u8 0), .lit (.int .u8 0), .lit (.int .u8 0), .lit (.int .u8 0), .lit (.int .u8 0), .lit (.int .u8 0), .lit (.int .u8 0), .lit (.int .u8 0), .lit (.int .u8 0), .lit (.int .u8 0), .lit (.int .u8 0), .lit (.int .u8 0), .lit (.int .u8 0)]
end Go.Proofs.YthpnenblmkdmcaaDoor
