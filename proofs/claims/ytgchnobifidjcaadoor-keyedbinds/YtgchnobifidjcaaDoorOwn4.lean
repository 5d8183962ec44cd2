import Derived.Deep.Cut
import Derived.Deep.CutRange
import Derived.Deep.Light
import Derived.Deep.AppendLies
import Derived.Deep.MidRow
import Derived.Lib.ConvBytes
import Derived.Test.YtgchnobifidjcaaDoorOwn1
import Derived.Test.YtgchnobifidjcaaDoorOwn2
import Derived.Test.YtgchnobifidjcaaDoorOwn3
set_option linter.unusedVariables false
set_option linter.unusedSimpArgs false
/- The document's Block. -/
namespace Go.Proofs.YtgchnobifidjcaaDoor
set_option linter.unusedSimpArgs false
set_option linter.unusedVariables false
open Go.RowKit Go.Deep

/-- eight words as values. -/
def s8L (s : S8) : List Value := [.int .u32 s.a, .int .u32 s.b, .int .u32 s.c, .int .u32 s.d, .int .u32 s.e, .int .u32 s.f, .int .u32 s.g, .int .u32 s.h]
def okW (x : Int) : Prop := 0 ≤ x ∧ x < 4294967296
def okS (s : S8) : Prop := okW s.a ∧ okW s.b ∧ okW s.c ∧ okW s.d ∧ okW s.e ∧ okW s.f ∧ okW s.g ∧ okW s.h
theorem okS_rnd (s : S8) (k w : Int) (h : okS s) : okS (rnd s k w) := by
  obtain ⟨h1, h2, h3, h4, h5, h6, h7, h8⟩ := h
  exact ⟨by unfold okW rnd; simp only; omega, h1, h2, h3, by unfold okW rnd; simp only; omega, h5, h6, h7⟩
theorem hi32w : (Tryd.prog.info? 152).map (fun i => (i.zero, i.size, i.bytes)) = some (some (.int .u32 0), 1, 4) := by kernel_rfl
/-- append(v, u...), v of the call's own, u words somewhere. -/
theorem words_append_run (w : World) (B : Nat) (v : Value) (xs : List Value) (hv : owns w B 152 v xs) (sb so m c : Nat) (news : List Value) (hl : news.length = m) (hc : ∀ (j : Nat) (u : Value), news[j]? = some u → w.cell? ⟨sb, so + j, none⟩ = some u) (h1 : ∀ u ∈ news, u.oneCell' = true) (hm : 0 < m) (hs : xs.length + m ≤ 1000) (hB : B ≤ w.heap.size) :
    ∃ v' w', (Builtin.append_ #[153, 153] 153 #[v, .slice (some ⟨sb, so, none⟩) m c]).run Tryd.prog w = .ok v' w' ∧ owns w' B 152 v' (xs ++ news) ∧ w.grownBy w' v.ownBlock ∧ (v'.ownBlock = v.ownBlock ∨ v'.ownBlock = some w.heap.size) := by
  obtain ⟨g, cap, w', hr, ho, hg, hat, hlt⟩ := run_append (P := Tryd.prog) w 153 153 B 152 (.int .u32 0) 4 Tryd.underlying153 hi32w rfl v xs hv sb so m c news hl hc h1 hm (by unfold maxLen; omega) (by omega) hB
  refine ⟨_, w', hr, ho, hg, ?_⟩
  rcases hat with h | h
  · exact Or.inl h.symm
  · exact Or.inr (by rw [h]; rfl)
theorem run_slice_to7 (g cg : Nat) (h : 8 ≤ cg) (w : World) : (Instr.slice 153 (.slice (some ⟨g, 0, none⟩) 8 cg) none (some (.int .i64 7)) none).run Tryd.prog w = .ok (.slice (some ⟨g, 0, none⟩) 7 cg) w := by
  cases hq : Tryd.prog.info? 152 with
  | none => have := hi32w; simp [hq] at this
  | some i =>
    have hi : i.size = 1 := by have := hi32w; simp [hq] at this; exact this.2.1
    have h0 : (7 : Int) ≤ (cg : Int) := by omega
    have h1 : 7 ≤ cg := by omega
    simp [Instr.slice, Instr.sliceBounds, Instr.sliceBound, asIntOf, run_underlying Tryd.underlying153, sizeOf, typeInfo, hq, hi, h0, h1, Addr.add_mid]
theorem owns_row {w : World} {B e g n cap : Nat} {xs : List Value} (h : owns w B e (.slice (some ⟨g, 0, none⟩) n cap) xs) : ∃ F : Nat → Value, w.rowIs g e cap F ∧ (∀ (i : Nat) (u : Value), xs[i]? = some u → F i = u) ∧ n ≤ cap ∧ cap ≤ maxLen ∧ B ≤ g := by
  obtain ⟨hl, h | ⟨g', cap', cur, he, hB, hb, hc, hm, hs, ht⟩⟩ := h
  · cases h.1
  · have he' : g = g' ∧ n = xs.length ∧ cap = cap' := by simpa using he
    obtain ⟨rfl, rfl, rfl⟩ := he'
    refine ⟨fun i => cur.getD i undef, ⟨cur, hb, by omega, fun i hi => ?_⟩, fun i u hu => ?_, hc, hm, hB⟩
    · rw [Array.getElem?_eq_getElem (by omega)]; simp [Array.getD, show i < cur.size by omega]
    · rw [← ht, List.getElem?_take] at hu
      split at hu
      · rw [Array.getElem?_toList] at hu; simp [Array.getD_eq_getD_getElem?, hu]
      · cases hu
theorem owns_of_row {w : World} {B e g n cap : Nat} {F : Nat → Value} (h : w.rowIs g e cap F) (hn : n ≤ cap) (hm : cap ≤ maxLen) (hB : B ≤ g) : owns w B e (.slice (some ⟨g, 0, none⟩) n cap) ((List.range n).map F) := by
  obtain ⟨cur, hb, hs, hc⟩ := h
  refine ⟨by simp, Or.inr ⟨g, cap, cur, by simp, hB, hb, by simpa using hn, hm, by omega, ?_⟩⟩
  apply List.ext_getElem?
  intro i
  rw [List.getElem?_take]
  simp only [List.length_map, List.length_range, Nat.mul_one]
  by_cases hi : i < n
  · rw [if_pos hi, Array.getElem?_toList, hc i (by omega), List.getElem?_map, List.getElem?_range hi]; rfl
  · rw [if_neg hi, List.getElem?_eq_none (by simp; omega)]
/-- the eight words behind k rounds, and what is read besides. -/
def blkAt (w w3 wr : World) (g2 gk : Nat) (xv : Value) (f : Nat → Int) (s0 : S8) (k : Nat) : Prop :=
  owns wr w.heap.size 152 xv (s8L (rndTo (wAt f 64) s0 k)) ∧ (∀ j, xv.ownBlock = some j → j ≠ g2 ∧ j ≠ gk) ∧ (∀ i, i < 64 → wr.cell? ⟨g2, i, none⟩ = some (.int .u32 (wAt f 64 i))) ∧ (∀ i, i < 64 → wr.cell? ⟨gk, i, none⟩ = some (.int .u32 (kAt i))) ∧ Below w.heap.size w wr ∧ w3.heap.size ≤ wr.heap.size
theorem exec_bs0 {P : Program} {o : Oper} {ev : Operand → Value} {w w' : World} {v : Value} (t : TypeId) (n : Nat) (ho : o.op = .buildSlice t n #[])
    (hr : (Instr.buildSlice t n #[]).run P w = .ok v w') : (execOp ev o).run P w = .ok (.value v) w' := by
  unfold execOp
  simp only [ho, List.map_toArray, List.map_cons, List.map_nil, Sem.run_bind, hr, Result.andThen_ok, Sem.run_pure]
theorem okS_to (wd : Nat → Int) (s : S8) (h : okS s) : ∀ k, okS (rndTo wd s k)
  | 0 => h
  | k + 1 => okS_rnd _ _ _ (okS_to wd s h k)
set_option maxHeartbeats 4000000 in
set_option maxRecDepth 100000 in
theorem block_any (s0 : S8) (h0 : okS s0) (f : Nat → Int) (hf : ∀ i, 0 ≤ f i ∧ f i ≤ 255) (ob oo oc sb so cap : Nat) (w : World) (hob : ob < w.heap.size) (ho : ∀ (j : Nat) (u : Value), (s8L s0)[j]? = some u → w.cell? ⟨ob, oo + j, none⟩ = some u) (hsb : sb < w.heap.size) (hs : ∀ i, i < 64 → w.cell? ⟨sb, so + i, none⟩ = some (.int .u8 (f i))) :
    Calls Tryd.prog 109 #[.slice (some ⟨ob, oo, none⟩) 8 oc, .slice (some ⟨sb, so, none⟩) 64 cap] w fun e w' => ∃ v, e = .returned v ∧ owns w' w.heap.size 152 v ((List.range 8).map fun i => .int .u32 ((s0.at i + (rndTo (wAt f 64) s0 64).at i) % 4294967296)) ∧ Below w.heap.size w w' := by
  have hO : owns (w.alloc (.cells #[] 152)) w.heap.size 152 (.slice (some ⟨w.heap.size, 0, none⟩) 0 0) [] :=
    ⟨rfl, Or.inr ⟨w.heap.size, 0, #[], rfl, Nat.le_refl _, blk_alloc_new _ _, Nat.le_refl _, by unfold maxLen; omega, rfl, rfl⟩⟩
  have b0 : Below w.heap.size w (w.alloc (.cells #[] 152)) := (Below.refl _ _).alloc (Nat.le_refl _) _
  obtain ⟨v1, w1, r1, o1, g1, a1⟩ := words_append_run _ w.heap.size _ [] hO ob oo 8 oc (s8L s0) rfl (fun j u hu => (b0.cell (p := ⟨ob, oo + j, none⟩) hob).trans (ho j u hu)) (fun u hu => by
    simp only [s8L, List.mem_cons, List.not_mem_nil, or_false] at hu
    rcases hu with rfl | rfl | rfl | rfl | rfl | rfl | rfl | rfl <;> rfl) (by omega) (by simp) (by simp)
  have b1 : Below w.heap.size w w1 := b0.trans ⟨g1.os, g1.tape, g1.output, g1.size, fun k hk => g1.block k (by simp; omega) (fun e => by have := (hO.block k e.symm).1; omega)⟩
  obtain ⟨gx, cx, hv1, hgx, hgx1, _, _, _, _⟩ := o1.shape (by simp [s8L])
  have SC := sched_any f hf sb so cap w1 (Nat.lt_of_lt_of_le hsb b1.size) (fun i hi => (b1.cell (p := ⟨sb, so + i, none⟩) hsb).trans (hs i hi))
  subst hv1
  have O1 : Hid (owns w1 w.heap.size 152 (.slice (some ⟨gx, 0, none⟩) (([] : List Value) ++ s8L s0).length cx) ([] ++ s8L s0)) := (show owns w1 w.heap.size 152 (.slice (some ⟨gx, 0, none⟩) (([] : List Value) ++ s8L s0).length cx) ([] ++ s8L s0) from o1)
  have B1 : Hid (Below w.heap.size w w1) := (show Below w.heap.size w w1 from b1)
  have R1 : Hid ((Builtin.append_ #[153, 153] 153 #[.slice (some ⟨w.heap.size, 0, none⟩) 0 0, .slice (some ⟨ob, oo, none⟩) 8 oc]).run Tryd.prog (w.alloc (.cells #[] 152)) = .ok (.slice (some ⟨gx, 0, none⟩) (([] : List Value) ++ s8L s0).length cx) w1) := (show (Builtin.append_ #[153, 153] 153 #[.slice (some ⟨w.heap.size, 0, none⟩) 0 0, .slice (some ⟨ob, oo, none⟩) 8 oc]).run Tryd.prog (w.alloc (.cells #[] 152)) = .ok (.slice (some ⟨gx, 0, none⟩) (([] : List Value) ++ s8L s0).length cx) w1 from r1)
  clear hO b0 r1 o1 g1 a1 b1
  go_enter Tryd.func109, Tryd.ntmps109
  go_wp2_with (first | (at_builtin; refine wpList_append_run rfl (.tmp 15) (.tmp 16) _ rfl rfl rfl R1.out ?_; try simp only [Act.put, List.setIfInBounds_toArray, List.set_cons_zero, List.set_cons_succ]; clear R1))
  refine SC.mono ?_
  rintro e w2 ⟨v2, rfl, o2, b2⟩
  obtain ⟨g2, c2, rfl, hg2, hg2l, _, _, hc2, _⟩ := o2.shape (by simp [wTo_length])
  have KO := constants_any w2
  have l8 : (([] : List Value) ++ s8L s0).length = 8 := rfl
  have l64 : (List.map (Value.int IntKind.u32) (wTo f 64)).length = 64 := by simp [wTo_length]
  simp only [l8, l64]
  clear SC
  go_wp2_with fail
  refine KO.mono ?_
  rintro e w3 ⟨rfl, hw3⟩
  have rk : w3.rowIs w2.heap.size 152 64 (fun i => .int .u32 (kAt i)) := by rw [hw3]; exact rowIs_box w2 _ _ _
  have b3 : Below w2.heap.size w2 w3 := by rw [hw3]; exact (Below.refl _ _).alloc (Nat.le_refl _) _
  have BL : Hid (blkAt w w3 w3 g2 w2.heap.size (.slice (some ⟨gx, 0, none⟩) 8 cx) f s0 0) := (show blkAt w w3 w3 g2 w2.heap.size (.slice (some ⟨gx, 0, none⟩) 8 cx) f s0 0 from
    ⟨(owns.below O1.out b2 (Nat.le_refl _)).below b3 (Nat.le_refl _), fun j hj => by
      obtain rfl : gx = j := by simpa [Value.ownBlock] using hj
      exact ⟨by omega, by omega⟩, fun i hi => (b3.cell (p := ⟨g2, i, none⟩) hg2l).trans (sched_cell f 64 i hi hc2), fun i hi => rk.cell hi, (B1.out.trans (b2.mono B1.out.size)).trans (b3.mono (Nat.le_trans B1.out.size b2.size)), Nat.le_refl _⟩)
  have S3 : Hid (w3.heap.size = w2.heap.size + 1) := (show w3.heap.size = w2.heap.size + 1 by rw [hw3]; simp)
  clear KO rk b3 hw3 o2 hc2 b2 l8 l64
  go_wp2
  go_loopw [5, 8] (fun xv i wr => ∃ k : Nat, k ≤ 64 ∧ i = .int .i64 k ∧ blkAt w w3 wr g2 w2.heap.size xv f s0 k) (fun _ i _ => 64 - (intOf i).toNat)
  case atStart => exact ⟨0, by omega, rfl, BL.out⟩
  case round =>
    obtain ⟨k, hk, rfl, hox, hne, hcw, hck, hbw, hsz⟩ := hrel
    clear BL
    have s3 := S3.out
    by_cases hlt : k < 64
    · have p0 : (0 : Int) ≤ (k : Int) := by omega
      have p1 : (k : Int) < 64 := by omega
      obtain ⟨sx, hsx⟩ : ∃ sx, sx = rndTo (wAt f 64) s0 k := ⟨_, rfl⟩
      have hok : okS sx := hsx ▸ okS_to _ _ h0 k
      rw [← hsx] at hox
      have HSX : Hid (sx = rndTo (wAt f 64) s0 k) := (show sx = rndTo (wAt f 64) s0 k from hsx)
      clear hsx
      obtain ⟨g, cg, rfl, hgB, hgl, hcg, _, hcx, hfr⟩ := hox.shape (by simp [s8L])
      have CX : Hid (∀ wz, Below wr.heap.size wr wz → ∀ (i : Nat) (u : Value), (s8L sx)[i]? = some u → wz.cell? ⟨g, i, none⟩ = some u) := (show ∀ wz, Below wr.heap.size wr wz → ∀ (i : Nat) (u : Value), (s8L sx)[i]? = some u → wz.cell? ⟨g, i, none⟩ = some u from fun wz hz i u hu => (hz.cell (p := ⟨g, i, none⟩) hgl).trans (hcx i u hu))
      have CW : Hid (∀ wz, Below wr.heap.size wr wz → wz.cell? ⟨g2, k, none⟩ = some (.int .u32 (wAt f 64 k))) := (show ∀ wz, Below wr.heap.size wr wz → wz.cell? ⟨g2, k, none⟩ = some (.int .u32 (wAt f 64 k)) from fun wz hz => (hz.cell (p := ⟨g2, k, none⟩) (show g2 < wr.heap.size by omega)).trans (hcw k hlt))
      have CK : Hid (∀ wz, Below wr.heap.size wr wz → wz.cell? ⟨w2.heap.size, k, none⟩ = some (.int .u32 (kAt k))) := (show ∀ wz, Below wr.heap.size wr wz → wz.cell? ⟨w2.heap.size, k, none⟩ = some (.int .u32 (kAt k)) from fun wz hz => (hz.cell (p := ⟨w2.heap.size, k, none⟩) (show w2.heap.size < wr.heap.size by omega)).trans (hck k hlt))
      have l8 : (s8L sx).length = 8 := rfl
      rw [l8]
      have HCW : Hid (∀ i, i < 64 → wr.cell? ⟨g2, i, none⟩ = some (.int .u32 (wAt f 64 i))) := (show ∀ i, i < 64 → wr.cell? ⟨g2, i, none⟩ = some (.int .u32 (wAt f 64 i)) from hcw)
      have HCK : Hid (∀ i, i < 64 → wr.cell? ⟨w2.heap.size, i, none⟩ = some (.int .u32 (kAt i))) := (show ∀ i, i < 64 → wr.cell? ⟨w2.heap.size, i, none⟩ = some (.int .u32 (kAt i)) from hck)
      clear s3 l8 hcx hcw hck
      go_upto_region 6 with fail
      go_cut [5, 8, 9, 10] from 21 to 30 (fun x i a e wx => x = .slice (some ⟨g, 0, none⟩) 8 cg ∧ i = .int .i64 (k : Int) ∧ a = .int .u32 sx.a ∧ e = .int .u32 sx.e ∧ Below wr.heap.size wr wx)
      case first =>
        refine wp_region_noPanic ?_
        refine wp_region_held_drew (S := fun w' => Below wr.heap.size wr w') (by kernel_rfl) ((Below.refl _ _).drew) (fun hHeld => ?_)
        refine take_op (i := 0) (v := ?va0) rfl (by kernel_rfl) (by kernel_rfl) (by kernel_rfl) (fun _ _ _ h => h) rfl hHeld ?ya0 ?ra0
        case ya0 => (intro wz hz; go_simp; first | done | with_reducible rfl)
        try simp only [Act.put, List.setIfInBounds_toArray, List.set_cons_zero, List.set_cons_succ]
        refine take_op (i := 1) (v := ?va1) rfl (by kernel_rfl) (by kernel_rfl) (by kernel_rfl) (fun _ _ _ h => h) rfl hHeld ?ya1 ?ra1
        case ya1 => (intro wz hz; go_simp; first | done | with_reducible rfl)
        try simp only [Act.put, List.setIfInBounds_toArray, List.set_cons_zero, List.set_cons_succ]
        refine take_op (i := 2) (v := ?va2) rfl (by kernel_rfl) (by kernel_rfl) (by kernel_rfl) (fun _ _ _ h => h) rfl hHeld ?ya2 ?ra2
        case ya2 => (intro wz hz; have hcz := CX.out wz hz 0 _ rfl; go_simp; first | done | with_reducible rfl)
        try simp only [Act.put, List.setIfInBounds_toArray, List.set_cons_zero, List.set_cons_succ]
        refine take_op (i := 3) (v := ?va3) rfl (by kernel_rfl) (by kernel_rfl) (by kernel_rfl) (fun _ _ _ h => h) rfl hHeld ?ya3 ?ra3
        case ya3 => (intro wz hz; go_simp; first | done | with_reducible rfl)
        try simp only [Act.put, List.setIfInBounds_toArray, List.set_cons_zero, List.set_cons_succ]
        refine take_op (i := 4) (v := ?va4) rfl (by kernel_rfl) (by kernel_rfl) (by kernel_rfl) (fun _ _ _ h => h) rfl hHeld ?ya4 ?ra4
        case ya4 => (intro wz hz; go_simp; first | done | with_reducible rfl)
        try simp only [Act.put, List.setIfInBounds_toArray, List.set_cons_zero, List.set_cons_succ]
        refine take_op (i := 5) (v := ?va5) rfl (by kernel_rfl) (by kernel_rfl) (by kernel_rfl) (fun _ _ _ h => h) rfl hHeld ?ya5 ?ra5
        case ya5 => (intro wz hz; have hcz := CX.out wz hz 4 _ rfl; go_simp; first | done | with_reducible rfl)
        try simp only [Act.put, List.setIfInBounds_toArray, List.set_cons_zero, List.set_cons_succ]
        refine take_op (i := 6) (v := ?va6) rfl (by kernel_rfl) (by kernel_rfl) (by kernel_rfl) (fun _ _ _ h => h) rfl hHeld ?ya6 ?ra6
        case ya6 => (intro wz hz; go_simp; first | done | with_reducible rfl)
        try simp only [Act.put, List.setIfInBounds_toArray, List.set_cons_zero, List.set_cons_succ]
        refine take_op (i := 7) (v := ?va7) rfl (by kernel_rfl) (by kernel_rfl) (by kernel_rfl) (fun _ _ _ h => h) rfl hHeld ?ya7 ?ra7
        case ya7 => (intro wz hz; go_simp; first | done | with_reducible rfl)
        try simp only [Act.put, List.setIfInBounds_toArray, List.set_cons_zero, List.set_cons_succ]
        refine wpAnyH_done (by kernel_rfl) ?_ _
        refine NoPanic.normal ?_
        have HB2 : Hid (Below wr.heap.size wr _) := hHeld
        clear hHeld
        go_wp2_with fail
        go_meet
        case rel => exact ⟨rfl, rfl, rfl, rfl, HB2.out⟩
      case rest =>
        obtain ⟨rfl, rfl, rfl, rfl, hb6⟩ := hcut
        have HB6 : Hid (Below wr.heap.size wr wc) := (show Below wr.heap.size wr wc from hb6)
        clear hb6
        have oke : okW sx.e := hok.2.2.2.2.1
        have oka : okW sx.a := hok.1
        unfold okW at oke oka
        go_upto_region 7 with fail
        go_cut [5, 8, 9, 10, 11] from 21 to 64 (fun x i a e t wx => x = .slice (some ⟨g, 0, none⟩) 8 cg ∧ i = .int .i64 (k : Int) ∧ a = .int .u32 sx.a ∧ e = .int .u32 sx.e ∧ t = .int .u32 (rndT sx (kAt k) (wAt f 64 k)) ∧ Below wr.heap.size wr wx)
        case first =>
          refine wp_region_noPanic ?_
          refine wp_region_held_drew (S := fun w' => Below wr.heap.size wr w') (by kernel_rfl) (HB6.out.drew) (fun hHeld => ?_)
          refine take_op (i := 0) (v := ?vb0) rfl (by kernel_rfl) (by kernel_rfl) (by kernel_rfl) (fun _ _ _ h => h) rfl hHeld ?yb0 ?rb0
          case yb0 => (intro wz hz; go_simp; first | done | with_reducible rfl)
          try simp only [Act.put, List.setIfInBounds_toArray, List.set_cons_zero, List.set_cons_succ]
          refine take_op (i := 1) (v := ?vb1) rfl (by kernel_rfl) (by kernel_rfl) (by kernel_rfl) (fun _ _ _ h => h) rfl hHeld ?yb1 ?rb1
          case yb1 => (intro wz hz; go_simp; first | done | with_reducible rfl)
          try simp only [Act.put, List.setIfInBounds_toArray, List.set_cons_zero, List.set_cons_succ]
          refine take_op (i := 2) (v := ?vb2) rfl (by kernel_rfl) (by kernel_rfl) (by kernel_rfl) (fun _ _ _ h => h) rfl hHeld ?yb2 ?rb2
          case yb2 => (intro wz hz; have hcz := CX.out wz hz 7 _ rfl; go_simp; first | done | with_reducible rfl)
          try simp only [Act.put, List.setIfInBounds_toArray, List.set_cons_zero, List.set_cons_succ]
          refine take_op (i := 3) (v := ?vb3) rfl (by kernel_rfl) (by kernel_rfl) (by kernel_rfl) (fun _ _ _ h => h) rfl hHeld ?yb3 ?rb3
          case yb3 => (intro wz hz; go_simp; first | done | with_reducible rfl)
          try simp only [Act.put, List.setIfInBounds_toArray, List.set_cons_zero, List.set_cons_succ]
          refine take_op (i := 5) (v := ?vb5) rfl (by kernel_rfl) (by kernel_rfl) (by kernel_rfl) (fun _ _ _ h => h) rfl hHeld ?yb5 ?rb5
          case yb5 => (intro wz hz; go_simp; first | done | with_reducible rfl)
          try simp only [Act.put, List.setIfInBounds_toArray, List.set_cons_zero, List.set_cons_succ]
          refine take_op (i := 7) (v := ?vb7) rfl (by kernel_rfl) (by kernel_rfl) (by kernel_rfl) (fun _ _ _ h => h) rfl hHeld ?yb7 ?rb7
          case yb7 => (intro wz hz; go_simp; first | done | with_reducible rfl)
          try simp only [Act.put, List.setIfInBounds_toArray, List.set_cons_zero, List.set_cons_succ]
          refine take_op (i := 11) (v := ?vb11) rfl (by kernel_rfl) (by kernel_rfl) (by kernel_rfl) (fun _ _ _ h => h) rfl hHeld ?yb11 ?rb11
          case yb11 => (intro wz hz; go_simp; first | done | with_reducible rfl)
          try simp only [Act.put, List.setIfInBounds_toArray, List.set_cons_zero, List.set_cons_succ]
          refine take_op (i := 12) (v := ?vb12) rfl (by kernel_rfl) (by kernel_rfl) (by kernel_rfl) (fun _ _ _ h => h) rfl hHeld ?yb12 ?rb12
          case yb12 => (intro wz hz; go_simp; first | done | with_reducible rfl)
          try simp only [Act.put, List.setIfInBounds_toArray, List.set_cons_zero, List.set_cons_succ]
          refine take_op (i := 13) (v := ?vb13) rfl (by kernel_rfl) (by kernel_rfl) (by kernel_rfl) (fun _ _ _ h => h) rfl hHeld ?yb13 ?rb13
          case yb13 => (intro wz hz; go_simp; first | done | with_reducible rfl)
          try simp only [Act.put, List.setIfInBounds_toArray, List.set_cons_zero, List.set_cons_succ]
          refine take_op (i := 14) (v := ?vb14) rfl (by kernel_rfl) (by kernel_rfl) (by kernel_rfl) (fun _ _ _ h => h) rfl hHeld ?yb14 ?rb14
          case yb14 => (intro wz hz; have hcz := CX.out wz hz 5 _ rfl; go_simp; first | done | with_reducible rfl)
          try simp only [Act.put, List.setIfInBounds_toArray, List.set_cons_zero, List.set_cons_succ]
          refine take_op (i := 15) (v := ?vb15) rfl (by kernel_rfl) (by kernel_rfl) (by kernel_rfl) (fun _ _ _ h => h) rfl hHeld ?yb15 ?rb15
          case yb15 => (intro wz hz; go_simp; first | done | with_reducible rfl)
          try simp only [Act.put, List.setIfInBounds_toArray, List.set_cons_zero, List.set_cons_succ]
          refine take_op (i := 16) (v := ?vb16) rfl (by kernel_rfl) (by kernel_rfl) (by kernel_rfl) (fun _ _ _ h => h) rfl hHeld ?yb16 ?rb16
          case yb16 => (intro wz hz; go_simp; first | done | with_reducible rfl)
          try simp only [Act.put, List.setIfInBounds_toArray, List.set_cons_zero, List.set_cons_succ]
          refine take_op (i := 17) (v := ?vb17) rfl (by kernel_rfl) (by kernel_rfl) (by kernel_rfl) (fun _ _ _ h => h) rfl hHeld ?yb17 ?rb17
          case yb17 => (intro wz hz; go_simp; first | done | with_reducible rfl)
          try simp only [Act.put, List.setIfInBounds_toArray, List.set_cons_zero, List.set_cons_succ]
          refine take_op (i := 18) (v := ?vb18) rfl (by kernel_rfl) (by kernel_rfl) (by kernel_rfl) (fun _ _ _ h => h) rfl hHeld ?yb18 ?rb18
          case yb18 => (intro wz hz; go_simp; first | done | with_reducible rfl)
          try simp only [Act.put, List.setIfInBounds_toArray, List.set_cons_zero, List.set_cons_succ]
          refine take_op (i := 19) (v := ?vb19) rfl (by kernel_rfl) (by kernel_rfl) (by kernel_rfl) (fun _ _ _ h => h) rfl hHeld ?yb19 ?rb19
          case yb19 => (intro wz hz; go_simp; first | done | with_reducible rfl)
          try simp only [Act.put, List.setIfInBounds_toArray, List.set_cons_zero, List.set_cons_succ]
          refine take_op (i := 20) (v := ?vb20) rfl (by kernel_rfl) (by kernel_rfl) (by kernel_rfl) (fun _ _ _ h => h) rfl hHeld ?yb20 ?rb20
          case yb20 => (intro wz hz; have hcz := CX.out wz hz 6 _ rfl; go_simp; first | done | with_reducible rfl)
          try simp only [Act.put, List.setIfInBounds_toArray, List.set_cons_zero, List.set_cons_succ]
          refine take_op (i := 21) (v := ?vb21) rfl (by kernel_rfl) (by kernel_rfl) (by kernel_rfl) (fun _ _ _ h => h) rfl hHeld ?yb21 ?rb21
          case yb21 => (intro wz hz; go_simp; first | done | with_reducible rfl)
          try simp only [Act.put, List.setIfInBounds_toArray, List.set_cons_zero, List.set_cons_succ]
          refine take_op (i := 22) (v := ?vb22) rfl (by kernel_rfl) (by kernel_rfl) (by kernel_rfl) (fun _ _ _ h => h) rfl hHeld ?yb22 ?rb22
          case yb22 => (intro wz hz; go_simp; first | done | with_reducible rfl)
          try simp only [Act.put, List.setIfInBounds_toArray, List.set_cons_zero, List.set_cons_succ]
          refine take_op (i := 24) (v := ?vb24) rfl (by kernel_rfl) (by kernel_rfl) (by kernel_rfl) (fun _ _ _ h => h) rfl hHeld ?yb24 ?rb24
          case yb24 => (intro wz hz; go_simp; first | done | with_reducible rfl)
          try simp only [Act.put, List.setIfInBounds_toArray, List.set_cons_zero, List.set_cons_succ]
          refine take_op (i := 25) (v := ?vb25) rfl (by kernel_rfl) (by kernel_rfl) (by kernel_rfl) (fun _ _ _ h => h) rfl hHeld ?yb25 ?rb25
          case yb25 => (intro wz hz; go_simp; first | done | with_reducible rfl)
          try simp only [Act.put, List.setIfInBounds_toArray, List.set_cons_zero, List.set_cons_succ]
          refine take_op (i := 26) (v := ?vb26) rfl (by kernel_rfl) (by kernel_rfl) (by kernel_rfl) (fun _ _ _ h => h) rfl hHeld ?yb26 ?rb26
          case yb26 => (intro wz hz; go_simp; first | done | with_reducible rfl)
          try simp only [Act.put, List.setIfInBounds_toArray, List.set_cons_zero, List.set_cons_succ]
          refine take_op (i := 27) (v := ?vb27) rfl (by kernel_rfl) (by kernel_rfl) (by kernel_rfl) (fun _ _ _ h => h) rfl hHeld ?yb27 ?rb27
          case yb27 => (intro wz hz; have hcz := CK.out wz hz; go_simp; first | done | with_reducible rfl)
          try simp only [Act.put, List.setIfInBounds_toArray, List.set_cons_zero, List.set_cons_succ]
          refine take_op (i := 29) (v := ?vb29) rfl (by kernel_rfl) (by kernel_rfl) (by kernel_rfl) (fun _ _ _ h => h) rfl hHeld ?yb29 ?rb29
          case yb29 => (intro wz hz; go_simp; first | done | with_reducible rfl)
          try simp only [Act.put, List.setIfInBounds_toArray, List.set_cons_zero, List.set_cons_succ]
          refine take_op (i := 30) (v := ?vb30) rfl (by kernel_rfl) (by kernel_rfl) (by kernel_rfl) (fun _ _ _ h => h) rfl hHeld ?yb30 ?rb30
          case yb30 => (intro wz hz; go_simp; first | done | with_reducible rfl)
          try simp only [Act.put, List.setIfInBounds_toArray, List.set_cons_zero, List.set_cons_succ]
          refine take_op (i := 31) (v := ?vb31) rfl (by kernel_rfl) (by kernel_rfl) (by kernel_rfl) (fun _ _ _ h => h) rfl hHeld ?yb31 ?rb31
          case yb31 => (intro wz hz; go_simp; first | done | with_reducible rfl)
          try simp only [Act.put, List.setIfInBounds_toArray, List.set_cons_zero, List.set_cons_succ]
          refine take_op (i := 32) (v := ?vb32) rfl (by kernel_rfl) (by kernel_rfl) (by kernel_rfl) (fun _ _ _ h => h) rfl hHeld ?yb32 ?rb32
          case yb32 => (intro wz hz; have hcz := CW.out wz hz; go_simp; first | done | with_reducible rfl)
          try simp only [Act.put, List.setIfInBounds_toArray, List.set_cons_zero, List.set_cons_succ]
          refine take_one (i := 4) rfl (by kernel_rfl) rfl (fun K hK => ?_)
          go_simp
          refine Calls.mono (rturn_any sx.e 6 oke.1 oke.2 (by omega) (by omega) _) ?_
          rintro e w' ⟨rfl, rfl⟩
          simp only [Int.reduceToNat]
          refine hK.out _ _ hHeld.drew (fun hHeld => ?_)
          clear hK K
          try simp only [Act.put, List.setIfInBounds_toArray, List.set_cons_zero, List.set_cons_succ]
          refine take_one (i := 6) rfl (by kernel_rfl) rfl (fun K hK => ?_)
          go_simp
          refine Calls.mono (rturn_any sx.e 11 oke.1 oke.2 (by omega) (by omega) _) ?_
          rintro e w' ⟨rfl, rfl⟩
          simp only [Int.reduceToNat]
          refine hK.out _ _ hHeld.drew (fun hHeld => ?_)
          clear hK K
          try simp only [Act.put, List.setIfInBounds_toArray, List.set_cons_zero, List.set_cons_succ]
          refine take_one (i := 8) rfl (by kernel_rfl) rfl (fun K hK => ?_)
          go_simp
          refine Calls.mono (rturn_any sx.e 25 oke.1 oke.2 (by omega) (by omega) _) ?_
          rintro e w' ⟨rfl, rfl⟩
          simp only [Int.reduceToNat]
          refine hK.out _ _ hHeld.drew (fun hHeld => ?_)
          clear hK K
          try simp only [Act.put, List.setIfInBounds_toArray, List.set_cons_zero, List.set_cons_succ]
          refine take_one (i := 9) rfl (by kernel_rfl) rfl (fun K hK => ?_)
          go_simp
          refine Calls.mono (three_any _ _ _ _) ?_
          rintro e w' ⟨rfl, rfl⟩
          refine hK.out _ _ hHeld (fun hHeld => ?_)
          clear hK K
          try simp only [Act.put, List.setIfInBounds_toArray, List.set_cons_zero, List.set_cons_succ]
          refine take_op (i := 10) (v := ?vb10) rfl (by kernel_rfl) (by kernel_rfl) (by kernel_rfl) (fun _ _ _ h => h) rfl hHeld ?yb10 ?rb10
          case yb10 => (intro wz hz; go_simp; first | done | with_reducible rfl)
          try simp only [Act.put, List.setIfInBounds_toArray, List.set_cons_zero, List.set_cons_succ]
          refine take_op (i := 23) (v := ?vb23) rfl (by kernel_rfl) (by kernel_rfl) (by kernel_rfl) (fun _ _ _ h => h) rfl hHeld ?yb23 ?rb23
          case yb23 => (intro wz hz; go_simp; first | done | with_reducible rfl)
          try simp only [Act.put, List.setIfInBounds_toArray, List.set_cons_zero, List.set_cons_succ]
          refine take_op (i := 28) (v := ?vb28) rfl (by kernel_rfl) (by kernel_rfl) (by kernel_rfl) (fun _ _ _ h => h) rfl hHeld ?yb28 ?rb28
          case yb28 => (intro wz hz; go_simp; first | done | with_reducible rfl)
          try simp only [Act.put, List.setIfInBounds_toArray, List.set_cons_zero, List.set_cons_succ]
          refine take_op (i := 33) (v := ?vb33) rfl (by kernel_rfl) (by kernel_rfl) (by kernel_rfl) (fun _ _ _ h => h) rfl hHeld ?yb33 ?rb33
          case yb33 => (intro wz hz; go_simp; first | done | with_reducible rfl)
          try simp only [Act.put, List.setIfInBounds_toArray, List.set_cons_zero, List.set_cons_succ]
          refine take_op (i := 34) (v := ?vb34) rfl (by kernel_rfl) (by kernel_rfl) (by kernel_rfl) (fun _ _ _ h => h) rfl hHeld ?yb34 ?rb34
          case yb34 => (intro wz hz; go_simp; first | done | with_reducible rfl)
          try simp only [Act.put, List.setIfInBounds_toArray, List.set_cons_zero, List.set_cons_succ]
          refine wpAnyH_done (by kernel_rfl) ?_ _
          refine NoPanic.normal ?_
          have HB7 : Hid (Below wr.heap.size wr _) := hHeld
          clear hHeld
          go_wp2_with fail
          go_meet
          case rel => exact ⟨rfl, rfl, rfl, rfl, congrArg (Value.int IntKind.u32) (rndT_doc sx (kAt k) (wAt f 64 k)), HB7.out⟩
        case rest =>
          obtain ⟨rfl, rfl, rfl, rfl, rfl, hb7⟩ := hcut
          have HB7 : Hid (Below wr.heap.size wr wc) := (show Below wr.heap.size wr wc from hb7)
          clear hb7 HB6
          obtain ⟨tt, htt⟩ : ∃ tt, tt = rndT sx (kAt k) (wAt f 64 k) := ⟨_, rfl⟩
          rw [← htt]
          have HTT : Hid (tt = rndT sx (kAt k) (wAt f 64 k)) := (show tt = rndT sx (kAt k) (wAt f 64 k) from htt)
          clear htt
          go_upto_region 8 with fail
          go_cut [5, 8, 9, 10, 11, 12] from 21 to 83 (fun x i a e t y wx => x = .slice (some ⟨g, 0, none⟩) 8 cg ∧ i = .int .i64 (k : Int) ∧ a = .int .u32 sx.a ∧ e = .int .u32 sx.e ∧ t = .int .u32 tt ∧ y = .int .u32 (bits .or .u32 (bits .or .u32 (bits .and .u32 sx.a sx.b) (bits .and .u32 sx.a sx.c)) (bits .and .u32 sx.b sx.c)) ∧ Below wr.heap.size wr wx)
          case first =>
            refine wp_region_noPanic ?_
            refine wp_region_held_drew (S := fun w' => Below wr.heap.size wr w') (by kernel_rfl) (HB7.out.drew) (fun hHeld => ?_)
            refine take_op (i := 0) (v := ?vc0) rfl (by kernel_rfl) (by kernel_rfl) (by kernel_rfl) (fun _ _ _ h => h) rfl hHeld ?yc0 ?rc0
            case yc0 => (intro wz hz; go_simp; first | done | with_reducible rfl)
            try simp only [Act.put, List.setIfInBounds_toArray, List.set_cons_zero, List.set_cons_succ]
            refine take_op (i := 1) (v := ?vc1) rfl (by kernel_rfl) (by kernel_rfl) (by kernel_rfl) (fun _ _ _ h => h) rfl hHeld ?yc1 ?rc1
            case yc1 => (intro wz hz; go_simp; first | done | with_reducible rfl)
            try simp only [Act.put, List.setIfInBounds_toArray, List.set_cons_zero, List.set_cons_succ]
            refine take_op (i := 2) (v := ?vc2) rfl (by kernel_rfl) (by kernel_rfl) (by kernel_rfl) (fun _ _ _ h => h) rfl hHeld ?yc2 ?rc2
            case yc2 => (intro wz hz; go_simp; first | done | with_reducible rfl)
            try simp only [Act.put, List.setIfInBounds_toArray, List.set_cons_zero, List.set_cons_succ]
            refine take_op (i := 3) (v := ?vc3) rfl (by kernel_rfl) (by kernel_rfl) (by kernel_rfl) (fun _ _ _ h => h) rfl hHeld ?yc3 ?rc3
            case yc3 => (intro wz hz; have hcz := CX.out wz hz 1 _ rfl; go_simp; first | done | with_reducible rfl)
            try simp only [Act.put, List.setIfInBounds_toArray, List.set_cons_zero, List.set_cons_succ]
            refine take_op (i := 4) (v := ?vc4) rfl (by kernel_rfl) (by kernel_rfl) (by kernel_rfl) (fun _ _ _ h => h) rfl hHeld ?yc4 ?rc4
            case yc4 => (intro wz hz; go_simp; first | done | with_reducible rfl)
            try simp only [Act.put, List.setIfInBounds_toArray, List.set_cons_zero, List.set_cons_succ]
            refine take_op (i := 5) (v := ?vc5) rfl (by kernel_rfl) (by kernel_rfl) (by kernel_rfl) (fun _ _ _ h => h) rfl hHeld ?yc5 ?rc5
            case yc5 => (intro wz hz; go_simp; first | done | with_reducible rfl)
            try simp only [Act.put, List.setIfInBounds_toArray, List.set_cons_zero, List.set_cons_succ]
            refine take_op (i := 6) (v := ?vc6) rfl (by kernel_rfl) (by kernel_rfl) (by kernel_rfl) (fun _ _ _ h => h) rfl hHeld ?yc6 ?rc6
            case yc6 => (intro wz hz; go_simp; first | done | with_reducible rfl)
            try simp only [Act.put, List.setIfInBounds_toArray, List.set_cons_zero, List.set_cons_succ]
            refine take_op (i := 7) (v := ?vc7) rfl (by kernel_rfl) (by kernel_rfl) (by kernel_rfl) (fun _ _ _ h => h) rfl hHeld ?yc7 ?rc7
            case yc7 => (intro wz hz; go_simp; first | done | with_reducible rfl)
            try simp only [Act.put, List.setIfInBounds_toArray, List.set_cons_zero, List.set_cons_succ]
            refine take_op (i := 8) (v := ?vc8) rfl (by kernel_rfl) (by kernel_rfl) (by kernel_rfl) (fun _ _ _ h => h) rfl hHeld ?yc8 ?rc8
            case yc8 => (intro wz hz; have hcz := CX.out wz hz 2 _ rfl; go_simp; first | done | with_reducible rfl)
            try simp only [Act.put, List.setIfInBounds_toArray, List.set_cons_zero, List.set_cons_succ]
            refine take_op (i := 9) (v := ?vc9) rfl (by kernel_rfl) (by kernel_rfl) (by kernel_rfl) (fun _ _ _ h => h) rfl hHeld ?yc9 ?rc9
            case yc9 => (intro wz hz; go_simp; first | done | with_reducible rfl)
            try simp only [Act.put, List.setIfInBounds_toArray, List.set_cons_zero, List.set_cons_succ]
            refine take_op (i := 10) (v := ?vc10) rfl (by kernel_rfl) (by kernel_rfl) (by kernel_rfl) (fun _ _ _ h => h) rfl hHeld ?yc10 ?rc10
            case yc10 => (intro wz hz; go_simp; first | done | with_reducible rfl)
            try simp only [Act.put, List.setIfInBounds_toArray, List.set_cons_zero, List.set_cons_succ]
            refine take_op (i := 11) (v := ?vc11) rfl (by kernel_rfl) (by kernel_rfl) (by kernel_rfl) (fun _ _ _ h => h) rfl hHeld ?yc11 ?rc11
            case yc11 => (intro wz hz; go_simp; first | done | with_reducible rfl)
            try simp only [Act.put, List.setIfInBounds_toArray, List.set_cons_zero, List.set_cons_succ]
            refine take_op (i := 12) (v := ?vc12) rfl (by kernel_rfl) (by kernel_rfl) (by kernel_rfl) (fun _ _ _ h => h) rfl hHeld ?yc12 ?rc12
            case yc12 => (intro wz hz; go_simp; first | done | with_reducible rfl)
            try simp only [Act.put, List.setIfInBounds_toArray, List.set_cons_zero, List.set_cons_succ]
            refine take_op (i := 13) (v := ?vc13) rfl (by kernel_rfl) (by kernel_rfl) (by kernel_rfl) (fun _ _ _ h => h) rfl hHeld ?yc13 ?rc13
            case yc13 => (intro wz hz; have hcz := CX.out wz hz 1 _ rfl; go_simp; first | done | with_reducible rfl)
            try simp only [Act.put, List.setIfInBounds_toArray, List.set_cons_zero, List.set_cons_succ]
            refine take_op (i := 14) (v := ?vc14) rfl (by kernel_rfl) (by kernel_rfl) (by kernel_rfl) (fun _ _ _ h => h) rfl hHeld ?yc14 ?rc14
            case yc14 => (intro wz hz; go_simp; first | done | with_reducible rfl)
            try simp only [Act.put, List.setIfInBounds_toArray, List.set_cons_zero, List.set_cons_succ]
            refine take_op (i := 15) (v := ?vc15) rfl (by kernel_rfl) (by kernel_rfl) (by kernel_rfl) (fun _ _ _ h => h) rfl hHeld ?yc15 ?rc15
            case yc15 => (intro wz hz; go_simp; first | done | with_reducible rfl)
            try simp only [Act.put, List.setIfInBounds_toArray, List.set_cons_zero, List.set_cons_succ]
            refine take_op (i := 16) (v := ?vc16) rfl (by kernel_rfl) (by kernel_rfl) (by kernel_rfl) (fun _ _ _ h => h) rfl hHeld ?yc16 ?rc16
            case yc16 => (intro wz hz; have hcz := CX.out wz hz 2 _ rfl; go_simp; first | done | with_reducible rfl)
            try simp only [Act.put, List.setIfInBounds_toArray, List.set_cons_zero, List.set_cons_succ]
            refine take_op (i := 17) (v := ?vc17) rfl (by kernel_rfl) (by kernel_rfl) (by kernel_rfl) (fun _ _ _ h => h) rfl hHeld ?yc17 ?rc17
            case yc17 => (intro wz hz; go_simp; first | done | with_reducible rfl)
            try simp only [Act.put, List.setIfInBounds_toArray, List.set_cons_zero, List.set_cons_succ]
            refine take_op (i := 18) (v := ?vc18) rfl (by kernel_rfl) (by kernel_rfl) (by kernel_rfl) (fun _ _ _ h => h) rfl hHeld ?yc18 ?rc18
            case yc18 => (intro wz hz; go_simp; first | done | with_reducible rfl)
            try simp only [Act.put, List.setIfInBounds_toArray, List.set_cons_zero, List.set_cons_succ]
            refine take_op (i := 19) (v := ?vc19) rfl (by kernel_rfl) (by kernel_rfl) (by kernel_rfl) (fun _ _ _ h => h) rfl hHeld ?yc19 ?rc19
            case yc19 => (intro wz hz; go_simp; first | done | with_reducible rfl)
            try simp only [Act.put, List.setIfInBounds_toArray, List.set_cons_zero, List.set_cons_succ]
            refine wpAnyH_done (by kernel_rfl) ?_ _
            refine NoPanic.normal ?_
            have HB8 : Hid (Below wr.heap.size wr _) := hHeld
            clear hHeld
            go_wp2_with fail
            go_meet
            case rel => exact ⟨rfl, rfl, rfl, rfl, rfl, rfl, HB8.out⟩
          case rest =>
            obtain ⟨rfl, rfl, rfl, rfl, rfl, rfl, hb8⟩ := hcut
            have hb9 : Below wr.heap.size wr wc.drew.drew.drew := hb8.drew.drew.drew
            clear hb8 HB7
            go_wp2_with fail
            refine (rturn_any sx.a 2 oka.1 oka.2 (by omega) (by omega) _).mono ?_
            rintro e w' ⟨rfl, rfl⟩
            simp only [Int.reduceToNat]
            go_wp2_with fail
            refine (rturn_any sx.a 13 oka.1 oka.2 (by omega) (by omega) _).mono ?_
            rintro e w' ⟨rfl, rfl⟩
            simp only [Int.reduceToNat]
            go_wp2_with fail
            refine (rturn_any sx.a 22 oka.1 oka.2 (by omega) (by omega) _).mono ?_
            rintro e w' ⟨rfl, rfl⟩
            simp only [Int.reduceToNat]
            go_wp2_with fail
            refine (three_any _ _ _ _).mono ?_
            rintro e w' ⟨rfl, rfl⟩
            generalize wc.drew.drew.drew = w9 at hb9 ⊢
            have c3 : w9.cell? ⟨g, 3, none⟩ = some (.int .u32 sx.d) := CX.out w9 hb9 3 _ rfl
            have z3 : w9.frozen? ⟨g, 3, none⟩ = false := (World.frozen?_of_block (w := wr) (hb9.block g hgl)).trans (hfr 3)
            go_upto_region 11 with fail
            rw [rndU_doc sx]
            obtain ⟨w10, hw10⟩ : ∃ w10, w10 = w9.setCell ⟨g, 3, none⟩ (.int .u32 ((sx.d + tt) % 4294967296)) := ⟨_, rfl⟩
            have s10 : w10.heap.size = w9.heap.size := by rw [hw10]; exact nblk_setCell _ _ _
            have hoth : ∀ (j : Nat) (u : Value), j ≠ 3 → (s8L sx)[j]? = some u → w10.cell? ⟨g, j, none⟩ = some u := fun j u hj hu => by
              rw [hw10, World.cell?_setCell_other]
              · exact CX.out w9 hb9 j u hu
              · intro e; injection e with _ e; exact hj e.symm
            have c10 : ∀ (j : Nat) (u : Value), ([.int .u32 sx.a, .int .u32 sx.b, .int .u32 sx.c, .int .u32 ((sx.d + tt) % 4294967296), .int .u32 sx.e, .int .u32 sx.f, .int .u32 sx.g] : List Value)[j]? = some u → w10.cell? ⟨g, 0 + j, none⟩ = some u := fun j u hu => by
              rw [Nat.zero_add]
              match j, hu with
              | 0, hu => exact hoth 0 u (by omega) hu
              | 1, hu => exact hoth 1 u (by omega) hu
              | 2, hu => exact hoth 2 u (by omega) hu
              | 3, hu =>
                have : Value.int .u32 ((sx.d + tt) % 4294967296) = u := by simpa using hu
                rw [hw10, ← this]; exact World.cell?_setCell_same' _ _ _ (by rw [c3]; rfl)
              | 4, hu => exact hoth 4 u (by omega) hu
              | 5, hu => exact hoth 5 u (by omega) hu
              | 6, hu => exact hoth 6 u (by omega) hu
              | j + 7, hu => simp at hu
            have hng : g ≠ g2 ∧ g ≠ w2.heap.size := hne g rfl
            have hwr9 := hb9.size
            have hk10 : ∀ j, j < wr.heap.size → j ≠ g → w10.heap[j]? = wr.heap[j]? := fun j hj hjg => by
              rw [hw10]; exact (blk_setCell_other _ _ _ _ hjg).trans (hb9.block j hj)
            have hbw10 : Below w.heap.size w w10 := hbw.trans ⟨by rw [hw10]; exact hb9.os, by rw [hw10]; exact hb9.tape, by rw [hw10]; exact hb9.output, by omega, fun j hj => hk10 j (by have := hbw.size; omega) (by omega)⟩
            rw [← hw10]
            clear hw10 c3 z3 hoth
            have hO : owns (w10.alloc (.cells #[.int .u32 ((tt + rndU sx) % 4294967296)] 152)) w.heap.size 152 (.slice (some ⟨w10.heap.size, 0, none⟩) 1 1) [.int .u32 ((tt + rndU sx) % 4294967296)] :=
              ⟨rfl, Or.inr ⟨w10.heap.size, 1, _, rfl, by have := hbw10.size; omega, blk_alloc_new _ _, Nat.le_refl _, by unfold maxLen; omega, rfl, rfl⟩⟩
            have b11 : Below w10.heap.size w10 (w10.alloc (.cells #[.int .u32 ((tt + rndU sx) % 4294967296)] 152)) := (Below.refl _ _).alloc (Nat.le_refl _) _
            obtain ⟨v12, w12, r12, o12, g12, a12⟩ := words_append_run _ w.heap.size _ _ hO g 0 7 cg _ rfl (fun j u hu => (b11.cell (p := ⟨g, 0 + j, none⟩) (show g < w10.heap.size by omega)).trans (c10 j u hu)) (fun u hu => by
              simp only [List.mem_cons, List.not_mem_nil, or_false] at hu
              rcases hu with rfl | rfl | rfl | rfl | rfl | rfl | rfl <;> rfl) (by omega) (by simp) (by simp; have := hbw10.size; omega)
            have hsl : ∀ wz : World, (Instr.slice 153 (.slice (some ⟨g, 0, none⟩) 8 cg) none (some (.int .i64 7)) none).run Tryd.prog wz = .ok (.slice (some ⟨g, 0, none⟩) 7 cg) wz := fun wz => run_slice_to7 g cg (by have : (s8L sx).length ≤ cg := hcg; have l8 : (s8L sx).length = 8 := rfl; omega) wz
            have hk12 : ∀ j, j < w10.heap.size → w12.heap[j]? = w10.heap[j]? := fun j hj => (g12.block j (by simp; omega) (fun e => absurd e (by simp [Value.ownBlock]; omega))).trans (blk_alloc_lt _ _ _ hj)
            have s12 : w10.heap.size < w12.heap.size := by have := g12.size; simp at this; omega
            have BL : Hid (blkAt w w3 w12 g2 w2.heap.size v12 f s0 (k + 1)) := (show blkAt w w3 w12 g2 w2.heap.size v12 f s0 (k + 1) from by
              have s3 := S3.out
              have e1 : rndTo (wAt f 64) s0 (k + 1) = rnd sx (kAt k) (wAt f 64 k) := by rw [rndTo, ← HSX.out]
              rw [HTT.out] at o12
              refine ⟨by rw [e1]; exact o12, fun j hj => ?_, fun i hi => ?_, fun i hi => ?_, hbw10.trans ⟨g12.os, g12.tape, g12.output, by omega, fun j hj => hk12 j (by have := hbw10.size; omega)⟩, by omega⟩
              · have hj2 : w10.heap.size ≤ j := by
                  rcases a12 with h | h
                  · rw [hj] at h
                    have : j = w10.heap.size := by simpa [Value.ownBlock] using h
                    omega
                  · rw [hj] at h
                    have : j = w10.heap.size + 1 := by simpa using h
                    omega
                exact ⟨by omega, by omega⟩
              · rw [World.cell?_of_block (w := wr) ((hk12 g2 (by omega)).trans (hk10 g2 (by omega) (fun h => hng.1 h.symm)))]; exact HCW.out i hi
              · rw [World.cell?_of_block (w := wr) ((hk12 w2.heap.size (by omega)).trans (hk10 w2.heap.size (by omega) (fun h => hng.2 h.symm)))]; exact HCK.out i hi)
            have hv12 : ∃ g c, v12 = .slice (some ⟨g, 0, none⟩) 8 c := by
              obtain ⟨g, c, h, _⟩ := o12.shape (by simp)
              exact ⟨g, c, h⟩
            obtain ⟨g', c', rfl⟩ := hv12
            have R12 : Hid _ := r12
            clear hO b11 r12 o12 g12 a12 hk12 s12 c10 hng hk10 hbw10 s10
            go_wp2_with (first | (at_builtin; refine wpList_append_run rfl (.tmp 103) (.tmp 105) _ rfl rfl rfl R12.out ?_; try simp only [Act.put, List.setIfInBounds_toArray, List.set_cons_zero, List.set_cons_succ]; clear R12))
            go_light
            exact ⟨⟨k + 1, by omega, by go_num, BL.out⟩, by simp [intOf]; omega⟩
    · obtain rfl : k = 64 := by omega
      have p1 : ¬ ((64 : Nat) : Int) < 64 := by omega
      obtain ⟨S, hS⟩ : ∃ S, S = rndTo (wAt f 64) s0 64 := ⟨_, rfl⟩
      rw [← hS] at hox
      have HS : Hid (S = rndTo (wAt f 64) s0 64) := (show S = rndTo (wAt f 64) s0 64 from hS)
      clear hS
      obtain ⟨g, cg, rfl, hgB, hgl, hcg, _, hcx, hfr⟩ := hox.shape (by simp [s8L])
      have l8 : (s8L S).length = 8 := rfl
      rw [l8] at hox ⊢
      obtain ⟨F, hrow, hF, hn8, hmx, _⟩ := owns_row hox
      have hFi : ∀ i, i < 8 → F i = .int .u32 (S.at i) := fun i hi => by
        have : i = 0 ∨ i = 1 ∨ i = 2 ∨ i = 3 ∨ i = 4 ∨ i = 5 ∨ i = 6 ∨ i = 7 := by omega
        rcases this with rfl | rfl | rfl | rfl | rfl | rfl | rfl | rfl <;> exact hF _ _ rfl
      have hold : ∀ i, i < 8 → w.cell? ⟨ob, oo + i, none⟩ = some (.int .u32 (s0.at i)) := fun i hi => by
        have : i = 0 ∨ i = 1 ∨ i = 2 ∨ i = 3 ∨ i = 4 ∨ i = 5 ∨ i = 6 ∨ i = 7 := by omega
        rcases this with rfl | rfl | rfl | rfl | rfl | rfl | rfl | rfl <;> exact ho _ _ rfl
      have HR : Hid (wr.rowIs g 152 cg F) := (show wr.rowIs g 152 cg F from hrow)
      have HW : Hid (Below w.heap.size w wr) := (show Below w.heap.size w wr from hbw)
      clear hrow hbw hox hcx hfr hF s3 hcw hck hne hsz
      go_wp2
      go_loopw [14] (fun i wq => ∃ j : Nat, j ≤ 8 ∧ i = .int .i64 j ∧ wq.rowIs g 152 cg (fun i => if i < j then .int .u32 ((s0.at i + S.at i) % 4294967296) else F i) ∧ Below w.heap.size w wq) (fun i _ => 8 - (intOf i).toNat)
      case atStart => exact ⟨0, by omega, rfl, HR.out.congr (fun i _ => by rw [if_neg (by omega)]), HW.out⟩
      case round =>
        obtain ⟨j, hj, rfl, hrow, hbq⟩ := hrel
        clear HR HW
        have p0 : (0 : Int) ≤ (j : Int) := by omega
        by_cases hlt2 : j < 8
        · have p2 : (j : Int) < 8 := by omega
          have hjg : j < cg := by omega
          have cj : wr.cell? ⟨g, j, none⟩ = some (.int .u32 (S.at j)) := by rw [hrow.cell hjg, if_neg (by omega), hFi j hlt2]
          have zj := World.rowIs.frozen hrow j
          have oj : wr.cell? ⟨ob, oo + j, none⟩ = some (.int .u32 (s0.at j)) := (hbq.cell (p := ⟨ob, oo + j, none⟩) hob).trans (hold j hlt2)
          have cjd : wr.drew.cell? ⟨g, j, none⟩ = some (.int .u32 (S.at j)) := cj
          have zjd : wr.drew.frozen? ⟨g, j, none⟩ = false := zj
          have ojd : wr.drew.cell? ⟨ob, oo + j, none⟩ = some (.int .u32 (s0.at j)) := oj
          have p3 : (j : Int) < (cg : Int) := by omega
          have NX : Hid (∀ x : Int, x = (s0.at j + S.at j) % 4294967296 → (wr.drew.setCell ⟨g, j, none⟩ (.int .u32 x)).rowIs g 152 cg (fun i => if i < j + 1 then .int .u32 ((s0.at i + S.at i) % 4294967296) else F i) ∧ Below w.heap.size w (wr.drew.setCell ⟨g, j, none⟩ (.int .u32 x))) := (show ∀ x : Int, x = (s0.at j + S.at j) % 4294967296 → (wr.drew.setCell ⟨g, j, none⟩ (.int .u32 x)).rowIs g 152 cg (fun i => if i < j + 1 then .int .u32 ((s0.at i + S.at i) % 4294967296) else F i) ∧ Below w.heap.size w (wr.drew.setCell ⟨g, j, none⟩ (.int .u32 x)) from fun x hx => by
            refine ⟨(World.rowIs.set (w := wr.drew) hrow j _).congr fun i hi => ?_, hbq.drew.setCell hgB _⟩
            subst hx
            by_cases e : i = j
            · subst e; simp
            · by_cases e2 : i < j
              · rw [if_neg e, if_pos e2, if_pos (by omega)]
              · rw [if_neg e, if_neg e2, if_neg (by omega)])
          clear hrow cj zj oj hbq
          go_upto_region 15 with fail
          refine wp_region_noPanic ?_
          refine wp_region_held_drew (S := fun w' => True) (by kernel_rfl) trivial (fun hHeld => ?_)
          refine take_op (i := 0) (v := ?vz0) rfl (by kernel_rfl) (by kernel_rfl) (by kernel_rfl) (fun _ _ _ h => h) rfl hHeld ?yz0 ?rz0
          case yz0 => (intro wz hz; go_simp; first | done | with_reducible rfl)
          try simp only [Act.put, List.setIfInBounds_toArray, List.set_cons_zero, List.set_cons_succ]
          refine take_op (i := 1) (v := ?vz1) rfl (by kernel_rfl) (by kernel_rfl) (by kernel_rfl) (fun _ _ _ h => h) rfl hHeld ?yz1 ?rz1
          case yz1 => (intro wz hz; go_simp; first | done | with_reducible rfl)
          try simp only [Act.put, List.setIfInBounds_toArray, List.set_cons_zero, List.set_cons_succ]
          refine take_op (i := 2) (v := ?vz2) rfl (by kernel_rfl) (by kernel_rfl) (by kernel_rfl) (fun _ _ _ h => h) rfl hHeld ?yz2 ?rz2
          case yz2 => (intro wz hz; go_simp; first | done | with_reducible rfl)
          try simp only [Act.put, List.setIfInBounds_toArray, List.set_cons_zero, List.set_cons_succ]
          refine take_op (i := 3) (v := ?vz3) rfl (by kernel_rfl) (by kernel_rfl) (by kernel_rfl) (fun _ _ _ h => h) rfl hHeld ?yz3 ?rz3
          case yz3 => (intro wz hz; go_simp; first | done | with_reducible rfl)
          try simp only [Act.put, List.setIfInBounds_toArray, List.set_cons_zero, List.set_cons_succ]
          refine take_op (i := 4) (v := ?vz4) rfl (by kernel_rfl) (by kernel_rfl) (by kernel_rfl) (fun _ _ _ h => h) rfl hHeld ?yz4 ?rz4
          case yz4 => (intro wz hz; go_simp; first | done | with_reducible rfl)
          try simp only [Act.put, List.setIfInBounds_toArray, List.set_cons_zero, List.set_cons_succ]
          refine take_op (i := 6) (v := ?vz6) rfl (by kernel_rfl) (by kernel_rfl) (by kernel_rfl) (fun _ _ _ h => h) rfl hHeld ?yz6 ?rz6
          case yz6 => (intro wz hz; go_simp; first | done | with_reducible rfl)
          try simp only [Act.put, List.setIfInBounds_toArray, List.set_cons_zero, List.set_cons_succ]
          refine take_op (i := 7) (v := ?vz7) rfl (by kernel_rfl) (by kernel_rfl) (by kernel_rfl) (fun _ _ _ h => h) rfl hHeld ?yz7 ?rz7
          case yz7 => (intro wz hz; go_simp; first | done | with_reducible rfl)
          try simp only [Act.put, List.setIfInBounds_toArray, List.set_cons_zero, List.set_cons_succ]
          refine take_op (i := 8) (v := ?vz8) rfl (by kernel_rfl) (by kernel_rfl) (by kernel_rfl) (fun _ _ _ h => h) rfl hHeld ?yz8 ?rz8
          case yz8 => (intro wz hz; go_simp; first | done | with_reducible rfl)
          try simp only [Act.put, List.setIfInBounds_toArray, List.set_cons_zero, List.set_cons_succ]
          refine take_two (i := 5) (j := 9) (u := .int .u32 (S.at j)) (v := .int .u32 (s0.at j)) rfl rfl (by kernel_rfl) rfl rfl trivial (by go_simp; first | done | with_reducible rfl) (by go_simp; first | done | with_reducible rfl) ?_ ?_
          · try simp only [Act.put, List.setIfInBounds_toArray, List.set_cons_zero, List.set_cons_succ]
            refine take_run (i := 9) (v := .int .u32 (s0.at j)) rfl (by kernel_rfl) rfl (by go_simp; first | done | with_reducible rfl) trivial ?_
            try simp only [Act.put, List.setIfInBounds_toArray, List.set_cons_zero, List.set_cons_succ]
            refine take_op (i := 10) (v := ?vya10) rfl (by kernel_rfl) (by kernel_rfl) (by kernel_rfl) (fun _ _ _ h => h) rfl hHeld ?yya10 ?rya10
            case yya10 => (intro wz hz; go_simp; first | done | with_reducible rfl)
            try simp only [Act.put, List.setIfInBounds_toArray, List.set_cons_zero, List.set_cons_succ]
            refine take_op (i := 11) (v := ?vya11) rfl (by kernel_rfl) (by kernel_rfl) (by kernel_rfl) (fun _ _ _ h => h) rfl hHeld ?yya11 ?rya11
            case yya11 => (intro wz hz; go_simp; first | done | with_reducible rfl)
            try simp only [Act.put, List.setIfInBounds_toArray, List.set_cons_zero, List.set_cons_succ]
            refine take_one (i := 12) rfl (by kernel_rfl) rfl (fun K hK => ?_)
            go_simp
            refine hK.out _ _ trivial (fun hHeld => ?_)
            clear hK K hHeld
            try simp only [Act.put, List.setIfInBounds_toArray, List.set_cons_zero, List.set_cons_succ]
            refine wpAnyH_done (by kernel_rfl) ?_ _
            refine NoPanic.normal ?_
            go_wp2
            go_light
            exact ⟨⟨j + 1, by omega, by go_num, (NX.out _ (by rw [Int.add_comm])).1, (NX.out _ (by rw [Int.add_comm])).2⟩, by simp [intOf]; omega⟩
          · try simp only [Act.put, List.setIfInBounds_toArray, List.set_cons_zero, List.set_cons_succ]
            refine take_run (i := 5) (v := .int .u32 (S.at j)) rfl (by kernel_rfl) rfl (by go_simp; first | done | with_reducible rfl) trivial ?_
            try simp only [Act.put, List.setIfInBounds_toArray, List.set_cons_zero, List.set_cons_succ]
            refine take_op (i := 10) (v := ?vyb10) rfl (by kernel_rfl) (by kernel_rfl) (by kernel_rfl) (fun _ _ _ h => h) rfl hHeld ?yyb10 ?ryb10
            case yyb10 => (intro wz hz; go_simp; first | done | with_reducible rfl)
            try simp only [Act.put, List.setIfInBounds_toArray, List.set_cons_zero, List.set_cons_succ]
            refine take_op (i := 11) (v := ?vyb11) rfl (by kernel_rfl) (by kernel_rfl) (by kernel_rfl) (fun _ _ _ h => h) rfl hHeld ?yyb11 ?ryb11
            case yyb11 => (intro wz hz; go_simp; first | done | with_reducible rfl)
            try simp only [Act.put, List.setIfInBounds_toArray, List.set_cons_zero, List.set_cons_succ]
            refine take_one (i := 12) rfl (by kernel_rfl) rfl (fun K hK => ?_)
            go_simp
            refine hK.out _ _ trivial (fun hHeld => ?_)
            clear hK K hHeld
            try simp only [Act.put, List.setIfInBounds_toArray, List.set_cons_zero, List.set_cons_succ]
            refine wpAnyH_done (by kernel_rfl) ?_ _
            refine NoPanic.normal ?_
            go_wp2
            go_light
            exact ⟨⟨j + 1, by omega, by go_num, (NX.out _ (by rw [Int.add_comm])).1, (NX.out _ (by rw [Int.add_comm])).2⟩, by simp [intOf]; omega⟩
        · obtain rfl : j = 8 := by omega
          have p2 : ¬ ((8 : Nat) : Int) < 8 := by omega
          have OW : Hid (owns wr w.heap.size 152 (.slice (some ⟨g, 0, none⟩) 8 cg) ((List.range 8).map fun i => .int .u32 ((s0.at i + S.at i) % 4294967296))) := (show owns wr w.heap.size 152 (.slice (some ⟨g, 0, none⟩) 8 cg) ((List.range 8).map fun i => .int .u32 ((s0.at i + S.at i) % 4294967296)) from by
            have := owns_of_row (n := 8) hrow hn8 hmx hgB
            exact this)
          have HQ : Hid (Below w.heap.size w wr) := (show Below w.heap.size w wr from hbq)
          clear hrow hbq
          go_wp2
          go_ret
          exact ⟨_, rfl, by rw [← HS.out]; exact OW.out, HQ.out⟩
end Go.Proofs.YtgchnobifidjcaaDoor

/- The document's answer: All parts, one behind the other. -/
namespace Go.Proofs.YtgchnobifidjcaaDoor
set_option linter.unusedSimpArgs false
set_option linter.unusedVariables false
open Go.RowKit Go.Deep

set_option maxHeartbeats 1000000 in
theorem rall_any (n : Nat) (v : Value) (ps : Nat → List Int) (w : World) (hp : anyParts w v n ps) (hl : ∀ i, i ≤ n → (flatTo ps i).length ≤ 1000000000) :
    Calls Tryd.prog 108 #[v] w fun e w' => ∃ v', e = .returned v' ∧ newBytes w' w.heap.size v' (flatTo ps n) ∧ Below w.heap.size w w' := by
  obtain ⟨a, cap, rfl, hnm, hcell⟩ := hp.open
  clear hp
  have hn' : (n : Int) ≤ 9223372036854775807 := by unfold maxLen at hnm; omega
  go_enter Tryd.func108, Tryd.ntmps108
  go_wp2
  go_loopw [3, 4] (fun v i wr => ∃ k : Nat, k ≤ n ∧ i = .int .i64 k ∧ newBytes wr w.heap.size v (flatTo ps k) ∧ Below w.heap.size w wr) (fun _ i _ => n - (intOf i).toNat)
  case atStart => exact ⟨0, by omega, rfl, newBytes.nil _ _, Below.refl _ _⟩
  case round =>
    obtain ⟨k, hk, rfl, hown, hb⟩ := hrel
    have hsz := hb.size
    by_cases hlt : k < n
    · obtain ⟨qb, qo, u, rfl, hq, hc, hu⟩ := hcell k hlt
      have b0 : (0 : Int) ≤ (k : Int) := by omega
      have b1 : (k : Int) < (n : Int) := by omega
      have hlk := hl (k + 1) (by omega)
      rw [flatTo, List.length_append] at hlk
      rw [← hb.cell (p := ⟨qb, qo + k, none⟩) hq] at hc
      obtain ⟨r, w2, hr, ho2, hg2, _⟩ := any_append_run wr w.heap.size u3 u _ (ps k) hown (hu.below hb (Nat.le_refl _)) (by omega) hsz
      have hB2 : Below w.heap.size w w2 := hb.trans (below_grown hg2 (fun j hj => (hown.block j hj).1) hsz)
      obtain ⟨ua, uc, rfl, hum⟩ := hu.slice
      have HO : Hid _ := ho2
      clear hu hown ho2 hl hg2 hcell
      go_wp2_with (first | (at_builtin; refine wpList_append_run rfl _ _ _ rfl rfl rfl hr ?_))
      exact ⟨⟨k + 1, by omega, by simp, by rw [flatTo]; exact HO.out, hB2⟩, by simp only [intOf]; omega⟩
    · obtain rfl : k = n := by omega
      clear hl hcell
      have HO : Hid _ := hown
      clear hown
      go_wp2
      go_ret
      exact ⟨_, rfl, HO.out, hb⟩
end Go.Proofs.YtgchnobifidjcaaDoor

/- The document's answer: the message of some bytes. -/
namespace Go.Proofs.YtgchnobifidjcaaDoor
set_option linter.unusedSimpArgs false
set_option linter.unusedVariables false
open Go.RowKit Go.Deep

/-- the bytes of a number, the lowest k of them, the highest first. -/
def lastI (N : Int) : Nat → List Int
  | 0 => []
  | k + 1 => (N / 256 ^ k % 256) :: lastI N k
theorem lastI_length (N : Int) : ∀ k, (lastI N k).length = k
  | 0 => rfl
  | k + 1 => by rw [lastI, List.length_cons, lastI_length N k]
theorem lastI_len (n : Nat) : lastI (8 * (n : Int)) 8 = lenBytes n := by
  simp [lastI, lenBytes, List.range, List.range.loop]
def slen : Value → Nat
  | .slice _ n _ => n
  | _ => 0
theorem newBytes.slen {w : World} {B : Nat} {v : Value} {l : List Int} (h : newBytes w B v l) : ∃ a c, v = .slice a l.length c := by
  obtain ⟨a, c, h, _⟩ := h.is.slice; exact ⟨a, c, h⟩
theorem newBytes.fresh1 (w : World) (B : Nat) (x : Int) (h0 : 0 ≤ x) (h1 : x ≤ 255) (hB : B ≤ w.heap.size) : newBytes (w.alloc (.cells #[.int .u8 x] 5)) B (.slice (some ⟨w.heap.size, 0, none⟩) 1 1) [x] :=
  ⟨⟨rfl, Or.inr ⟨w.heap.size, 1, #[.int .u8 x], rfl, hB, blk_alloc_new _ _, Nat.le_refl _, by unfold maxLen; omega, rfl, rfl⟩⟩, fun i => by cases i <;> simp <;> omega⟩
theorem pad_rem (L j : Nat) (h : j < (119 - L % 64) % 64) : (L + 1 + j) % 64 ≠ 56 := by omega
theorem pad_end (L : Nat) : (L + 1 + (119 - L % 64) % 64) % 64 = 56 := by omega
def padTo (l : List Int) (j : Nat) : List Int := l ++ [128] ++ List.replicate j 0
theorem padTo_length (l : List Int) (j : Nat) : (padTo l j).length = l.length + 1 + j := by simp [padTo]; omega
theorem padTo_succ (l : List Int) (j : Nat) : padTo l (j + 1) = padTo l j ++ [0] := by rw [padTo, padTo, List.replicate_succ', ← List.append_assoc]
set_option maxHeartbeats 1000000 in
set_option maxRecDepth 100000 in
theorem rmsg_any (u : Value) (l : List Int) (w : World) (hu : isBytes w u l) (hl : l.length ≤ 1000000000) :
    Calls Tryd.prog 107 #[u] w fun e w' => ∃ v', e = .returned v' ∧ newBytes w' w.heap.size v' (msg l) ∧ Below w.heap.size w w' := by
  obtain ⟨r, w2, hr, ho2, hb2⟩ := bytes_copy_run w u l hu (by omega)
  have hs2 := hb2.size
  obtain ⟨v3, w3, hr3, ho3, hb3⟩ := byte_append_run w2 w.heap.size r l 128 (by omega) (by omega) ho2 (by omega) hs2
  obtain ⟨ua, uc, rfl, hum⟩ := hu.slice
  have HO3 : Hid (newBytes w3 w.heap.size v3 (padTo l 0)) := (show newBytes w3 w.heap.size v3 (padTo l 0) from by rw [padTo, List.replicate_zero, List.append_nil]; exact ho3)
  have HB3 : Hid (Below w.heap.size w w3) := (show Below w.heap.size w w3 from hb2.trans hb3)
  clear ho3 hb3 hb2 ho2 hu hs2
  have hl' : (l.length : Int) ≤ 1000000000 := by omega
  go_enter Tryd.func107, Tryd.ntmps107
  go_wp2_with (first | (at_builtin; refine wpList_append_run rfl _ _ _ rfl rfl rfl hr ?_) | (at_builtin; refine wpList_append_run rfl _ _ _ rfl rfl rfl hr3 ?_))
  clear hr hr3
  go_loopw [3] (fun v wr => ∃ j : Nat, j ≤ (119 - l.length % 64) % 64 ∧ newBytes wr w.heap.size v (padTo l j) ∧ Below w.heap.size w wr) (fun v _ => l.length + 1 + (119 - l.length % 64) % 64 - slen v)
  case atStart => exact ⟨0, by omega, HO3.out, HB3.out⟩
  case round =>
    obtain ⟨j, hj, hown, hb⟩ := hrel
    have hs := hb.size
    have hj2 : (j : Int) ≤ 64 := by omega
    by_cases hlt : j < (119 - l.length % 64) % 64
    · have hne := pad_rem l.length j hlt
      have hne' : ((l.length : Int) + 1 + (j : Int)) % 64 ≠ 56 := by omega
      obtain ⟨v4, w4, hr4, ho4, hb4⟩ := byte_append_run wr w.heap.size _ _ 0 (by omega) (by omega) hown (by rw [padTo_length]; omega) hs
      rw [← padTo_succ] at ho4
      obtain ⟨a3, c3, rfl⟩ := hown.slen
      obtain ⟨a4, c4, rfl⟩ := ho4.slen
      have HO4 : Hid _ := ho4
      clear ho4 hown hne
      rw [padTo_length] at hr4 ⊢
      go_wp2_with (first | (at_builtin; refine wpList_append_run rfl _ _ _ rfl rfl rfl hr4 ?_))
      exact ⟨⟨j + 1, by omega, HO4.out, hb.trans hb4⟩, by simp only [slen, padTo_length]; omega⟩
    · have hje : j = (119 - l.length % 64) % 64 := by omega
      have hne : ((l.length : Int) + 1 + (j : Int)) % 64 = 56 := by omega
      have HJ : Hid (j = (119 - l.length % 64) % 64) := hje
      clear hje hlt hj
      obtain ⟨a3, c3, rfl⟩ := hown.slen
      have HM : Hid _ := hown
      clear hown HO3 HB3
      rw [padTo_length] at HM ⊢
      go_wp2
      clear hne
      go_loopw [4, 5, 6] (fun nv lv i wq => ∃ k : Nat, k ≤ 8 ∧ i = .int .i64 k ∧ nv = .int .u64 (8 * (l.length : Int) / 256 ^ k) ∧ isBytes wq lv (lastI (8 * (l.length : Int)) k) ∧ newBytes wq w.heap.size (.slice a3 (l.length + 1 + j) c3) (padTo l j) ∧ Below w.heap.size w wq) (fun _ _ i _ => 8 - (intOf i).toNat)
      case atStart => exact ⟨0, by omega, rfl, by simp, Or.inl ⟨rfl, rfl⟩, HM.out, hb⟩
      case round =>
        clear hb hs HM
        obtain ⟨k, hk, rfl, rfl, hlast, hown, hb⟩ := hrel
        have hs := hb.size
        by_cases hltk : k < 8
        · have hL1 : lastI (8 * (l.length : Int)) (k + 1) = [8 * (l.length : Int) / 256 ^ k % 256] ++ lastI (8 * (l.length : Int)) k := rfl
          have hN1 : 8 * (l.length : Int) / 256 ^ (k + 1) = 8 * (l.length : Int) / 256 ^ k / 256 := by
            rw [Int.pow_succ, Int.ediv_ediv_of_nonneg (Int.pow_nonneg (by omega))]
          have hN0 : 0 ≤ 8 * (l.length : Int) / 256 ^ k := Int.ediv_nonneg (by omega) (Int.pow_nonneg (by omega))
          have hN2 : 8 * (l.length : Int) / 256 ^ k ≤ 8000000000 := Int.le_trans (Int.ediv_le_self _ (by omega)) (by omega)
          have HL1 : Hid _ := hL1
          have HN1 : Hid _ := hN1
          clear hL1 hN1
          generalize 8 * (l.length : Int) / 256 ^ k = N at *
          have hba : Below wr.heap.size wr (wr.alloc (.cells #[.int .u8 (N % 256)] 5)) := (Below.refl _ _).alloc (Nat.le_refl _) _
          obtain ⟨q, w5, hr5, ho5, hg5, _⟩ := bytes_append_run (wr.alloc (.cells #[.int .u8 (N % 256)] 5)) wr.heap.size _ u5 [N % 256] _ (newBytes.fresh1 wr wr.heap.size (N % 256) (by omega) (by omega) (Nat.le_refl _)) (hlast.below hba (Nat.le_refl _)) (by rw [lastI_length]; simp; omega) (by simp)
          have hb5 : Below wr.heap.size wr w5 := hba.trans (below_grown hg5 (fun j hj => by have : wr.heap.size = j := by simpa [Value.ownBlock] using hj
                                                                                            omega) (by simp))
          have HO5 : Hid (isBytes w5 q (lastI (8 * (l.length : Int)) (k + 1))) := by
            rw [HL1.out]
            exact ho5.is
          have HM5 : Hid (newBytes w5 w.heap.size (.slice a3 (l.length + 1 + j) c3) (padTo l j)) := hown.below hb5 (Nat.le_refl _)
          have HB5 : Hid (Below w.heap.size w w5) := hb.trans (hb5.mono hs)
          obtain ⟨la, lc, rfl, _⟩ := hlast.slice
          clear ho5 hg5 hlast hown hb hba hb5
          go_wp2_with (first | (at_builtin; refine wpList_append_run rfl _ _ _ rfl rfl rfl hr5 ?_))
          exact ⟨⟨k + 1, by omega, by simp, by rw [HN1.out], HO5.out, HM5.out, HB5.out⟩, by simp only [intOf]; omega⟩
        · obtain rfl : k = 8 := by omega
          obtain ⟨q, w5, hr5, ho5, hg5, _⟩ := bytes_append_run wr w.heap.size _ u5 _ _ hown hlast (by rw [lastI_length, padTo_length]; have := HJ.out; omega) hs
          have HB5 : Hid (Below w.heap.size w w5) := hb.trans (below_grown hg5 (fun j hj => (hown.block j hj).1) hs)
          have HO5 : Hid (newBytes w5 w.heap.size q (msg l)) := by
            rw [lastI_len] at ho5
            have e : msg l = padTo l j ++ lenBytes l.length := by
              rw [msg, ← HJ.out, padTo]; simp
            rw [e]; exact ho5
          obtain ⟨la, lc, rfl, _⟩ := hlast.slice
          clear ho5 hg5 hlast hown hb
          go_wp2_with (first | (at_builtin; refine wpList_append_run rfl _ _ _ rfl rfl rfl hr5 ?_))
          go_ret
          exact ⟨_, rfl, HO5.out, HB5.out⟩
end Go.Proofs.YtgchnobifidjcaaDoor

/- The document's SHA-256: Sum. -/
namespace Go.Proofs.YtgchnobifidjcaaDoor
set_option linter.unusedSimpArgs false
set_option linter.unusedVariables false
open Go.RowKit Go.Deep

def s8V (v : Nat → Int) : S8 := ⟨v 0, v 1, v 2, v 3, v 4, v 5, v 6, v 7⟩
def wordsL (v : Nat → Int) : List Value := (List.range 8).map fun i => .int .u32 (v i)
theorem s8L_V (v : Nat → Int) : s8L (s8V v) = wordsL v := rfl
theorem s8V_at (v : Nat → Int) (i : Nat) (h : i < 8) : (s8V v).at i = v i := by
  have : i = 0 ∨ i = 1 ∨ i = 2 ∨ i = 3 ∨ i = 4 ∨ i = 5 ∨ i = 6 ∨ i = 7 := by omega
  rcases this with rfl | rfl | rfl | rfl | rfl | rfl | rfl | rfl <;> rfl
theorem wordsAt_ok (l : List Int) : ∀ k i, i < 8 → okW (wordsAt l k i)
  | 0, i, h => by
    have : i = 0 ∨ i = 1 ∨ i = 2 ∨ i = 3 ∨ i = 4 ∨ i = 5 ∨ i = 6 ∨ i = 7 := by omega
    rcases this with rfl | rfl | rfl | rfl | rfl | rfl | rfl | rfl <;> (unfold okW wordsAt firstI S8.at; decide)
  | k + 1, i, h => by
    unfold okW; rw [wordsAt, takeI]; omega
theorem okS_words (l : List Int) (k : Nat) : okS (s8V (wordsAt l k)) :=
  ⟨wordsAt_ok l k 0 (by omega), wordsAt_ok l k 1 (by omega), wordsAt_ok l k 2 (by omega), wordsAt_ok l k 3 (by omega), wordsAt_ok l k 4 (by omega), wordsAt_ok l k 5 (by omega), wordsAt_ok l k 6 (by omega), wordsAt_ok l k 7 (by omega)⟩
theorem words_next (l : List Int) (k : Nat) : ((List.range 8).map fun i => Value.int .u32 (((s8V (wordsAt l k)).at i + (rndTo (wAt (fun i => l.getD (64 * k + i) 0) 64) (s8V (wordsAt l k)) 64).at i) % 4294967296)) = wordsL (wordsAt l (k + 1)) := by
  unfold wordsL
  refine List.map_congr_left fun i hi => ?_
  have h8 : i < 8 := List.mem_range.1 hi
  rw [wordsAt, takeI, s8V_at _ i h8]; rfl
theorem words_cell {w : World} {B g c : Nat} {v : Nat → Int} (h : owns w B 152 (.slice (some ⟨g, 0, none⟩) 8 c) (wordsL v)) (i : Nat) (hi : i < 8) : w.cell? ⟨g, i, none⟩ = some (.int .u32 (v i)) := by
  obtain ⟨g', c', he, _, _, _, _, hc, _⟩ := h.shape (by simp [wordsL])
  obtain ⟨rfl, _⟩ : g = g' ∧ True := by
    have : g = g' := by simp at he; exact he.1
    exact ⟨this, trivial⟩
  refine hc i _ ?_
  unfold wordsL
  rw [List.getElem?_map, List.getElem?_range hi]; rfl
section
variable {P : Program}
/-- x[m:n]. -/
theorem run_slice_two (t e : TypeId) (b o len cap m n : Nat) (hu : P.underlying t = some (.slice e)) (hs : (P.info? e).map (·.size) = some 1) (hmn : m < n) (hm : n ≤ cap) (x y : Int) (hx : x = m) (hy : y = n) (w : World) :
    (Instr.slice t (.slice (some ⟨b, o, none⟩) len cap) (some (.int .i64 x)) (some (.int .i64 y)) none).run P w = .ok (.slice (some ⟨b, o + m, none⟩) (n - m) (cap - m)) w := by
  subst hx hy
  cases hq : P.info? e with
  | none => simp [hq] at hs
  | some i =>
    have hi : i.size = 1 := by simpa [hq] using hs
    have h0 : (0 : Int) ≤ (n : Int) ∧ (n : Int) ≤ (cap : Int) := by omega
    have h1 : (0 : Int) ≤ (m : Int) ∧ (m : Int) ≤ (n : Int) := by omega
    have h2 : m ≤ n := by omega
    have h3 : ¬ cap = m := by omega
    simp [Instr.slice, Instr.sliceBounds, Instr.sliceBound, asIntOf, run_underlying hu, sizeOf, typeInfo, hq, hi, h0, h1, h2, h3, hm, Addr.add_mid]
end
theorem owns_lower {w : World} {B C e : Nat} {v : Value} {xs : List Value} (h : owns w B e v xs) (hC : C ≤ B) : owns w C e v xs := by
  obtain ⟨hl, h | ⟨g, cap, cur, he, hB, hb, hc, hm, hs, ht⟩⟩ := h
  · exact ⟨hl, Or.inl h⟩
  · exact ⟨hl, Or.inr ⟨g, cap, cur, he, by omega, hb, hc, hm, hs, ht⟩⟩
set_option maxHeartbeats 4000000 in
set_option maxRecDepth 100000 in
/-- THE DOCUMENT'S Sum, OF ANY PARTS. -/
theorem rsum_any (n : Nat) (v : Value) (ps : Nat → List Int) (w : World) (hp : anyParts w v n ps) (hl : ∀ i, i ≤ n → (flatTo ps i).length ≤ 1000000000) :
    Calls Tryd.prog 92 #[v] w fun e w' => e = .returned (.agg (rowV 32 fun i => .int .u8 (sumI (flatTo ps n) i))) ∧ Below w.heap.size w w' := by
  have hi32 : (Tryd.prog.info? 32).map (·.size) = some 32 := by kernel_rfl
  have r0 : (w.alloc (.cells (Array.replicate 32 (.int .u8 0)) 32)).rowIs w.heap.size 32 32 (fun _ => .int .u8 0) := rowIs_zero w (Array.replicate 32 (.int .u8 0)) 32 32 (.int .u8 0) rfl
  obtain ⟨wb, hwb⟩ : ∃ wb, wb = (w.alloc (.cells (Array.replicate 32 (.int .u8 0)) 32)).alloc (.cells #[.int .u32 1779033703, .int .u32 3144134277, .int .u32 1013904242, .int .u32 2773480762, .int .u32 1359893119, .int .u32 2600822924, .int .u32 528734635, .int .u32 1541459225] 152) := ⟨_, rfl⟩
  have bb : Below w.heap.size w wb := by rw [hwb]; exact ((Below.refl _ _).alloc (Nat.le_refl _) _).alloc (by simp) _
  have rb : wb.rowIs w.heap.size 32 32 (fun _ => .int .u8 0) := by rw [hwb]; exact r0.alloc _
  have sb : wb.heap.size = w.heap.size + 2 := by rw [hwb]; simp
  have ob : owns wb w.heap.size 152 (.slice (some ⟨w.heap.size + 1, 0, none⟩) 8 8) (wordsL (wordsAt (msg (flatTo ps n)) 0)) := by
    refine ⟨rfl, Or.inr ⟨w.heap.size + 1, 8, #[.int .u32 1779033703, .int .u32 3144134277, .int .u32 1013904242, .int .u32 2773480762, .int .u32 1359893119, .int .u32 2600822924, .int .u32 528734635, .int .u32 1541459225], rfl, by omega, ?_, Nat.le_refl _, by unfold maxLen; omega, rfl, rfl⟩⟩
    rw [hwb]
    have := blk_alloc_new (w.alloc (.cells (Array.replicate 32 (.int .u8 0)) 32)) (.cells #[.int .u32 1779033703, .int .u32 3144134277, .int .u32 1013904242, .int .u32 2773480762, .int .u32 1359893119, .int .u32 2600822924, .int .u32 528734635, .int .u32 1541459225] 152)
    rw [nblk_alloc] at this; exact this
  have AL := rall_any n v ps wb (hp.below bb (Nat.le_refl _)) hl
  have hn := hl n (Nat.le_refl _)
  obtain ⟨l, hl'⟩ : ∃ l, l = flatTo ps n := ⟨_, rfl⟩
  rw [← hl'] at AL ob hn
  rw [← hl']
  have OB : Hid (owns wb w.heap.size 152 (.slice (some ⟨w.heap.size + 1, 0, none⟩) 8 8) (wordsL (wordsAt (msg l) 0))) := (show owns wb w.heap.size 152 (.slice (some ⟨w.heap.size + 1, 0, none⟩) 8 8) (wordsL (wordsAt (msg l) 0)) from ob)
  have RB : Hid (wb.rowIs w.heap.size 32 32 (fun _ => .int .u8 0)) := (show wb.rowIs w.heap.size 32 32 (fun _ => .int .u8 0) from rb)
  have BB : Hid (Below w.heap.size w wb) := (show Below w.heap.size w wb from bb)
  have SB : Hid (wb.heap.size = w.heap.size + 2) := (show wb.heap.size = w.heap.size + 2 from sb)
  obtain ⟨va, vc, rfl, _, _⟩ := hp.open
  clear ob rb bb sb r0 hl hl' hp
  go_enter Tryd.func92, Tryd.ntmps92
  go_wp2_with fail
  rw [hwb] at AL
  refine AL.mono ?_
  rintro e w1 ⟨v1, rfl, n1, b1⟩
  rw [← hwb] at n1 b1
  have MS := rmsg_any v1 l w1 n1.is hn
  obtain ⟨a1, c1, rfl⟩ := n1.slen
  clear AL hwb n1
  go_wp2_with fail
  refine MS.mono ?_
  rintro e w2 ⟨v2, rfl, n2, b2⟩
  clear MS
  have s1 := b1.size
  have s2 := b2.size
  obtain ⟨M, hM⟩ : ∃ M, M = msg l := ⟨_, rfl⟩
  have hML : M.length % 64 = 0 ∧ M.length ≤ 2000000000 ∧ 0 < M.length := by rw [hM, msg_length]; omega
  rw [← hM] at OB n2
  have m2 : isBytes w2 v2 M := n2.is
  obtain ⟨mb, mo, mc, rfl, hmc, hmm, hmb, hmcell, hbyte⟩ : ∃ mb mo mc : Nat, v2 = .slice (some ⟨mb, mo, none⟩) M.length mc ∧ M.length ≤ mc ∧ mc ≤ maxLen ∧ mb < w2.heap.size ∧ (∀ i, i < M.length → w2.cell? ⟨mb, mo + i, none⟩ = some (.int .u8 (M.getD i 0))) ∧ ∀ i, 0 ≤ M.getD i 0 ∧ M.getD i 0 ≤ 255 := by
    rcases m2 with ⟨_, h⟩ | h
    · rw [h] at hML; simp at hML
    · exact h
  have B2 : Hid (Below w.heap.size w w2 ∧ w2.rowIs w.heap.size 32 32 (fun _ => .int .u8 0) ∧ owns w2 w.heap.size 152 (.slice (some ⟨w.heap.size + 1, 0, none⟩) 8 8) (wordsL (wordsAt M 0))) := (show Below w.heap.size w w2 ∧ w2.rowIs w.heap.size 32 32 (fun _ => .int .u8 0) ∧ owns w2 w.heap.size 152 (.slice (some ⟨w.heap.size + 1, 0, none⟩) 8 8) (wordsL (wordsAt M 0)) from by
    have s0 := SB.out
    exact ⟨(BB.out.trans (b1.mono (by omega))).trans (b2.mono (by omega)), b2.row (b1.row RB.out (by omega)) (by omega), (OB.out.below b1 (Nat.le_refl _)).below b2 (Nat.le_refl _)⟩)
  have HM : Hid (M = msg l) := (show M = msg l from hM)
  have CL : Hid (∀ i, i < M.length → w2.cell? ⟨mb, mo + i, none⟩ = some (.int .u8 (M.getD i 0))) := (show ∀ i, i < M.length → w2.cell? ⟨mb, mo + i, none⟩ = some (.int .u8 (M.getD i 0)) from hmcell)
  have HB : Hid (∀ i, 0 ≤ M.getD i 0 ∧ M.getD i 0 ≤ 255) := (show ∀ i, 0 ≤ M.getD i 0 ∧ M.getD i 0 ≤ 255 from hbyte)
  have q0 : (M.length : Int) ≤ 2000000000 := by omega
  have q1 : (M.length : Int) ≤ (mc : Int) := by omega
  have S2 : Hid (wb.heap.size ≤ w1.heap.size ∧ w1.heap.size ≤ w2.heap.size ∧ mb < w2.heap.size) := (show wb.heap.size ≤ w1.heap.size ∧ w1.heap.size ≤ w2.heap.size ∧ mb < w2.heap.size from ⟨s1, s2, hmb⟩)
  clear hM OB n2 m2 hmcell hbyte b1 b2 s1 s2 RB BB hmb
  go_wp2
  go_loopw [3, 5] (fun x i wr => ∃ k : Nat, 64 * k ≤ M.length ∧ i = .int .i64 (64 * (k : Int)) ∧ owns wr w.heap.size 152 x (wordsL (wordsAt M k)) ∧ Below w.heap.size w wr ∧ Below w2.heap.size w2 wr ∧ wr.rowIs w.heap.size 32 32 (fun _ => .int .u8 0)) (fun _ i _ => M.length - (intOf i).toNat)
  case atStart => exact ⟨0, by omega, rfl, B2.out.2.2, B2.out.1, Below.refl _ _, B2.out.2.1⟩
  case round =>
    obtain ⟨k, hk, rfl, hx, hb, hb2, hr0⟩ := hrel
    clear B2
    obtain ⟨gx, cx, rfl, hgx, hgl, hcx, _, _, _⟩ := hx.shape (by simp [wordsL])
    have l8 : (wordsL (wordsAt M k)).length = 8 := by simp [wordsL]
    rw [l8] at hx hcx ⊢
    have s2 := S2.out
    have sr := hb2.size
    by_cases hlt : 64 * k < M.length
    · have hk1 : 64 * k + 64 ≤ M.length := by omega
      have p0 : (64 * (k : Int)) < (M.length : Int) := by omega
      have p1 : (64 * (k : Int)) + 64 ≤ (mc : Int) := by omega
      have p2 : (64 * (k : Int)) ≤ (64 * (k : Int)) + 64 := by omega
      have p3 : (0 : Int) ≤ (64 * (k : Int)) := by omega
      have SL : ∀ wz, (Instr.slice 23 (.slice (some ⟨mb, mo, none⟩) M.length mc) (some (.int .i64 (64 * (k : Int)))) (some (.int .i64 (64 * (k : Int) + 64))) none).run Tryd.prog wz = .ok (.slice (some ⟨mb, mo + 64 * k, none⟩) 64 (mc - 64 * k)) wz := fun wz => by
        have := run_slice_two (P := Tryd.prog) 23 5 mb mo M.length mc (64 * k) (64 * k + 64) Tryd.underlying23 (by kernel_rfl) (by omega) (by omega) (64 * (k : Int)) (64 * (k : Int) + 64) (by omega) (by omega) wz
        rw [this, show 64 * k + 64 - 64 * k = 64 by omega]
      have BL := block_any (s8V (wordsAt M k)) (okS_words M k) (fun i => M.getD (64 * k + i) 0) (fun i => HB.out _) gx 0 cx mb (mo + 64 * k) (mc - 64 * k) wr hgl (fun j u hu => by
        rw [s8L_V] at hu
        have hj : j < 8 := by
          by_cases hj : j < 8
          · exact hj
          · rw [List.getElem?_eq_none (by rw [l8]; omega)] at hu; cases hu
        have := words_cell hx j hj
        unfold wordsL at hu
        rw [List.getElem?_map, List.getElem?_range hj] at hu
        rw [Nat.zero_add, this]; exact hu) (by omega) (fun i hi => by
        rw [Nat.add_assoc, hb2.cell (p := ⟨mb, mo + (64 * k + i), none⟩) s2.2.2]
        exact CL.out (64 * k + i) (by omega))
      rw [words_next] at BL
      have HBe : Hid (Below w.heap.size w wr ∧ Below w2.heap.size w2 wr ∧ wr.rowIs w.heap.size 32 32 (fun _ => .int .u8 0)) := (show Below w.heap.size w wr ∧ Below w2.heap.size w2 wr ∧ wr.rowIs w.heap.size 32 32 (fun _ => .int .u8 0) from ⟨hb, hb2, hr0⟩)
      have BL' : Hid _ := BL
      clear BL hx hb hb2 hr0 CL HB
      go_wp2_with fail
      refine Calls.mono BL'.out ?_
      rintro e w3 ⟨v3, rfl, o3, b3⟩
      have NX : Hid (owns w3 w.heap.size 152 v3 (wordsL (wordsAt M (k + 1))) ∧ Below w.heap.size w w3 ∧ Below w2.heap.size w2 w3 ∧ w3.rowIs w.heap.size 32 32 (fun _ => .int .u8 0)) := (show owns w3 w.heap.size 152 v3 (wordsL (wordsAt M (k + 1))) ∧ Below w.heap.size w w3 ∧ Below w2.heap.size w2 w3 ∧ w3.rowIs w.heap.size 32 32 (fun _ => .int .u8 0) from by
        have hh := HBe.out
        have s3 := hh.1.size
        exact ⟨owns_lower o3 s3, hh.1.trans (b3.mono s3), hh.2.1.trans (b3.mono sr), b3.row hh.2.2 (by have := hh.2.2.lt; omega)⟩)
      clear o3 b3 BL' HBe SL p0 p1 p2 p3
      go_wp2
      go_light
      exact ⟨⟨k + 1, by omega, by go_num, NX.out.1, NX.out.2.1, NX.out.2.2.1, NX.out.2.2.2⟩, by simp [intOf]; omega⟩
    · have hke : k = M.length / 64 := by omega
      have p0 : ¬ (64 * (k : Int)) < (M.length : Int) := by omega
      have CW : Hid (∀ i, i < 8 → wr.cell? ⟨gx, i, none⟩ = some (.int .u32 (wordsAt M k i))) := (show ∀ i, i < 8 → wr.cell? ⟨gx, i, none⟩ = some (.int .u32 (wordsAt M k i)) from fun i hi => words_cell hx i hi)
      have FW : Hid (wordsAt M k = finalW l) := (show wordsAt M k = finalW l from by rw [hke, HM.out]; rfl)
      have HBe : Hid (Below w.heap.size w wr ∧ wr.rowIs w.heap.size 32 32 (fun _ => .int .u8 0) ∧ gx < wr.heap.size ∧ w.heap.size < wr.heap.size) := (show Below w.heap.size w wr ∧ wr.rowIs w.heap.size 32 32 (fun _ => .int .u8 0) ∧ gx < wr.heap.size ∧ w.heap.size < wr.heap.size from ⟨hb, hr0, hgl, hr0.lt⟩)
      have W8 : Hid (∀ i, i < 8 → okW (wordsAt M k i)) := (show ∀ i, i < 8 → okW (wordsAt M k i) from wordsAt_ok M k)
      clear hx hb hb2 hr0 CL HB hke s2 sr hgl
      obtain ⟨wv, hwv⟩ : ∃ wv, wv = wordsAt M k := ⟨_, rfl⟩
      rw [← hwv] at CW FW W8
      clear hwv
      obtain ⟨G, hG⟩ : ∃ G, G = wr.heap.size := ⟨_, rfl⟩
      have HG : Hid (G = wr.heap.size) := (show G = wr.heap.size from hG)
      clear hG
      go_wp2
      rw [← HG.out]
      go_loopw [7] (fun i wq => ∃ j : Nat, j ≤ 32 ∧ i = .int .i64 j ∧ wq.rowIs G 32 32 (fun i => .int .u8 (if i < j then sumByte wv i else 0)) ∧ wq.rowIs w.heap.size 32 32 (fun _ => .int .u8 0) ∧ Below w.heap.size w wq ∧ ∀ i, i < 8 → wq.cell? ⟨gx, i, none⟩ = some (.int .u32 (wv i))) (fun i _ => 32 - (intOf i).toNat)
      case atStart =>
        have hh := HBe.out
        have b1 : Below wr.heap.size wr (wr.alloc (.cells (Array.replicate 32 (.int .u8 0)) 32)) := (Below.refl _ _).alloc (Nat.le_refl _) _
        rw [HG.out]
        exact ⟨0, by omega, rfl, (rowIs_zero wr (Array.replicate 32 (.int .u8 0)) 32 32 (.int .u8 0) rfl).congr (fun i _ => by rw [if_neg (by omega)]), b1.row hh.2.1 hh.2.2.2, hh.1.trans (b1.mono hh.1.size), fun i hi => (b1.cell (p := ⟨gx, i, none⟩) hh.2.2.1).trans (CW.out i hi)⟩
      case round =>
        obtain ⟨j, hj, rfl, hro, hr0, hb, hcx8⟩ := hrel
        have hh : gx < G ∧ w.heap.size < G := by have := HBe.out; have := HG.out; omega
        clear CW HBe HG
        have g0 : (0 : Int) ≤ (j : Int) := by omega
        by_cases hlt2 : j < 32
        · have g1 : (j : Int) < 32 := by omega
          obtain ⟨q, hq⟩ : ∃ q, q = j / 4 := ⟨_, rfl⟩
          obtain ⟨r, hr⟩ : ∃ r, r = j % 4 := ⟨_, rfl⟩
          have hjq : j = 4 * q + r := by omega
          have e1 : (j : Int) / 4 = (q : Int) := by omega
          have e2 : (j : Int) % 4 = (r : Int) := by omega
          have e2' : (j : Int).tmod 4 = (r : Int) := by rw [Int.tmod_eq_emod_of_nonneg g0]; exact e2
          have g2 : (q : Int) < 8 := by omega
          have g3 : (0 : Int) ≤ (q : Int) := by omega
          have g4 : (r : Int) < 4 := by omega
          have cq := hcx8 q (by omega)
          have wq1 : IntKind.i64.wrap (q : Int) = q := IntWalk.i64_in _ (by omega)
          have wq2 : IntKind.i64.wrap (r : Int) = r := IntWalk.i64_in _ (by omega)
          have wq3 : IntKind.i64.wrap (j : Int) = j := IntWalk.i64_in _ (by omega)
          have wq4 : IntKind.i64.wrap ((r : Int) * 8) = (r : Int) * 8 := IntWalk.i64_in _ (by omega)
          have wq5 : IntKind.i64.wrap (24 - (r : Int) * 8) = 24 - (r : Int) * 8 := IntWalk.i64_in _ (by omega)
          have ok := W8.out q (by omega)
          have ok0 := ok.1
          have ok1 := ok.2
          have zo := hro.frozen j
          have co := hro.cell (i := j) hlt2
          have PW := power_any (24 - 8 * r) (by omega)
          have e3 : (24 - (r : Int) * 8) = ((24 - 8 * r : Nat) : Int) := by omega
          have hpow : (2 ^ (24 - 8 * r) % 4294967296 : Int) = 2 ^ (24 - 8 * r) := pow_small _ (by omega)
          have hpos : (0 : Int) < 2 ^ (24 - 8 * r) := Int.pow_pos (by omega)
          obtain ⟨D, hD⟩ : ∃ D : Int, D = 2 ^ (24 - 8 * r) := ⟨_, rfl⟩
          rw [hpow, ← hD] at PW
          rw [← hD] at hpos
          have hDne : D ≠ 0 := by omega
          have dv0 : 0 ≤ wv q / D := Int.ediv_nonneg ok0 (by omega)
          have dv1 : wv q / D < 4294967296 := Int.lt_of_le_of_lt (Int.ediv_le_self _ ok0) ok1
          have wq6 : IntKind.i64.wrap ((24 - 8 * r : Nat) : Int) = ((24 - 8 * r : Nat) : Int) := IntWalk.i64_in _ (by omega)
          have HV : Hid (IntKind.u8.wrap ((IntKind.u32.wrap ((wv q).tdiv D)).tmod 256) = wv q / D % 256) := (show IntKind.u8.wrap ((IntKind.u32.wrap ((wv q).tdiv D)).tmod 256) = wv q / D % 256 from by
            rw [Int.tdiv_eq_ediv_of_nonneg ok0, IntWalk.u32_in _ ⟨dv0, by omega⟩, Int.tmod_eq_emod_of_nonneg dv0, IntWalk.u8_in _ (by omega)])
          have SBy : Hid (wv q / D % 256 = sumByte wv j) := (show wv q / D % 256 = sumByte wv j from by rw [sumByte, hD, ← hq, ← hr])
          have PW' : Hid (∀ w : World, Calls Tryd.prog 110 #[.int .i64 ((24 - 8 * r : Nat) : Int)] w fun e w' => e = .returned (.int .u32 D) ∧ w' = w) := (show ∀ w : World, Calls Tryd.prog 110 #[.int .i64 ((24 - 8 * r : Nat) : Int)] w fun e w' => e = .returned (.int .u32 D) ∧ w' = w from PW)
          have NX : Hid (∀ x : Int, x = wv q / D % 256 → (wr.drew.setCell ⟨G, j, none⟩ (.int .u8 x)).rowIs G 32 32 (fun i => .int .u8 (if i < j + 1 then sumByte wv i else 0)) ∧ (wr.drew.setCell ⟨G, j, none⟩ (.int .u8 x)).rowIs w.heap.size 32 32 (fun _ => .int .u8 0) ∧ Below w.heap.size w (wr.drew.setCell ⟨G, j, none⟩ (.int .u8 x)) ∧ ∀ i, i < 8 → (wr.drew.setCell ⟨G, j, none⟩ (.int .u8 x)).cell? ⟨gx, i, none⟩ = some (.int .u32 (wv i))) := (show ∀ x : Int, x = wv q / D % 256 → (wr.drew.setCell ⟨G, j, none⟩ (.int .u8 x)).rowIs G 32 32 (fun i => .int .u8 (if i < j + 1 then sumByte wv i else 0)) ∧ (wr.drew.setCell ⟨G, j, none⟩ (.int .u8 x)).rowIs w.heap.size 32 32 (fun _ => .int .u8 0) ∧ Below w.heap.size w (wr.drew.setCell ⟨G, j, none⟩ (.int .u8 x)) ∧ ∀ i, i < 8 → (wr.drew.setCell ⟨G, j, none⟩ (.int .u8 x)).cell? ⟨gx, i, none⟩ = some (.int .u32 (wv i)) from fun x hx => by
            have bG : Below G wr (wr.drew.setCell ⟨G, j, none⟩ (.int .u8 x)) := (Below.refl G wr).drew.setCell (Nat.le_refl _) _
            refine ⟨(World.rowIs.set (w := wr.drew) hro j _).congr fun i hi => ?_, bG.row hr0 hh.2, hb.trans (bG.mono (by omega)), fun i hi => (bG.cell (p := ⟨gx, i, none⟩) hh.1).trans (hcx8 i hi)⟩
            subst hx
            by_cases e : i = j
            · subst e; rw [if_pos rfl, SBy.out, if_pos (by omega)]
            · rw [if_neg e]
              by_cases e2 : i < j
              · rw [if_pos e2, if_pos (by omega)]
              · rw [if_neg e2, if_neg (by omega)])
          clear PW hpow hD hro hr0 hb hcx8 ok hq hr hjq
          go_upto_region 11 with fail
          refine wp_region_noPanic ?_
          refine wp_region_held_drew (S := fun w' => w'.cell? ⟨gx, q, none⟩ = some (.int .u32 (wv q))) (by kernel_rfl) cq (fun hHeld => ?_)
          refine take_op (i := 0) (v := ?va0) rfl (by kernel_rfl) (by kernel_rfl) (by kernel_rfl) (fun _ _ _ h => h) rfl hHeld ?ya0 ?ra0
          case ya0 => (intro wz hz; go_simp; first | done | with_reducible rfl)
          try simp only [Act.put, List.setIfInBounds_toArray, List.set_cons_zero, List.set_cons_succ]
          refine take_op (i := 1) (v := ?va1) rfl (by kernel_rfl) (by kernel_rfl) (by kernel_rfl) (fun _ _ _ h => h) rfl hHeld ?ya1 ?ra1
          case ya1 => (intro wz hz; go_simp; first | done | with_reducible rfl)
          try simp only [Act.put, List.setIfInBounds_toArray, List.set_cons_zero, List.set_cons_succ]
          refine take_op (i := 2) (v := ?va2) rfl (by kernel_rfl) (by kernel_rfl) (by kernel_rfl) (fun _ _ _ h => h) rfl hHeld ?ya2 ?ra2
          case ya2 => (intro wz hz; go_simp; first | done | with_reducible rfl)
          try simp only [Act.put, List.setIfInBounds_toArray, List.set_cons_zero, List.set_cons_succ]
          refine take_op (i := 3) (v := ?va3) rfl (by kernel_rfl) (by kernel_rfl) (by kernel_rfl) (fun _ _ _ h => h) rfl hHeld ?ya3 ?ra3
          case ya3 => (intro wz hz; go_simp; first | done | with_reducible rfl)
          try simp only [Act.put, List.setIfInBounds_toArray, List.set_cons_zero, List.set_cons_succ]
          refine take_op (i := 4) (v := ?va4) rfl (by kernel_rfl) (by kernel_rfl) (by kernel_rfl) (fun _ _ _ h => h) rfl hHeld ?ya4 ?ra4
          case ya4 => (intro wz hz; go_simp; first | done | with_reducible rfl)
          try simp only [Act.put, List.setIfInBounds_toArray, List.set_cons_zero, List.set_cons_succ]
          refine take_op (i := 5) (v := ?va5) rfl (by kernel_rfl) (by kernel_rfl) (by kernel_rfl) (fun _ _ _ h => h) rfl hHeld ?ya5 ?ra5
          case ya5 => (intro wz hz; have hcz := hz; go_simp; first | done | with_reducible rfl)
          try simp only [Act.put, List.setIfInBounds_toArray, List.set_cons_zero, List.set_cons_succ]
          refine take_op (i := 6) (v := ?va6) rfl (by kernel_rfl) (by kernel_rfl) (by kernel_rfl) (fun _ _ _ h => h) rfl hHeld ?ya6 ?ra6
          case ya6 => (intro wz hz; go_simp; first | done | with_reducible rfl)
          try simp only [Act.put, List.setIfInBounds_toArray, List.set_cons_zero, List.set_cons_succ]
          refine take_op (i := 7) (v := ?va7) rfl (by kernel_rfl) (by kernel_rfl) (by kernel_rfl) (fun _ _ _ h => h) rfl hHeld ?ya7 ?ra7
          case ya7 => (intro wz hz; go_simp; first | done | with_reducible rfl)
          try simp only [Act.put, List.setIfInBounds_toArray, List.set_cons_zero, List.set_cons_succ]
          refine take_op (i := 8) (v := ?va8) rfl (by kernel_rfl) (by kernel_rfl) (by kernel_rfl) (fun _ _ _ h => h) rfl hHeld ?ya8 ?ra8
          case ya8 => (intro wz hz; go_simp; first | done | with_reducible rfl)
          try simp only [Act.put, List.setIfInBounds_toArray, List.set_cons_zero, List.set_cons_succ]
          refine take_op (i := 9) (v := ?va9) rfl (by kernel_rfl) (by kernel_rfl) (by kernel_rfl) (fun _ _ _ h => h) rfl hHeld ?ya9 ?ra9
          case ya9 => (intro wz hz; go_simp; first | done | with_reducible rfl)
          try simp only [Act.put, List.setIfInBounds_toArray, List.set_cons_zero, List.set_cons_succ]
          refine take_one (i := 10) rfl (by kernel_rfl) rfl (fun K hK => ?_)
          go_simp
          refine Calls.mono (PW'.out _) ?_
          rintro e w' ⟨rfl, rfl⟩
          refine hK.out _ _ hHeld (fun hHeld => ?_)
          clear hK K
          try simp only [Act.put, List.setIfInBounds_toArray, List.set_cons_zero, List.set_cons_succ]
          refine take_op (i := 11) (v := ?vb11) rfl (by kernel_rfl) (by kernel_rfl) (by kernel_rfl) (fun _ _ _ h => h) rfl hHeld ?yb11 ?rb11
          case yb11 => (intro wz hz; go_simp; first | done | with_reducible rfl)
          try simp only [Act.put, List.setIfInBounds_toArray, List.set_cons_zero, List.set_cons_succ]
          refine take_op (i := 12) (v := ?vb12) rfl (by kernel_rfl) (by kernel_rfl) (by kernel_rfl) (fun _ _ _ h => h) rfl hHeld ?yb12 ?rb12
          case yb12 => (intro wz hz; go_simp; first | done | with_reducible rfl)
          try simp only [Act.put, List.setIfInBounds_toArray, List.set_cons_zero, List.set_cons_succ]
          refine take_op (i := 13) (v := ?vb13) rfl (by kernel_rfl) (by kernel_rfl) (by kernel_rfl) (fun _ _ _ h => h) rfl hHeld ?yb13 ?rb13
          case yb13 => (intro wz hz; go_simp; first | done | with_reducible rfl)
          try simp only [Act.put, List.setIfInBounds_toArray, List.set_cons_zero, List.set_cons_succ]
          refine take_op (i := 14) (v := ?vb14) rfl (by kernel_rfl) (by kernel_rfl) (by kernel_rfl) (fun _ _ _ h => h) rfl hHeld ?yb14 ?rb14
          case yb14 => (intro wz hz; go_simp; first | done | with_reducible rfl)
          try simp only [Act.put, List.setIfInBounds_toArray, List.set_cons_zero, List.set_cons_succ]
          refine take_one (i := 15) rfl (by kernel_rfl) rfl (fun K hK => ?_)
          go_simp
          refine hK.out _ _ ?hSS (fun hHeld => ?_)
          case hSS => exact (NX.out _ HV.out).2.2.2 q (by omega)
          clear hK K hHeld
          try simp only [Act.put, List.setIfInBounds_toArray, List.set_cons_zero, List.set_cons_succ]
          refine wpAnyH_done (by kernel_rfl) ?_ _
          refine NoPanic.normal ?_
          go_wp2
          go_light
          exact ⟨⟨j + 1, by omega, by go_num, NX.out _ rfl⟩, by simp [intOf]; omega⟩

        · obtain rfl : j = 32 := by omega
          have g1 : ¬ ((32 : Nat) : Int) < 32 := by omega
          rw [FW.out] at hro
          clear hlt2 hj hcx8 W8
          go_wp2_with (first | (refine wpList_load_seg rfl 32 _ rfl G 0 32 _ rfl _ Tryd.underlying32 rfl hi32 (fun i hi => by rw [Nat.zero_add]; exact hro.cell hi) ?_) | (refine wpList_store_row rfl 32 _ _ rfl rfl w.heap.size 0 32 _ rfl rfl hi32 (fun _ _ => rfl) _ _ _ hr0 (by omega) ?_; intro W rW hzW hbut))
          exact bodyPost_ret (results_cell_seg rfl _ _ w.heap.size 32 32 _ _ rfl Tryd.underlying32 rfl hi32 (rW.congr fun i hi => by rw [if_pos (by omega), Nat.sub_zero, if_pos (by omega)]; rfl)) rfl ⟨rfl, hb.trans ((hbut.mono (by have := hb.size; omega)).below (Nat.le_refl _))⟩
end Go.Proofs.YtgchnobifidjcaaDoor

namespace Go.Proofs.YtgchnobifidjcaaDoor
open Go.RowKit Go.Deep

theorem szI_is1 (x : Int) : (szI x = 0 ∧ x < 1) ∨ (szI x = 1 ∧ 1 ≤ x ∧ x < 256) ∨ (szI x = 2 ∧ 256 ≤ x ∧ x < 65536) ∨ (szI x = 3 ∧ 65536 ≤ x ∧ x < 16777216) ∨ (szI x = 4 ∧ 16777216 ≤ x ∧ x < 4294967296) ∨ (szI x = 5 ∧ 4294967296 ≤ x ∧ x < 1099511627776) ∨ (szI x = 6 ∧ 1099511627776 ≤ x ∧ x < 281474976710656) ∨ (szI x = 7 ∧ 281474976710656 ≤ x ∧ x < 72057594037927936) ∨ (szI x = 8 ∧ 72057594037927936 ≤ x) := by
  unfold szI
  repeat' split
  all_goals omega
theorem szI_div1 (z : Int) (h0 : 1 ≤ z) (h1 : z < 18446744073709551616) : szI (z / 256) + 1 = szI z := by
  have h2 := szI_is1 (z / 256)
  have h3 := szI_is1 z
  omega

theorem newBytes_one (w : World) (b : Int) (h0 : 0 ≤ b) (h1 : b ≤ 255) : newBytes (w.alloc (.cells #[.int .u8 b] 5)) w.heap.size (.slice (some ⟨w.heap.size, 0, none⟩) 1 1) [b] :=
  ⟨⟨rfl, Or.inr ⟨w.heap.size, 1, _, rfl, Nat.le_refl _, blk_alloc_new _ _, by simp, by unfold maxLen; omega, rfl, rfl⟩⟩, fun i => by cases i <;> simp <;> omega⟩
theorem isBytes.cellAt {w : World} {v : Value} {l : List Int} (h : isBytes w v l) (i : Nat) (hi : i < l.length) : ∃ pb po cap, v = .slice (some ⟨pb, po, none⟩) l.length cap ∧ w.cell? ⟨pb, po + i, none⟩ = some (.int .u8 (l.getD i 0)) := by
  rcases h with ⟨_, rfl⟩ | ⟨pb, po, cap, rfl, h2, h3, h4, h6, h7⟩
  · simp at hi
  · exact ⟨pb, po, cap, rfl, h6 i hi⟩
theorem reverse_take_succ (l : List Int) (j : Nat) (h0 : 0 < j) (hj : j ≤ l.length) : l.reverse.take (l.length - (j - 1)) = l.reverse.take (l.length - j) ++ [l.getD (j - 1) 0] := by
  have e : l.length - (j - 1) = (l.length - j) + 1 := by omega
  rw [e, List.take_succ_eq_append_getElem (by simp; omega)]
  congr 2
  rw [List.getElem_reverse, List.getD_eq_getElem?_getD, List.getElem?_eq_getElem (by omega)]
  simp only [Option.getD_some]
  congr 1
  omega
set_option maxHeartbeats 1000000 in
theorem rnumber_any (x : Int) (h0 : 0 ≤ x) (h1 : x < 18446744073709551616) (w : World) :
    Calls Tryd.prog 73 #[.int .u64 x] w fun e w' => ∃ v, e = .returned v ∧ newBytes w' w.heap.size v (numB x) ∧ Below w.heap.size w w' := by
  go_enter Tryd.func73, Tryd.ntmps73
  go_wp2
  go_loopw [0, 3] (fun z v wr => ∃ (t : Int) (lw : List Int), 0 ≤ t ∧ t ≤ x ∧ z = .int .u64 t ∧ lw.length + szI t = szI x ∧ digsI x (szI x) = digsI t (szI t) ++ lw.reverse ∧ newBytes wr w.heap.size v lw ∧ Below w.heap.size w wr) (fun z _ _ => szI (intOf z))
  case atStart => exact ⟨x, [], h0, Int.le_refl _, rfl, by simp, by simp, newBytes.nil _ _, Below.refl _ _⟩
  case round =>
    obtain ⟨t, lw, t0, t1, rfl, hlen, hdig, hn, hb⟩ := hrel
    have hz := szI_le x
    by_cases hlt : 0 < t
    · have hd := szI_div1 t (by omega) (by omega)
      obtain ⟨v2, w2, hr2, hn2, hb2⟩ := byte_append_run wr w.heap.size u3 lw (t % 256) (by omega) (by omega) hn (by omega) hb.size
      have HN : Hid _ := hn2
      have HB : Hid _ := hb.trans hb2
      have HG : Hid _ := hdig
      have HD : Hid _ := hd
      have HE : Hid _ := hlen
      have HS : Hid (digsI t (szI t) = digsI (t / 256) (szI (t / 256)) ++ [t % 256]) := by
        have : digsI t (szI t) = digsI (t / 256) (szI (t / 256)) ++ [t % 256] := by rw [← hd, digsI_succ]
        exact this
      clear hn hb hn2 hb2 hdig hd hlen
      go_wp2_with (first | (at_builtin; refine wpList_append_run rfl _ _ _ rfl rfl rfl hr2 ?_))
      go_light
      refine ⟨⟨t / 256, lw ++ [t % 256], by omega, by omega, rfl, by have := HD.out; have := HE.out; simp; omega, ?_, HN.out, HB.out⟩, by have := HD.out; simp [intOf]; omega⟩
      rw [HG.out, HS.out, List.reverse_append]; simp
    · obtain rfl : t = 0 := by omega
      obtain ⟨wm, hwm⟩ : ∃ wm, wm = wr := ⟨wr, rfl⟩
      subst hwm
      have hz0 : szI 0 = 0 := rfl
      rw [hz0] at hlen hdig
      have hd0 : digsI x (szI x) = lw.reverse := by rw [hdig]; rfl
      have hl8 : (lw.length : Int) ≤ 8 := by omega
      have hlz : lw.length = szI x := by omega
      obtain ⟨la, lc, rfl, _⟩ := hn.is.slice
      have hsz := hb.size
      have n1 := newBytes_one wm (lw.length : Int) (by omega) (by omega)
      have hb1 : Below wm.heap.size wm (wm.alloc (.cells #[.int .u8 (lw.length : Int)] 5)) := (Below.refl _ _).alloc (Nat.le_refl _) _
      have HN1 : Hid _ := n1
      have HB1 : Hid _ := hb1
      have HL : Hid _ := hn.is
      have HD0 : Hid _ := hd0
      have HLZ : Hid _ := hlz
      have HB : Hid _ := hb
      clear n1 hb1 hn hd0 hdig hlen hlz hb
      go_wp2
      go_loopw [4, 5] (fun v i wq => ∃ j : Nat, j ≤ lw.length ∧ i = .int .i64 j ∧ newBytes wq wm.heap.size v ([(lw.length : Int)] ++ lw.reverse.take (lw.length - j)) ∧ Below wm.heap.size wm wq) (fun _ i _ => (intOf i).toNat)
      case atStart => exact ⟨lw.length, Nat.le_refl _, rfl, by rw [Nat.sub_self, List.take_zero, List.append_nil]; exact HN1.out, HB1.out⟩
      case round =>
        clear HN1 HB1
        obtain ⟨j, hj, rfl, hn, hb⟩ := hrel
        by_cases hlt2 : 0 < j
        · obtain ⟨pb, po, cap, he, hc⟩ := isBytes.cellAt (isBytes.below HL.out hb (Nat.le_refl _)) (j - 1) (by omega)
          have he' : la = some ⟨pb, po, none⟩ ∧ lc = cap := by simpa using he
          obtain ⟨rfl, rfl⟩ := he'
          have hby := isBytes.byte HL.out (j - 1)
          obtain ⟨v2, w2, hr2, hn2, hb2⟩ := byte_append_run _ wm.heap.size u4 _ (lw.getD (j - 1) 0) hby.1 hby.2 hn (by simp; omega) hb.size
          have HN : Hid _ := hn2
          have HBq : Hid _ := hb.trans hb2
          have HT : Hid _ := reverse_take_succ lw j hlt2 hj
          obtain ⟨m, rfl⟩ : ∃ m, j = m + 1 := ⟨j - 1, by omega⟩
          simp only [Nat.add_sub_cancel] at hc hr2
          have q0 : (0 : Int) < ((m + 1 : Nat) : Int) := by omega
          have q1 : (m : Int) < (lw.length : Int) := by omega
          have q2 : ((m + 1 : Nat) : Int) - 1 = (m : Int) := by omega
          have q3 : ((m : Int) + 1) - 1 = (m : Int) := by omega
          clear hn hb hn2 hb2 he
          go_wp2_with (first | (at_builtin; refine wpList_append_run rfl _ _ _ rfl rfl rfl hr2 ?_))
          go_light
          refine ⟨⟨m, by omega, rfl, ?_, HBq.out⟩, by simp only [intOf]; omega⟩
          have h3 := HT.out
          simp only [Nat.add_sub_cancel] at h3
          rw [h3, ← List.append_assoc]; exact HN.out
        · obtain rfl : j = 0 := by omega
          have HN : Hid _ := hn
          have HBq : Hid _ := hb
          clear hn hb
          go_wp2
          go_ret
          refine ⟨_, rfl, ?_, Below.trans HB.out (HBq.out.mono HB.out.size)⟩
          have h3 := newBytes.mono HN.out hsz
          rw [Nat.sub_zero, List.take_of_length_le (by simp), ← HD0.out, HLZ.out] at h3
          exact h3
end Go.Proofs.YtgchnobifidjcaaDoor

/- The document's answer: blobs behind any bytes. -/
namespace Go.Proofs.YtgchnobifidjcaaDoor
set_option linter.unusedSimpArgs false
set_option linter.unusedVariables false
set_option maxRecDepth 100000
open Go.RowKit Go.Deep

set_option maxHeartbeats 1000000 in
theorem rblobs_any (l : List Int) (v u : Value) (n : Nat) (ps : Nat → List Int) (w : World) (hv : isBytes w v l) (hu : anyParts w u n ps) (hs : ∀ i, i ≤ n → l.length + (flatTo (blobsB ps) i).length ≤ 1000000000000) :
    Calls Tryd.prog 56 #[v, u] w fun e w' => ∃ v', e = .returned v' ∧ newBytes w' w.heap.size v' (l ++ flatTo (blobsB ps) n) ∧ Below w.heap.size w w' := by
  obtain ⟨a, cap, rfl, hnm, hcell⟩ := hu.open
  clear hu
  have hs0 := hs 0 (by omega)
  obtain ⟨v1, w1, hr1, hn1, hb1⟩ := bytes_copy_run w v l hv (by omega)
  have HN : Hid _ := hn1
  have HB : Hid _ := hb1
  obtain ⟨va, vc, rfl, _⟩ := hv.slice
  clear hv hn1 hb1
  unfold maxLen at hnm
  have q0 : (n : Int) ≤ 9223372036854775807 := by omega
  have HS : Hid _ := hs
  clear hs
  go_enter Tryd.func56, Tryd.ntmps56
  go_wp2_with (first | (at_builtin; refine wpList_append_run rfl (.tmp 7) (.tmp 8) _ rfl rfl rfl hr1 ?_))
  clear hr1
  go_loopw [5, 6] (fun z i wr => ∃ j : Nat, j ≤ n ∧ i = .int .i64 j ∧ newBytes wr w.heap.size z (l ++ flatTo (blobsB ps) j) ∧ Below w.heap.size w wr) (fun _ i _ => n - (intOf i).toNat)
  case atStart => exact ⟨0, by omega, rfl, by rw [flatTo, List.append_nil]; exact HN.out, HB.out⟩
  case round =>
    clear HN HB
    obtain ⟨j, hj, rfl, hn, hb⟩ := hrel
    by_cases hlt2 : j < n
    · obtain ⟨qb, qo, y, rfl, hq, hc, hy⟩ := hcell j hlt2
      have HYB : Hid _ := fun (w9 : World) (h9 : Below w.heap.size w w9) => hy.below h9 (Nat.le_refl _)
      have HC : Hid _ := fun (w9 : World) (h9 : Below w.heap.size w w9) => (h9.cell (p := ⟨qb, qo + j, none⟩) hq).trans hc
      obtain ⟨ya, yc, rfl, hym⟩ := hy.slice
      have b0 : (0 : Int) ≤ (j : Int) := by omega
      have b1 : (j : Int) < (n : Int) := by omega
      have hlj := HS.out (j + 1) hlt2
      rw [flatTo, List.length_append, blobsB, blobB_length] at hlj
      rw [← hb.cell (p := ⟨qb, qo + j, none⟩) hq] at hc
      have hM2 : ((ps j).length : Int) ≤ 1000000000000 := by omega
      have hs1 := hb.size
      have HN : Hid _ := hn
      have HB : Hid _ := hb
      clear hn hb hy
      go_wp2_with fail
      refine (rnumber_any ((ps j).length : Int) (by omega) (by omega) _).mono ?_
      rintro e w2 ⟨v2, rfl, hn2, hb2⟩
      have hn2' := newBytes.below HN.out hb2 (Nat.le_refl _)
      obtain ⟨v3, w3, hr3, hn3, hg3, _⟩ := bytes_append_run w2 w.heap.size u5 v2 _ (numB (ps j).length) hn2' hn2.is (by rw [List.length_append, numB_length]; omega) (by have := hb2.size; omega)
      have hB3 : Below w.heap.size w w3 := HB.out.trans ((hb2.mono hs1).trans (below_grown hg3 (fun q hq2 => (hn2'.block q hq2).1) (by have := hb2.size; omega)))
      have hc3 := HC.out w3 hB3
      obtain ⟨v4, w4, hr4, hn4, hg4, _⟩ := any_append_run w3 w.heap.size v3 _ _ (ps j) hn3 (HYB.out w3 hB3) (by rw [List.length_append, List.length_append, numB_length]; omega) hB3.size
      have HN4 : Hid _ := hn4
      have HB4 : Hid _ := hB3.trans (below_grown hg4 (fun q hq2 => (hn3.block q hq2).1) hB3.size)
      clear hn2 hb2 hn3 hg3 hn2' HN HB hn4 hg4 hB3 HC HYB
      go_wp2_with (first | (at_builtin; refine wpList_append_run rfl (.tmp 16) (.tmp 23) _ rfl rfl rfl hr3 ?_) | (at_builtin; refine wpList_append_run rfl (.tmp 25) (.tmp 29) _ rfl rfl rfl hr4 ?_))
      go_light
      exact ⟨⟨j + 1, by omega, by go_num, by rw [flatTo, ← List.append_assoc, blobsB, blobB, ← List.append_assoc]; exact HN4.out, HB4.out⟩, by simp [intOf]; omega⟩
    · obtain rfl : j = n := by omega
      have HN : Hid _ := hn
      clear hn
      go_wp2
      go_ret
      exact ⟨_, rfl, HN.out, hb⟩
end Go.Proofs.YtgchnobifidjcaaDoor

/- A nil book's Of; the document's Preimage and Of. -/
namespace Go.Proofs.YtgchnobifidjcaaDoor
set_option linter.unusedSimpArgs false
set_option linter.unusedVariables false
open Go.RowKit Go.Deep

set_option maxHeartbeats 1000000 in
set_option maxRecDepth 100000 in
theorem of_nil (kind : Int) (n : Nat) (v : Value) (ps : Nat → List Int) (w : World) (hp : anyParts w v n ps) (hs : ∀ i, i ≤ n → 1 + (flatTo (blobsB ps) i).length ≤ 100000000) (ht : tabIs w) :
    Calls Tryd.prog 69 #[.pointer none, .int .i64 kind, v] w fun e w' => e = .returned (sumV (sumL (preB kind n ps))) ∧ Below w.heap.size w w' := by
  have ht0 := ht.1
  obtain ⟨pl, hpl⟩ : ∃ pl, pl = preB kind n ps := ⟨_, rfl⟩
  have hpll : pl.length ≤ 100000000 := by
    rw [hpl, preB, List.length_append]; have := hs n (Nat.le_refl _); simp; omega
  have r0 := rowIs_zero w (Array.replicate 32 (.int .u8 0)) 32 32 (.int .u8 0) rfl
  have hb0 : Below w.heap.size w (w.alloc (.cells (Array.replicate 32 (.int .u8 0)) 32)) := (Below.refl w.heap.size w).alloc (Nat.le_refl _) _
  have hs0 : (w.alloc (.cells (Array.replicate 32 (.int .u8 0)) 32)).heap.size = w.heap.size + 1 := by simp
  have X := pre_any kind n v ps _ (hp.below hb0 (Nat.le_refl _)) (fun i hi => by have := hs i hi; omega)
  rw [← hpl] at X ⊢
  clear hpl
  obtain ⟨a, cap, rfl, _, _⟩ := hp.open
  clear hp hs
  go_enter Tryd.func69, Tryd.ntmps69
  go_wp2_with fail
  refine X.mono ?_
  rintro e w1 ⟨v1, rfl, hn1, hb1⟩
  have hb1' : Below (w.alloc (.cells (Array.replicate 32 (.int .u8 0)) 32)).heap.size (w.alloc (.cells (Array.replicate 32 (.int .u8 0)) 32)) w1 := hb1
  have hn1' : newBytes w1 (w.alloc (.cells (Array.replicate 32 (.int .u8 0)) 32)).heap.size v1 pl := hn1
  rw [hs0] at hb1' hn1'
  have hB1 : Below w.heap.size w w1 := hb0.trans (hb1'.mono (by omega))
  have r1 : w1.rowIs w.heap.size 32 32 (fun _ => .int .u8 0) := hb1'.row r0 (by omega)
  have hs1 : w.heap.size + 1 ≤ w1.heap.size := by have := hb1'.size; omega
  obtain ⟨va, vc, rfl, _⟩ := hn1'.is.slice
  have Y := sum_one pl _ _ w1 hn1' (by omega) (ht.below hB1 ht0)
  clear X hb1 hn1 hb0 r0 hs0 hb1' hn1'
  go_wp2_with fail
  refine Y.mono ?_
  rintro e w3 ⟨rfl, hb3⟩
  have hs3 := hb3.size
  have r3 := hb3.row r1 (by omega)
  have hB3 : Below w.heap.size w w3 := hB1.trans (hb3.mono (by omega))
  have r4 := rowIs_zero w3 (Array.replicate 32 (.int .u8 0)) 32 32 (.int .u8 0) rfl
  have hs4 : (w3.alloc (.cells (Array.replicate 32 (.int .u8 0)) 32)).heap.size = w3.heap.size + 1 := by simp
  have hb4 : Below w3.heap.size w3 (w3.alloc (.cells (Array.replicate 32 (.int .u8 0)) 32)) := (Below.refl _ _).alloc (Nat.le_refl _) _
  clear Y hb3 r1 hB1
  go_upto_if 16 with (first | (refine wpList_store_row rfl 32 (.tmp 8) (.tmp 14) rfl rfl w3.heap.size 0 32 (arrV (sumL pl)) rfl rfl hi32' (fun _ _ => rfl) _ _ _ r4 (by omega) ?_; intro w5 r5 hz5 hb5))
  have hz5' : w5.heap.size = w3.heap.size + 1 := hz5.trans hs4
  have hb5' : But (w3.heap.size + 1) w3.heap.size (w3.alloc (.cells (Array.replicate 32 (.int .u8 0)) 32)) w5 := hs4 ▸ hb5
  have hB35 : Below w3.heap.size w3 w5 := hb4.trans ((hb5'.mono (by omega)).below (Nat.le_refl _))
  have hB5 : Below w.heap.size w w5 := hB3.trans (hB35.mono (by omega))
  have r5' : w5.rowIs w3.heap.size 32 32 (arrV (sumL pl)) := r5.congr fun i hi => by rw [if_pos (by omega), Nat.sub_zero]
  have r5w := hB35.row r3 (by omega)
  clear r4 hb4 r5 hb5 hb5' hB35 r3 hB3
  go_wp2_with (first | (refine wpList_load_seg rfl 32 _ rfl w3.heap.size 0 32 (arrV (sumL pl)) rfl _ Tryd.underlying32 rfl hi32' (fun i hi => by rw [Nat.zero_add]; exact r5'.cell hi) ?_) | (refine wpList_store_row rfl 32 (.tmp 6) (.tmp 31) rfl rfl w.heap.size 0 32 (arrV (sumL pl)) rfl rfl hi32' (fun _ _ => rfl) _ _ _ r5w (by omega) ?_; intro w6 r6 hz6 hb6))
  exact bodyPost_ret (results_cell_seg rfl _ _ w.heap.size 32 32 (arrV (sumL pl)) _ rfl Tryd.underlying32 rfl hi32' (r6.congr fun i hi => by rw [if_pos (by omega), Nat.sub_zero])) rfl ⟨rfl, hB5.trans ((hb6.mono (by omega)).below (Nat.le_refl _))⟩

set_option maxRecDepth 100000 in
theorem rpre_any (kind : Int) (n : Nat) (v : Value) (ps : Nat → List Int) (w : World) (hp : anyParts w v n ps) (hs : ∀ i, i ≤ n → 1 + (flatTo (blobsB ps) i).length ≤ 1000000000000) :
    Calls Tryd.prog 93 #[.int .i64 kind, v] w fun e w' => ∃ v', e = .returned v' ∧ newBytes w' w.heap.size v' (preB kind n ps) ∧ Below w.heap.size w w' := by
  have hb0 : Below w.heap.size w (w.alloc (.cells #[.int .u8 (kind % 256)] 5)) := (Below.refl _ _).alloc (Nat.le_refl _) _
  have hk : 0 ≤ kind % 256 ∧ kind % 256 ≤ 255 := by omega
  have h1 : isBytes (w.alloc (.cells #[.int .u8 (kind % 256)] 5)) (.slice (some ⟨w.heap.size, 0, none⟩) 1 1) [kind % 256] := one_byte w _ hk.1 hk.2
  have X := rblobs_any [kind % 256] _ v n ps _ h1 (hp.below hb0 (Nat.le_refl _)) (fun i hi => by have := hs i hi; simp; omega)
  obtain ⟨a, cap, rfl, _, _⟩ := hp.open
  go_enter Tryd.func93, Tryd.ntmps93
  go_wp2_with fail
  refine X.mono ?_
  rintro e w1 ⟨v1, rfl, hn1, hb1⟩
  go_wp2
  go_ret
  exact ⟨_, rfl, hn1.mono (by simp), hb0.trans (hb1.mono (by simp))⟩

set_option maxHeartbeats 1000000 in
set_option maxRecDepth 100000 in
theorem rof_any (kind : Int) (n : Nat) (v : Value) (ps : Nat → List Int) (w : World) (hp : anyParts w v n ps) (hs : ∀ i, i ≤ n → 1 + (flatTo (blobsB ps) i).length ≤ 100000000) :
    Calls Tryd.prog 72 #[.int .i64 kind, v] w fun e w' => e = .returned (sumV (sumL (preB kind n ps))) ∧ Below w.heap.size w w' := by
  obtain ⟨pl, hpl⟩ : ∃ pl, pl = preB kind n ps := ⟨_, rfl⟩
  have hpll : pl.length ≤ 100000000 := by
    rw [hpl, preB, List.length_append]; have := hs n (Nat.le_refl _); simp; omega
  have r0 := rowIs_zero w (Array.replicate 32 (.int .u8 0)) 32 32 (.int .u8 0) rfl
  have hb0 : Below w.heap.size w (w.alloc (.cells (Array.replicate 32 (.int .u8 0)) 32)) := (Below.refl w.heap.size w).alloc (Nat.le_refl _) _
  have hs0 : (w.alloc (.cells (Array.replicate 32 (.int .u8 0)) 32)).heap.size = w.heap.size + 1 := by simp
  have X := rpre_any kind n v ps _ (hp.below hb0 (Nat.le_refl _)) (fun i hi => by have := hs i hi; omega)
  rw [← hpl] at X ⊢
  clear hpl
  obtain ⟨a, cap, rfl, _, _⟩ := hp.open
  clear hp hs
  go_enter Tryd.func72, Tryd.ntmps72
  go_wp2_with fail
  refine X.mono ?_
  rintro e w1 ⟨v1, rfl, hn1, hb1⟩
  have hb1' : Below (w.alloc (.cells (Array.replicate 32 (.int .u8 0)) 32)).heap.size (w.alloc (.cells (Array.replicate 32 (.int .u8 0)) 32)) w1 := hb1
  have hn1' : newBytes w1 (w.alloc (.cells (Array.replicate 32 (.int .u8 0)) 32)).heap.size v1 pl := hn1
  rw [hs0] at hb1' hn1'
  have hB1 : Below w.heap.size w w1 := hb0.trans (hb1'.mono (by omega))
  have r1 : w1.rowIs w.heap.size 32 32 (fun _ => .int .u8 0) := hb1'.row r0 (by omega)
  have hs1 : w.heap.size + 1 ≤ w1.heap.size := by have := hb1'.size; omega
  have hq : isParts (w1.alloc (.cells #[v1] 23)) (.slice (some ⟨w1.heap.size, 0, none⟩) 1 1) 1 (fun _ => pl) := Or.inr ⟨w1.heap.size, 0, 1, fun _ => v1, rfl, by simp, by unfold maxLen; omega, fun i hi => by
    obtain rfl : i = 0 := by omega
    exact ⟨one_cell w1 _ _, Or.inl (hn1'.is.below ((Below.refl _ _).alloc (Nat.le_refl _) _) (Nat.le_refl _))⟩⟩
  have Y := rsum_any 1 _ _ _ hq.any (fun i hi => by
    have : i = 0 ∨ i = 1 := by omega
    rcases this with rfl | rfl
    · simp [flatTo]
    · simp [flatTo]; omega)
  have f1 : flatTo (fun _ => pl) 1 = pl := by simp [flatTo]
  rw [f1] at Y
  obtain ⟨va, vc, rfl, _⟩ := hn1'.is.slice
  clear X hb1 hn1 hb0 r0 hs0 hb1' hn1' hq f1
  go_wp2_with fail
  refine Y.mono ?_
  rintro e w3 ⟨rfl, hb3⟩
  have hb3' : Below w1.heap.size w1 w3 := ((Below.refl _ w1).alloc (Nat.le_refl _) _).trans (hb3.mono (by simp))
  have r3 := hb3'.row r1 (by omega)
  have hB3 : Below w.heap.size w w3 := hB1.trans (hb3'.mono (by omega))
  rw [sumL_row]
  clear Y hb3 hb3' r1 hB1
  go_wp2_with (first | (refine wpList_store_row rfl 32 _ _ rfl rfl w.heap.size 0 32 (arrV (sumL pl)) rfl rfl hi32' (fun _ _ => rfl) _ _ _ r3 (by omega) ?_; intro w6 r6 hz6 hb6))
  exact bodyPost_ret (results_cell_seg rfl _ _ w.heap.size 32 32 (arrV (sumL pl)) _ rfl Tryd.underlying32 rfl hi32' (r6.congr fun i hi => by rw [if_pos (by omega), Nat.sub_zero])) rfl ⟨rfl, hB3.trans ((hb6.mono (by have := hB3.size; omega)).below (Nat.le_refl _))⟩
end Go.Proofs.YtgchnobifidjcaaDoor

/- append of a slice of elements of any size, also of none. -/
namespace Go.Proofs.YtgchnobifidjcaaDoor
set_option linter.unusedSimpArgs false
set_option linter.unusedVariables false
open Go.RowKit Go.Deep
section
variable {P : Program}
theorem row_append (w : World) (t ty e : TypeId) (z : Value) (size bytes : Nat) (ht : P.underlying t = some (.slice e)) (hi : (P.info? e).map (fun i => (i.zero, i.size, i.bytes)) = some (some z, size, bytes)) (hz : z.cells.size = size) (hsz : 0 < size)
    (B : Nat) (v : Value) (n : Nat) (xs : List Value) (hv : w.ownsRow B e size v n xs) (sv : Value) (m : Nat) (news : List Value) (hl : news.length = m * size)
    (hs : ∃ a c, sv = .slice a m c ∧ (0 < m → ∃ qb qo, a = some ⟨qb, qo, none⟩ ∧ ∀ (j : Nat) (u : Value), news[j]? = some u → w.cell? ⟨qb, qo + j, none⟩ = some u)) (h1 : ∀ u ∈ news, u.oneCell' = true)
    (h63 : n + m ≤ maxLen) (hb : (n + m) * bytes ≤ 140737488355328) (hB : B ≤ w.heap.size) :
    ∃ a c w', (Builtin.append_ #[t, t] ty #[v, sv]).run P w = .ok (.slice a (n + m) c) w' ∧ w'.ownsRow B e size (.slice a (n + m) c) (n + m) (xs ++ news) ∧ w.grownBy w' v.ownBlock ∧
      ((Value.slice a (n + m) c).ownBlock = v.ownBlock ∨ (Value.slice a (n + m) c).ownBlock = some w.heap.size) := by
  cases hq : P.info? e with
  | none => simp [hq] at hi
  | some i =>
    simp only [hq, Option.map_some, Option.some.injEq, Prod.mk.injEq] at hi
    obtain ⟨hz', hs', hb'⟩ := hi
    obtain ⟨a, c, rfl, ha⟩ := hs
    by_cases h0 : m = 0
    · subst h0
      have hn0 : news = [] := List.length_eq_zero_iff.1 (by omega)
      subst hn0
      have hv' := hv
      obtain ⟨hl', h | ⟨g, cap, cur, rfl, hg, hbk, hc, hm, hcs, htk⟩⟩ := hv
      · obtain ⟨rfl, rfl⟩ := h
        exact ⟨none, 0, w, run_append_nil w t ty e ht (by rw [hq]; rfl) none 0 0 (Nat.le_refl _) a c, by simpa using hv', World.grownBy.refl _ _, Or.inl rfl⟩
      · exact ⟨_, cap, w, run_append_nil w t ty e ht (by rw [hq]; rfl) _ n cap hc a c, by simpa using hv', World.grownBy.refl _ _, Or.inl rfl⟩
    · obtain ⟨qb, qo, rfl, hc⟩ := ha (by omega)
      obtain ⟨g, cap, w', hr, ho, hg, hat, hlt⟩ := run_append_lies (P := P) w t ty B e i z size bytes ht hq hz' hs' hb' hz hsz v n xs hv ⟨qb, qo, none⟩ m c news hl (fun j u hu => by rw [Addr.add_mid]; exact hc j u hu) h1 (by omega) h63 hb hB w.heap.size rfl
      exact ⟨_, cap, w', hr, ho, hg, by
        rcases hat with h | h
        · exact Or.inl h.symm
        · exact Or.inr (by rw [h]; rfl)⟩
theorem ownsRow_empty (w : World) (e : TypeId) (size B b : Nat) (hb : w.heap[b]? = some (.cells #[] e (0, 0))) (hB : B ≤ b) : w.ownsRow B e size (.slice (some ⟨b, 0, none⟩) 0 0) 0 [] :=
  ⟨by simp, Or.inr ⟨b, 0, #[], rfl, hB, hb, Nat.le_refl _, by unfold maxLen; omega, by simp, by simp⟩⟩
theorem ownsRow_far {w w' : World} {B e size : Nat} {v : Value} {n : Nat} {xs : List Value} (h : w.ownsRow B e size v n xs) (hb : ∀ k, v.ownBlock = some k → w'.heap[k]? = w.heap[k]?) : w'.ownsRow B e size v n xs := by
  obtain ⟨hl, h | ⟨g, cap, cur, rfl, hg, hbk, hr⟩⟩ := h
  · exact ⟨hl, Or.inl h⟩
  · exact ⟨hl, Or.inr ⟨g, cap, cur, rfl, hg, by rw [hb g rfl]; exact hbk, hr⟩⟩
theorem ownsRow_block {w : World} {B e size : Nat} {v : Value} {n : Nat} {xs : List Value} (h : w.ownsRow B e size v n xs) (k : Nat) (hk : v.ownBlock = some k) : B ≤ k ∧ k < w.heap.size := by
  obtain ⟨_, h | ⟨g, cap, cur, rfl, hB, hb, _⟩⟩ := h
  · rw [h.1] at hk; cases hk
  · obtain rfl : g = k := by simpa [Value.ownBlock] using hk
    exact ⟨hB, (Array.getElem?_eq_some_iff.1 hb).1⟩
theorem ownsRow_lower {w : World} {B C e size : Nat} {v : Value} {n : Nat} {xs : List Value} (h : w.ownsRow B e size v n xs) (hC : C ≤ B) : w.ownsRow C e size v n xs := by
  obtain ⟨hl, h | ⟨g, cap, cur, rfl, hg, hr⟩⟩ := h
  · exact ⟨hl, Or.inl h⟩
  · exact ⟨hl, Or.inr ⟨g, cap, cur, rfl, by omega, hr⟩⟩
theorem ownsRow_slice {w : World} {B e size : Nat} {v : Value} {n : Nat} {xs : List Value} (h : w.ownsRow B e size v n xs) : ∃ a c, v = .slice a n c ∧ n ≤ c ∧ c ≤ maxLen ∧ (0 < n → ∃ g, a = some ⟨g, 0, none⟩ ∧ g < w.heap.size ∧ B ≤ g ∧ ∀ (j : Nat) (u : Value), xs[j]? = some u → w.cell? ⟨g, j, none⟩ = some u) := by
  obtain ⟨hl, h | ⟨g, cap, cur, rfl, hg, hbk, hc, hm, hcs, htk⟩⟩ := h
  · obtain ⟨rfl, rfl⟩ := h
    exact ⟨none, 0, rfl, Nat.le_refl _, by unfold maxLen; omega, fun h => by omega⟩
  · refine ⟨_, cap, rfl, hc, hm, fun _ => ⟨g, rfl, (Array.getElem?_eq_some_iff.1 hbk).1, hg, fun j u hu => ?_⟩⟩
    rw [cell_of_row _ _ _ _ _ _ hbk]
    have hj : j < n * size := by rw [← hl]; exact (List.getElem?_eq_some_iff.1 hu).1
    rw [← htk, List.getElem?_take, if_pos hj, Array.getElem?_toList] at hu
    exact hu
end
end Go.Proofs.YtgchnobifidjcaaDoor

/- Bytes that may be written over: what clear leaves. -/
namespace Go.Proofs.YtgchnobifidjcaaDoor
set_option linter.unusedSimpArgs false
set_option linter.unusedVariables false
open Go.RowKit Go.Deep

def softE (w : World) (u : Value) : Prop := ∀ pb o n c, u = .slice (some ⟨pb, o, none⟩) n c → w.there pb o n
def softB (w : World) (u : Value) (l : List Int) : Prop := isBytes w u l ∧ softE w u
theorem there_of_block {w w' : World} {b o n : Nat} (h : w.there b o n) (hb : w'.heap[b]? = w.heap[b]?) : w'.there b o n := fun j hj => by
  rw [World.cell?_of_block (w' := w') (w := w) (a := ⟨b, o + j, none⟩) hb, World.frozen?_of_block (w' := w') (w := w) (a := ⟨b, o + j, none⟩) hb]; exact h j hj
theorem softE.far {w w' : World} {u : Value} (h : softE w u) (hb : ∀ k, u.ownBlock = some k → w'.heap[k]? = w.heap[k]?) : softE w' u := fun pb o n c e =>
  there_of_block (h pb o n c e) (hb pb (by rw [e]; rfl))
theorem softB.block {w : World} {u : Value} {l : List Int} (h : softB w u l) (k : Nat) (hk : u.ownBlock = some k) : k < w.heap.size := h.1.block k hk
theorem softB.far {w w' : World} {u : Value} {l : List Int} (h : softB w u l) (hb : ∀ k, u.ownBlock = some k → w'.heap[k]? = w.heap[k]?) (hs : w.heap.size ≤ w'.heap.size) : softB w' u l := ⟨h.1.far hb hs, h.2.far hb⟩
theorem softB.below {w w' : World} {B : Nat} {u : Value} {l : List Int} (h : softB w u l) (hb : Below B w w') (hB : w.heap.size ≤ B) : softB w' u l :=
  h.far (fun k hk => hb.block k (Nat.lt_of_lt_of_le (h.block k hk) hB)) hb.size
theorem newBytes.softE {w : World} {B : Nat} {v : Value} {l : List Int} (h : newBytes w B v l) : softE w v := fun pb o n c e => by
  obtain ⟨⟨_, h | ⟨g, cap, cur, he, hB, hg, hc, hm, hs, ht⟩⟩, hb⟩ := h
  · rw [h.1] at e; cases e
  · rw [he] at e
    have e' : (g = pb ∧ 0 = o) ∧ (l.map (Value.int .u8)).length = n ∧ cap = c := by simpa using e
    obtain ⟨⟨rfl, rfl⟩, rfl, rfl⟩ := e'
    have hrow : w.rowIs g 5 cap (fun j => cur.getD j undef) := ⟨cur, hg, by omega, fun j hj => by rw [Array.getElem?_eq_getElem (by omega)]; simp [Array.getD, hs, hj]⟩
    exact there_of_row hrow (by omega)
theorem newBytes.soft {w : World} {B : Nat} {v : Value} {l : List Int} (h : newBytes w B v l) : softB w v l := ⟨h.is, h.softE⟩
/-- nothing has turned but in [B, C). -/
structure Mid (B C : Nat) (w w' : World) : Prop where
  os : w'.os = w.os
  tape : w'.tape = w.tape
  output : w'.output = w.output
  size : w'.heap.size = w.heap.size
  block : ∀ k, (k < B ∨ C ≤ k) → w'.heap[k]? = w.heap[k]?
theorem Mid.refl (B C : Nat) (w : World) : Mid B C w w := ⟨rfl, rfl, rfl, rfl, fun _ _ => rfl⟩
theorem Mid.trans {B C : Nat} {a b c : World} (h : Mid B C a b) (g : Mid B C b c) : Mid B C a c := ⟨g.os.trans h.os, g.tape.trans h.tape, g.output.trans h.output, g.size.trans h.size, fun k hk => (g.block k hk).trans (h.block k hk)⟩
theorem Mid.below {B C : Nat} {w w' : World} (h : Mid B C w w') : Below B w w' := ⟨h.os, h.tape, h.output, Nat.le_of_eq h.size.symm, fun k hk => h.block k (Or.inl hk)⟩
theorem zero8s : ∀ w, (zeroValue 5).run Tryd.prog w = .ok (.int .u8 0) w := fun w => by kernel_rfl
/-- clear(u). -/
theorem soft_clear (w : World) (u : Value) (x : Option Addr) (k y : Nat) (hu : u = .slice x k y) (hx : 0 < k → ∃ pb po, x = some ⟨pb, po, none⟩) (hs : softE w u) :
    ∃ w', (Builtin.clear_ #[23] 0 #[u]).run Tryd.prog w = .ok (.tuple #[]) w' ∧ w'.heap.size = w.heap.size ∧ w'.os = w.os ∧ w'.tape = w.tape ∧ w'.output = w.output ∧
      (∀ j, u.ownBlock ≠ some j → w'.heap[j]? = w.heap[j]?) ∧ ∀ b o n, w.there b o n → w'.there b o n := by
  by_cases h0 : 0 < k
  · obtain ⟨pb, po, rfl⟩ := hx h0
    have ht := hs pb po k y hu
    subst hu
    have hb : But w.heap.size pb w (w.setCells pb po (List.replicate k (.int .u8 0))) := but_setCells _ _ (But.refl _ _ _)
    refine ⟨_, Go.Lib.run_clear_slice w 23 5 0 (.int .u8 0) Tryd.underlying23 zero8s rfl rfl pb po k y h0 (fun j hj => (ht j hj).1) (fun j hj => (ht j hj).2), size_setCells _ _ _ _, hb.os, hb.tape, hb.output, fun j hj => ?_, fun b o n h => World.there_setCells h _ _ _⟩
    by_cases hl : j < w.heap.size
    · exact hb.block j hl (fun e => hj (by rw [e]; rfl))
    · rw [Array.getElem?_eq_none (by rw [size_setCells]; omega), Array.getElem?_eq_none (by omega)]
  · obtain rfl : k = 0 := by omega
    subst hu
    exact ⟨w, by cases x <;> simp [Builtin.clear_, run_underlying Tryd.underlying23], rfl, rfl, rfl, rfl, fun _ _ => rfl, fun _ _ _ h => h⟩
/-- v is a slice of slices of bytes that may be written over; all their memory lies in [B, C). -/
def softParts (w : World) (B C : Nat) (v : Value) (n : Nat) : Prop :=
  ∃ a c, v = .slice a n c ∧ n ≤ maxLen ∧ ∀ i, i < n → ∃ qb qo x k y, a = some ⟨qb, qo, none⟩ ∧ (B ≤ qb ∧ qb < C) ∧ w.cell? ⟨qb, qo + i, none⟩ = some (.slice x k y) ∧ (0 < k → ∃ pb po, x = some ⟨pb, po, none⟩) ∧ softE w (.slice x k y) ∧
    ∀ j, (Value.slice x k y).ownBlock = some j → B ≤ j ∧ j < C ∧ j ≠ qb
theorem softParts.clear {w : World} {B C : Nat} {v : Value} {n : Nat} (h : softParts w B C v n) (i : Nat) (hi : i < n) :
    ∃ qb qo cap x k y w', v = .slice (some ⟨qb, qo, none⟩) n cap ∧ w.cell? ⟨qb, qo + i, none⟩ = some (.slice x k y) ∧ (Builtin.clear_ #[23] 0 #[.slice x k y]).run Tryd.prog w = .ok (.tuple #[]) w' ∧ softParts w' B C v n ∧ Mid B C w w' := by
  obtain ⟨a, c, rfl, hm, he⟩ := h
  obtain ⟨qb, qo, x, k, y, rfl, hq, hc, hx, hs, ho⟩ := he i hi
  obtain ⟨w', hr, hz, h1, h2, h3, hb, ht⟩ := soft_clear w _ x k y rfl hx hs
  refine ⟨qb, qo, c, x, k, y, w', rfl, hc, hr, ⟨_, _, rfl, hm, fun i' hi' => ?_⟩, h1, h2, h3, hz, fun j hj => hb j fun e => by have := ho j e; omega⟩
  obtain ⟨qb', qo', x', k', y', e', _, hc', hx', hs', ho'⟩ := he i' hi'
  have e2 : qb = qb' ∧ qo = qo' := by simpa using e'
  obtain ⟨rfl, rfl⟩ := e2
  exact ⟨qb, qo, x', k', y', rfl, hq, by rw [World.cell?_of_block (w' := w') (w := w) (a := ⟨qb, qo + i', none⟩) (hb qb fun e => (ho qb e).2.2 rfl)]; exact hc', hx', fun pb o m c e => ht _ _ _ (hs' pb o m c e), ho'⟩
theorem softParts.far {w w' : World} {B C : Nat} {v : Value} {n : Nat} (h : softParts w B C v n) (hb : ∀ j, B ≤ j → j < C → w'.heap[j]? = w.heap[j]?) : softParts w' B C v n := by
  obtain ⟨a, c, e, hm, he⟩ := h
  refine ⟨a, c, e, hm, fun i hi => ?_⟩
  obtain ⟨qb, qo, x, k, y, e1, hq, hc, hx, hs, ho⟩ := he i hi
  exact ⟨qb, qo, x, k, y, e1, hq, by rw [World.cell?_of_block (w' := w') (w := w) (a := ⟨qb, qo + i, none⟩) (hb qb hq.1 hq.2)]; exact hc, hx, hs.far (fun j hj => hb j (ho j hj).1 (ho j hj).2.1), ho⟩
theorem softParts.open {w : World} {B C : Nat} {v : Value} {n : Nat} (h : softParts w B C v n) : ∃ a c, v = .slice a n c := by
  obtain ⟨a, c, e, _⟩ := h; exact ⟨a, c, e⟩
end Go.Proofs.YtgchnobifidjcaaDoor

/- Books: Find. -/
namespace Go.Proofs.YtgchnobifidjcaaDoor
set_option linter.unusedSimpArgs false
set_option linter.unusedVariables false
open Go.RowKit Go.Deep

/-- []byte(s). -/
theorem str_bytes (w : World) (s : ByteArray) (hs : s.size ≤ 1000000000000) :
    ∃ v' w', (convert 9 23 (.string s)).run Tryd.prog w = .ok v' w' ∧ isBytes w' v' (sBytes s) ∧ (∀ k, v'.ownBlock = some k → k = w.heap.size) ∧ Below w.heap.size w w' ∧ w'.heap.size = w.heap.size + 1 ∧ softE w' v' := by
  have hge := grownCap_ge w s.size 0 5
  have hcm : grownCap w s.size 0 5 ≤ maxLen := grownCap_le_maxLen w s.size 0 5 (by unfold maxLen; omega)
  refine ⟨_, _, Go.Lib.run_convert_string_bytes w 9 23 5 s Tryd.underlying9 Tryd.underlying23 Tryd.underlying5, Or.inr ⟨w.heap.size, 0, _, by rw [sBytes_length], by rw [sBytes_length]; exact hge, hcm, by rw [Go.Lib.bytesWorld_size]; omega, fun i hi => ?_, sBytes_byte s⟩, fun k hk => by simpa [Value.ownBlock] using hk.symm, ⟨rfl, rfl, rfl, by rw [Go.Lib.bytesWorld_size]; omega, fun k hk => Go.Lib.bytesWorld_at_old w _ s k hk⟩, Go.Lib.bytesWorld_size _ _ _, fun pb o n c e => ?_⟩
  case refine_2 =>
    have e' : (w.heap.size = pb ∧ 0 = o) ∧ s.size = n ∧ grownCap w s.size 0 5 = c := by simpa using e
    obtain ⟨⟨rfl, rfl⟩, rfl, rfl⟩ := e'
    intro j hj
    rw [Nat.zero_add]
    refine ⟨by rw [Go.Lib.bytesWorld_cell w _ s j hj]; rfl, ?_⟩
    have hsz : s.size ≤ (Go.Lib.bytesCells w 5 s).size := by simp [Go.Lib.bytesCells]
    simp [World.frozen?, Go.Lib.bytesWorld_at_new]
    omega
  rw [sBytes_length] at hi
  rw [Nat.zero_add, Go.Lib.bytesWorld_cell w _ s i hi]
  congr 2
  have hi' : i < s.data.toList.length := by rw [Array.length_toList]; exact hi
  rw [sBytes, List.getD_eq_getElem?_getD, List.getD_eq_getElem?_getD, List.getElem?_map, List.getElem?_eq_getElem hi']
  rfl
theorem note33 : (Tryd.prog.info? 107).map (·.size) = some 33 := by kernel_rfl
/-- a note stored into a note. -/
theorem stow_run (w : World) (b : Nat) (x : Nt) {t : Nat} {f : Nat → Value} (hr : w.rowIs b t 33 f) : (storeVar 107 ⟨b, 0, none⟩ (.agg (rowV 33 (noteV x)))).run Tryd.prog w = .ok () (w.setCells b 0 (rowV 33 (noteV x)).toList) :=
  run_storeVar_mid (P := Tryd.prog) w b 0 107 (rowV 33 (noteV x)) (by rw [rowV_size]; exact there_of_row hr (by omega)) (by rw [note33, rowV_size]) (by
    rw [Array.all_eq_true_iff_forall_mem]
    intro v hv
    obtain ⟨i, hi', rfl⟩ := Array.mem_iff_getElem.1 hv
    have hlt : i < 33 := by rw [rowV_size] at hi'; exact hi'
    have := rowV_get 33 (noteV x) i hlt
    rw [Array.getElem?_eq_getElem hi'] at this
    rw [Option.some.inj this]; exact noteV_one x i)
theorem stow_row (w : World) (b : Nat) (x : Nt) {t : Nat} {f : Nat → Value} (hr : w.rowIs b t 33 f) : (w.setCells b 0 (rowV 33 (noteV x)).toList).rowIs b t 33 (noteV x) ∧ (w.setCells b 0 (rowV 33 (noteV x)).toList).heap.size = w.heap.size ∧ But w.heap.size b w (w.setCells b 0 (rowV 33 (noteV x)).toList) :=
  ⟨(rowIs_splice hr).congr fun i hi => by rw [if_pos (by omega), Nat.sub_zero], size_setCells _ _ _ _, but_setCells _ _ (But.refl _ _ _)⟩
theorem softE_nil (w : World) : softE w (.slice none 0 0) := fun _ _ _ _ e => by simp at e
/-- the bytes that were noted first. -/
def foundB (N : List Nt) (q : List Int) : List Int := match firstAt N q with
  | some i => sBytes (N.getD i zeroN).2
  | none => []
theorem foundN_sum {N : List Nt} (h : ∀ x ∈ N, isSum x.1) (q : List Int) : isSum (foundN N q).1 := by
  unfold foundN
  cases hf : firstAt N q with
  | none => exact zeroN_sum
  | some i =>
    have := firstAt_lt hf
    refine h _ ?_
    simp only
    rw [List.getD_eq_getElem?_getD, List.getElem?_eq_getElem this]; exact List.getElem_mem _
end Go.Proofs.YtgchnobifidjcaaDoor

/- How long preimages are. Plain mathematics. -/
namespace Go.Proofs.YtgchnobifidjcaaDoor
set_option linter.unusedSimpArgs false
set_option linter.unusedVariables false
open Go.RowKit Go.Deep

theorem str_beq (s t : ByteArray) : (s.toList == t.toList) = decide (s = t) := by
  rw [Bool.eq_iff_iff, beq_iff_eq, decide_eq_true_iff, ByteArray.toList_eq, ByteArray.toList_eq]
  exact ⟨fun h => ByteArray.ext (Array.toList_inj.1 h), fun h => by rw [h]⟩
theorem numB_le (x : Int) : (numB x).length ≤ 9 := by rw [numB_length]; have := szI_le x; omega
theorem blobs_le (ps : Nat → List Int) : ∀ n, (flatTo (blobsB ps) n).length ≤ 9 * n + (flatTo ps n).length
  | 0 => by simp [flatTo]
  | n + 1 => by
    have := blobs_le ps n
    have h9 := numB_le ((ps n).length : Int)
    rw [flatTo, flatTo, List.length_append, List.length_append, show blobsB ps n = numB (ps n).length ++ ps n from rfl, List.length_append]
    omega
theorem part_le (ps : Nat → List Int) (n j : Nat) (h : j < n) : (ps j).length ≤ (flatTo ps n).length := by
  have := flatTo_mono ps n (j + 1) h
  rw [flatTo, List.length_append] at this; omega
end Go.Proofs.YtgchnobifidjcaaDoor

/- Rows of sums; the node of some sums. -/
namespace Go.Proofs.YtgchnobifidjcaaDoor
set_option linter.unusedSimpArgs false
set_option linter.unusedVariables false
open Go.RowKit Go.Deep

/-- v is a slice of these sums. -/
def sumsAt (w : World) (v : Value) (L : List (List Int)) : Prop :=
  (∀ x ∈ L, isSum x) ∧ ∃ a cap, v = .slice a L.length cap ∧ L.length ≤ cap ∧ cap ≤ maxLen ∧
    (0 < L.length → ∃ g o, a = some ⟨g, o, none⟩ ∧ g < w.heap.size ∧ ∀ i (hi : i < L.length) j, j < 32 → w.cell? ⟨g, o + i * 32 + j, none⟩ = some (arrV L[i] j))
theorem sumsAt.below {w w' : World} {B : Nat} {v : Value} {L : List (List Int)} (h : sumsAt w v L) (hb : Below B w w') (hB : w.heap.size ≤ B) : sumsAt w' v L := by
  obtain ⟨h1, a, cap, h2, h3, h4, h5⟩ := h
  refine ⟨h1, a, cap, h2, h3, h4, fun h0 => ?_⟩
  obtain ⟨g, o, e, hg, hc⟩ := h5 h0
  exact ⟨g, o, e, Nat.lt_of_lt_of_le hg hb.size, fun i hi j hj => (hb.cell (p := ⟨g, o + i * 32 + j, none⟩) (Nat.lt_of_lt_of_le hg hB)).trans (hc i hi j hj)⟩
theorem sumsAt.nil (w : World) : sumsAt w (.slice none 0 0) [] := ⟨fun x hx => by simp at hx, none, 0, rfl, Nat.le_refl _, by unfold maxLen; omega, fun h => by simp at h⟩
section
variable {P : Program}
theorem run_slice_to32 (t e : TypeId) (b o len cap n : Nat) (hu : P.underlying t = some (.slice e)) (hs : (P.info? e).map (·.size) = some 32) (hm : n ≤ cap) (w : World) :
    (Instr.slice t (.slice (some ⟨b, o, none⟩) len cap) none (some (.int .i64 n)) none).run P w = .ok (.slice (some ⟨b, o, none⟩) n cap) w := by
  cases hq : P.info? e with
  | none => simp [hq] at hs
  | some i =>
    have hi : i.size = 32 := by simpa [hq] using hs
    have h0 : (0 : Int) ≤ (n : Int) ∧ (n : Int) ≤ (cap : Int) := by omega
    simp [Instr.slice, Instr.sliceBounds, Instr.sliceBound, asIntOf, run_underlying hu, sizeOf, typeInfo, hq, hi, h0, hm, Addr.add_mid]
theorem run_slice_from32 (t e : TypeId) (b o len cap m : Nat) (hu : P.underlying t = some (.slice e)) (hs : (P.info? e).map (·.size) = some 32) (hm : m ≤ len) (hc : m < cap) (w : World) :
    (Instr.slice t (.slice (some ⟨b, o, none⟩) len cap) (some (.int .i64 m)) none none).run P w = .ok (.slice (some ⟨b, o + m * 32, none⟩) (len - m) (cap - m)) w := by
  cases hq : P.info? e with
  | none => simp [hq] at hs
  | some i =>
    have hi : i.size = 32 := by simpa [hq] using hs
    have h0 : (0 : Int) ≤ (m : Int) ∧ (m : Int) ≤ (len : Int) := by omega
    have hc' : ¬ cap = m := by omega
    simp [Instr.slice, Instr.sliceBounds, Instr.sliceBound, asIntOf, run_underlying hu, sizeOf, typeInfo, hq, hi, h0, hc', hm, Addr.add_mid]
end
/-- l[:n] and l[n:]. -/
theorem sumsAt.to {w : World} {v : Value} {L : List (List Int)} (h : sumsAt w v L) (n : Nat) (hn : n < L.length) :
    ∃ u, (∀ wz : World, (Instr.slice 39 v none (some (.int .i64 n)) none).run Tryd.prog wz = .ok u wz) ∧ sumsAt w u (L.take n) := by
  obtain ⟨h1, a, cap, rfl, h3, h4, h5⟩ := h
  obtain ⟨g, o, rfl, hg, hc⟩ := h5 (by omega)
  have hl : (L.take n).length = n := by simp; omega
  refine ⟨_, fun wz => run_slice_to32 39 32 g o L.length cap n Tryd.underlying39 (by kernel_rfl) (by omega) wz, fun x hx => h1 x (List.mem_of_mem_take hx), _, cap, by rw [hl], by omega, h4, fun _ => ⟨g, o, rfl, hg, fun i hi j hj => ?_⟩⟩
  rw [List.getElem_take]; exact hc i (by omega) j hj
theorem sumsAt.from {w : World} {v : Value} {L : List (List Int)} (h : sumsAt w v L) (n : Nat) (hn : n < L.length) :
    ∃ u, (∀ wz : World, (Instr.slice 39 v (some (.int .i64 n)) none none).run Tryd.prog wz = .ok u wz) ∧ sumsAt w u (L.drop n) := by
  obtain ⟨h1, a, cap, rfl, h3, h4, h5⟩ := h
  obtain ⟨g, o, rfl, hg, hc⟩ := h5 (by omega)
  have hl : (L.drop n).length = L.length - n := by simp
  refine ⟨_, fun wz => run_slice_from32 39 32 g o L.length cap n Tryd.underlying39 (by kernel_rfl) (by omega) (by omega) wz, fun x hx => h1 x (List.mem_of_mem_drop hx), _, cap - n, by rw [hl], by omega, by omega, fun _ => ⟨g, o + n * 32, rfl, hg, fun i hi j hj => ?_⟩⟩
  rw [List.getElem_drop, show o + n * 32 + i * 32 + j = o + (n + i) * 32 + j by omega]
  exact hc (n + i) (by omega) j hj
/-- the slices of the sums' bytes. -/
def sumSl (g o : Nat) (i : Nat) : Value := .slice (some ⟨g, o + i * 32, none⟩) 32 32
theorem owns_parts {w : World} {B : Nat} {v : Value} {svs : List Value} {ps : Nat → List Int} (h : owns w B 23 v svs) (hp : ∀ i (hi : i < svs.length), isBytes w svs[i] (ps i)) : isParts w v svs.length ps := by
  by_cases h0 : svs.length = 0
  · obtain ⟨_, h | ⟨g, cap, cur, rfl, hB, hb, hc, hm, hs, ht⟩⟩ := h
    · exact Or.inl ⟨h.1, h0⟩
    · exact Or.inr ⟨g, 0, cap, fun _ => undef, rfl, (Array.getElem?_eq_some_iff.1 hb).1, by rw [h0]; exact Nat.zero_le _, fun i hi => by omega⟩
  · obtain ⟨g, cap, rfl, hB, hg, hcap, hmx, hcell, _⟩ := h.shape (by omega)
    refine Or.inr ⟨g, 0, cap, fun i => svs.getD i undef, rfl, hg, by omega, fun i hi => ?_⟩
    have e1 : svs.getD i undef = svs[i] := by rw [List.getD_eq_getElem?_getD, List.getElem?_eq_getElem hi]; rfl
    show w.cell? ⟨g, 0 + i, none⟩ = some (svs.getD i undef) ∧ anyBytes w (svs.getD i undef) (ps i)
    rw [e1, Nat.zero_add]
    exact ⟨hcell i _ (List.getElem?_eq_getElem hi), Or.inl (hp i hi)⟩
theorem infoSl : (Tryd.prog.info? 23).map (fun i => (i.zero, i.size, i.bytes)) = some (some (.slice none 0 0), 1, 24) := by kernel_rfl
/-- append(parts, l[i][:]). -/
theorem sl_append_run (w : World) (B : Nat) (v u : Value) (svs : List Value) (hv : owns w B 23 v svs) (hu : u.oneCell' = true) (hs : svs.length < 1000000) (hB : B ≤ w.heap.size) :
    ∃ a c w', (Builtin.append_ #[130, 130] 130 #[v, .slice (some ⟨w.heap.size, 0, none⟩) 1 1]).run Tryd.prog (w.alloc (.cells #[u] 23)) = .ok (.slice a (svs.length + 1) c) w' ∧ owns w' B 23 (.slice a (svs.length + 1) c) (svs ++ [u]) ∧ Below B w w' := by
  have b0 : Below w.heap.size w (w.alloc (.cells #[u] 23)) := (Below.refl _ _).alloc (Nat.le_refl _) _
  have h1 := hv.alloc (.cells #[u] 23)
  obtain ⟨a, c, w', hr, ho, hg, hat⟩ := row_append (P := Tryd.prog) (w.alloc (.cells #[u] 23)) 130 130 23 (.slice none 0 0) 1 24 Tryd.underlying130 infoSl rfl (by omega)
    B v svs.length svs h1 (.slice (some ⟨w.heap.size, 0, none⟩) 1 1) 1 [u] rfl
    ⟨_, _, rfl, fun _ => ⟨w.heap.size, 0, rfl, fun j x hx => by
      match j with
      | 0 =>
        have : u = x := by simpa using hx
        subst this; exact one_cell w _ _
      | j + 1 => simp at hx⟩⟩
    (fun x hx => by
      have : x = u := by simpa using hx
      subst this; exact hu) (by unfold maxLen; omega) (by omega) (by simp; omega)
  refine ⟨a, c, w', hr, by unfold owns; rw [List.length_append]; exact ho, (b0.mono hB).trans (below_grown hg (fun k hk => (hv.block k hk).1) (by simp; omega))⟩
theorem zero_s32 : ∀ w : World, (zeroValue 32).run Tryd.prog w = .ok (.agg (rowV 32 (fun _ => .int .u8 0))) w := fun w => by kernel_rfl
/-- the node of some sums. -/
def nodeS (L : List (List Int)) : List Int := sumL (preB 2 L.length (fun i => L.getD i []))
theorem nodeS_sum (L : List (List Int)) : isSum (nodeS L) := sumL_is _
end Go.Proofs.YtgchnobifidjcaaDoor

/- tree's node: of a nil book, of a book. -/
namespace Go.Proofs.YtgchnobifidjcaaDoor
set_option linter.unusedSimpArgs false
set_option linter.unusedVariables false
open Go.RowKit Go.Deep

theorem nodeS_light (L : List (List Int)) (hL : L.length ≤ 1000) (hs : ∀ x ∈ L, isSum x) : ∀ i, i ≤ L.length → 1 + (flatTo (blobsB (fun i => L.getD i [])) i).length ≤ 100000000 := by
  have h32 : ∀ i, i ≤ L.length → (flatTo (fun i => L.getD i []) i).length = 32 * i := by
    intro i
    induction i with
    | zero => intro _; rfl
    | succ i ih =>
      intro hi
      rw [flatTo, List.length_append, ih (by omega)]
      have : L.getD i [] = L[i] := by rw [List.getD_eq_getElem?_getD, List.getElem?_eq_getElem (by omega)]; rfl
      rw [this, (hs _ (List.getElem_mem _)).1]; omega
  intro i hi
  have h1 := blobs_le (fun i => L.getD i []) i
  have h2 := h32 i hi
  omega
set_option maxHeartbeats 2000000 in
set_option maxRecDepth 100000 in
theorem node_gen (kv : Value) (L : List (List Int)) (v : Value) (w : World) (h : sumsAt w v L) (hL : L.length ≤ 1000) (Q : World → World → Prop)
    (hOf : ∀ wz u, Below w.heap.size w wz → w.heap.size < wz.heap.size → anyParts wz u L.length (fun i => L.getD i []) → Calls Tryd.prog 69 #[kv, .int .i64 2, u] wz fun e w' => e = .returned (sumV (nodeS L)) ∧ (wz.heap.size ≤ w'.heap.size ∧ w'.heap[w.heap.size]? = wz.heap[w.heap.size]?) ∧ Q wz w') :
    Calls Tryd.prog 70 #[kv, v] w fun e w' => e = .returned (sumV (nodeS L)) ∧ ∃ wz wx, Below w.heap.size w wz ∧ w.heap.size < wz.heap.size ∧ Q wz wx ∧ But wx.heap.size w.heap.size wx w' ∧ w'.heap.size = wx.heap.size := by
  obtain ⟨hs, a, cap, rfl, hc, hm, hcl⟩ := h
  unfold maxLen at hm
  have q0 : (L.length : Int) ≤ 1000 := by omega
  have r0 := rowIs_box w 32 32 (fun _ => .int .u8 0)
  have hz32 := zero_s32
  obtain ⟨w1, hw1⟩ : ∃ w1, w1 = w.alloc (.cells (rowV 32 (fun _ => .int .u8 0)) 32) := ⟨_, rfl⟩
  have b1 : Below w.heap.size w w1 := by rw [hw1]; exact (Below.refl _ _).alloc (Nat.le_refl _) _
  rw [← hw1] at r0
  have s1 : w1.heap.size = w.heap.size + 1 := by rw [hw1]; simp
  have hmk := run_make_room (P := Tryd.prog) 130 23 (.slice none 0 0) 24 Tryd.underlying130 infoSl rfl .i64 .i64 L.length (by omega) (by omega) w1
  obtain ⟨w2, hw2⟩ : ∃ w2, w2 = w1.alloc (.cells (madeCells #[Value.slice none 0 0] L.length) 23) := ⟨_, rfl⟩
  rw [← hw2] at hmk
  have b2 : Below w1.heap.size w1 w2 := by rw [hw2]; exact (Below.refl _ _).alloc (Nat.le_refl _) _
  have hO : owns w2 w1.heap.size 23 (.slice (some ⟨w1.heap.size, 0, none⟩) 0 L.length) [] := by
    rw [hw2]
    exact ⟨rfl, Or.inr ⟨w1.heap.size, L.length, _, rfl, Nat.le_refl _, blk_alloc_new _ _, Nat.zero_le _, by unfold maxLen; omega, by rw [size_madeCells]; simp, by simp⟩⟩
  have HO : Hid _ := hO
  have R0 : Hid (w1.rowIs w.heap.size 32 32 (fun _ => .int .u8 0)) := (show w1.rowIs w.heap.size 32 32 (fun _ => .int .u8 0) from r0)
  have B1 : Hid _ := b1
  have B2 : Hid _ := b2
  have S1 : Hid _ := s1
  have HCL : Hid _ := hcl
  have HOF : Hid _ := hOf
  have HS : Hid _ := hs
  clear hO r0 b1 b2 s1 hcl hOf hs hw2
  go_enter Tryd.func70, Tryd.ntmps70
  go_upto_region 1 with fail
  rw [← hw1]
  clear hw1 hz32
  go_wp2_with (first | (refine wpList_make_run rfl _ _ _ rfl rfl rfl hmk ?_))
  clear hmk
  go_loopw [5, 12] (fun z i wr => ∃ (k : Nat) (g o : Nat), k ≤ L.length ∧ i = .int .i64 k ∧ (0 < L.length → a = some ⟨g, o, none⟩) ∧ owns wr w1.heap.size 23 z ((List.range k).map (sumSl g o)) ∧ Below w1.heap.size w1 wr) (fun _ i _ => L.length - (intOf i).toNat)
  case atStart =>
    by_cases h0 : 0 < L.length
    · obtain ⟨g, o, e, _⟩ := HCL.out h0
      exact ⟨0, g, o, by omega, rfl, fun _ => e, HO.out, B2.out⟩
    · exact ⟨0, 0, 0, by omega, rfl, fun h => absurd h h0, HO.out, B2.out⟩
  case round =>
    obtain ⟨k, g, o, hk, rfl, hgo, hown, hb⟩ := hrel
    clear HO
    have p0 : (0 : Int) ≤ (k : Int) := by omega
    by_cases hlt : k < L.length
    · have p1 : (k : Int) < (L.length : Int) := by omega
      have hae := hgo (by omega)
      subst hae
      have sz := hb.size
      obtain ⟨a8, c8, w8, hr8, ho8, b8⟩ := sl_append_run wr w1.heap.size u5 (sumSl g o k) _ hown rfl (by simp; omega) sz
      have hl8 : ((List.range k).map (sumSl g o)).length = k := by simp
      rw [hl8] at hr8 ho8
      have hu5 : ∃ x y, u5 = .slice x k y := by
        obtain ⟨x, y, e, _⟩ := ownsRow_slice hown
        rw [hl8] at e; exact ⟨x, y, e⟩
      obtain ⟨ux, uy, rfl⟩ := hu5
      have HO8 : Hid (owns w8 w1.heap.size 23 (.slice a8 (k + 1) c8) ((List.range (k + 1)).map (sumSl g o))) := (show owns w8 w1.heap.size 23 (.slice a8 (k + 1) c8) ((List.range (k + 1)).map (sumSl g o)) from by rw [List.range_succ, List.map_append]; exact ho8)
      have HB8 : Hid (Below w1.heap.size w1 w8) := (show Below w1.heap.size w1 w8 from hb.trans b8)
      unfold sumSl at hr8
      clear hown hb ho8 b8 hl8 hgo
      go_wp2_with (first | (at_builtin; refine wpList_append_run rfl (.tmp 15) (.tmp 20) _ rfl rfl rfl hr8 ?_))
      go_light
      exact ⟨⟨k + 1, g, o, by omega, by go_num, fun _ => rfl, HO8.out, HB8.out⟩, by simp [intOf]; omega⟩
    · obtain rfl : k = L.length := by omega
      have s1 := S1.out
      have sz := hb.size
      have bw : Below w.heap.size w wr := B1.out.trans (hb.mono (by omega))
      have hpp := owns_parts (ps := fun i => L.getD i []) hown (fun i hi => by
        have hi' : i < L.length := by simpa using hi
        obtain ⟨g', o', e, hg, hc'⟩ := HCL.out (by omega)
        have e2 : g = g' ∧ o = o' := by
          have := (hgo (by omega)).symm.trans e
          simpa using this
        obtain ⟨rfl, rfl⟩ := e2
        have hx := HS.out L[i] (List.getElem_mem _)
        have eD : L.getD i [] = L[i] := by rw [List.getD_eq_getElem?_getD, List.getElem?_eq_getElem hi']; rfl
        have e3 : ((List.range L.length).map (sumSl g o))[i] = sumSl g o i := by simp
        rw [e3, eD]
        refine Or.inr ⟨g, o + i * 32, 32, by rw [hx.1]; rfl, by rw [hx.1]; exact Nat.le_refl _, by unfold maxLen; omega, by have := bw.size; omega, fun j hj => ?_, hx.2⟩
        rw [bw.cell (p := ⟨g, o + i * 32 + j, none⟩) hg, hc' i hi' j (by rw [hx.1] at hj; exact hj)]; rfl)
      rw [List.length_map, List.length_range] at hpp
      have hlw : w.heap.size < wr.heap.size := by omega
      have X := HOF.out wr u5 bw hlw hpp.any
      unfold sumV at X
      obtain ⟨ux, uy, rfl, _, _⟩ := hpp.open
      have rz : wr.rowIs w.heap.size 32 32 (fun _ => .int .u8 0) := hb.row R0.out (by omega)
      have RZ : Hid _ := rz
      have BW : Hid _ := bw
      clear hown hb hpp rz bw hgo
      go_wp2_with fail
      refine X.mono ?_
      rintro e wx ⟨rfl, ⟨hsx, hbx⟩, hQ⟩
      clear X
      have rx : wx.rowIs w.heap.size 32 32 (fun _ => .int .u8 0) := World.rowIs.of_block RZ.out hbx
      have HQ : Hid _ := hQ
      clear hQ hbx
      go_wp2_with (first | (refine wpList_store_row rfl 32 _ _ rfl rfl w.heap.size 0 32 (arrV (nodeS L)) rfl rfl hi32' (fun _ _ => rfl) _ _ _ rx (by omega) ?_; intro w6 r6 hz6 hb6))
      exact bodyPost_ret (results_cell_seg rfl _ _ w.heap.size 32 32 (arrV (nodeS L)) _ rfl Tryd.underlying32 rfl hi32' (r6.congr fun i hi => by rw [if_pos (by omega), Nat.sub_zero])) rfl ⟨rfl, wr, wx, BW.out, hlw, HQ.out, hb6, hz6⟩
end Go.Proofs.YtgchnobifidjcaaDoor
