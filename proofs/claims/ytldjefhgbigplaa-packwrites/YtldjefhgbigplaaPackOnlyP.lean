import Derived.Test.YtldjefhgbigplaaPackNobW
namespace Go.Proofs.Ytldjefhgbigplaa
open Go.RowKit Go.Deep

/-- a number that stands ahead is, written, the bytes that it has. -/
theorem firstB_num {l : List Int} {x : Int} {n : Nat} (hb : ∀ i, 0 ≤ l.getD i 0 ∧ l.getD i 0 ≤ 255) (h : firstB l = some (x, n)) : numB x = l.take n := by
  unfold firstB at h
  by_cases h1 : 0 < l.length ∧ l.getD 0 0 ≤ 8 ∧ l.getD 0 0 < l.length
  · rw [if_pos h1] at h
    by_cases h2 : 0 < (l.getD 0 0).toNat ∧ l.getD 1 0 = 0
    · rw [if_pos h2] at h; cases h
    · rw [if_neg h2] at h
      have h3 := Option.some.inj h
      rw [Prod.mk.injEq] at h3
      obtain ⟨e1, e2⟩ := h3
      have hb0 := hb 0
      rw [← e1, ← e2]
      exact (numB_is l h1.1 (l.getD 0 0).toNat (by omega) (by omega) (by omega) hb).2 h2
  · rw [if_neg h1] at h; cases h
theorem flat_nums (xs : List Int) : ∀ k, k ≤ xs.length → flatTo (numsB fun i => xs.getD i 0) k = ((xs.take k).map numB).flatten
  | 0, _ => by simp [flatTo]
  | k + 1, h => by
    rw [flatTo, flat_nums xs k (by omega), List.take_succ_eq_append_getElem (by omega), List.map_append, List.flatten_append, numsB, List.getD_eq_getElem?_getD, List.getElem?_eq_getElem (by omega)]
    simp
theorem flat_nums' (xs : List Int) : flatTo (numsB fun i => xs.getD i 0) xs.length = (xs.map numB).flatten := by
  rw [flat_nums xs xs.length (Nat.le_refl _), List.take_length]
/-- a slice of numbers of the call's own. -/
theorem owns_isRow {w : World} {B : Nat} {e : TypeId} {v : Value} {xs : List Int} (h : owns w B e v (xs.map (Value.int .u64))) : isRow w v xs.length (fun i => .int .u64 (xs.getD i 0)) := by
  by_cases hn : 0 < xs.length
  · obtain ⟨g, cap, rfl, hB, hlt, hc, hm, hcell, _⟩ := h.shape (by simpa using hn)
    rw [List.length_map] at hc ⊢
    refine Or.inr ⟨g, 0, cap, rfl, hlt, by omega, fun i hi => ?_⟩
    rw [Nat.zero_add]
    refine hcell i _ ?_
    show _ = some (Value.int .u64 (xs.getD i 0))
    rw [List.getElem?_map, List.getElem?_eq_getElem hi, List.getD_eq_getElem?_getD, List.getElem?_eq_getElem hi]; rfl
  · have e0 : xs = [] := List.length_eq_zero_iff.1 (by omega)
    subst e0
    obtain ⟨_, h | ⟨g, cap, cur, rfl, hB, hg, hc, hm, hs, ht⟩⟩ := h
    · exact Or.inl ⟨h.1, rfl⟩
    · exact Or.inr ⟨g, 0, cap, rfl, (Array.getElem?_eq_some_iff.1 hg).1, Nat.zero_le _, fun i hi => by simp at hi⟩
theorem hi64 : (Try.prog.info? 39).map (fun i => (i.zero, i.size, i.bytes)) = some (some (.int .u64 0), 1, 8) := by kernel_rfl
/-- append(l, x). -/
theorem u64_append_run (w : World) (B : Nat) (v : Value) (xs : List Int) (x : Int) (hv : owns w B 39 v (xs.map (Value.int .u64))) (hs : xs.length < 1000000) (hB : B ≤ w.heap.size) :
    ∃ v' w', (Builtin.append_ #[23, 23] 23 #[v, .slice (some ⟨w.heap.size, 0, none⟩) 1 1]).run Try.prog (w.alloc (.cells #[.int .u64 x] 39)) = .ok v' w' ∧ owns w' B 39 v' ((xs ++ [x]).map (Value.int .u64)) ∧ Below B w w' := by
  have hb1 : Below w.heap.size w (w.alloc (.cells #[Value.int .u64 x] 39)) := (Below.refl _ _).alloc (Nat.le_refl _) _
  have hv1 := hv.below hb1 (Nat.le_refl _)
  obtain ⟨g, cp, w2, hr, ho, hg, hat, hlt⟩ := run_append (P := Try.prog) (w.alloc (.cells #[Value.int .u64 x] 39)) 23 23 B 39 (.int .u64 0) 8 Try.underlying23 hi64 rfl v _ hv1 w.heap.size 0 1 1 [.int .u64 x] rfl
    (fun j u hu => by
      have hj : j = 0 := by
        by_cases hj : j = 0
        · exact hj
        · rw [List.getElem?_eq_none (by simp; omega)] at hu; cases hu
      subst hj
      have e : Value.int .u64 x = u := by simpa using hu
      rw [← e]; exact one_cell w _ _)
    (fun u hu => by rw [List.mem_singleton.1 hu]; rfl) (by omega) (by simp; unfold maxLen; omega) (by simp; omega) (by simp; omega)
  refine ⟨_, w2, hr, ?_, (hb1.mono hB).trans (below_grown hg (fun k hk => (hv1.block k hk).1) (by simp; omega))⟩
  rw [List.map_append]; exact ho
set_option maxHeartbeats 400000 in
/-- Num, of a Cut whose memory lies below N. -/
theorem cnum_in (c B N : Nat) (l : List Int) (b : Bool) (most : Int) (hm0 : 0 ≤ most) (w : World) (h : cutIn w B N c l b) :
    Calls Try.prog 22 #[.pointer (some ⟨c, 0, none⟩), .int .u64 most] w fun e w' => e = .returned (.int .u64 (numR l b most).1) ∧ cutIn w' B N c (numR l b most).2.1 (numR l b most).2.2 ∧ But w.heap.size c w w' := by
  obtain ⟨v, h1, h2, h3, h4, h5⟩ := h
  have hby := h2.byte
  have c0 := h1.c0
  have HNA := number_any l v most hm0 w h2
  cases b with
  | true =>
    have HC : Hid (cutIn w B N c l true) := (⟨v, h1, h2, h3, h4, h5⟩ : cutIn w B N c l true)
    have H1 : Hid _ := h1
    clear h1 h2 h3 h4 h5 HNA
    rw [show numR l true most = (0, l, true) from rfl]
    go_enter Try.func22, Try.ntmps22
    go_wp2_with fail
    refine (err_any c v true _ H1.out).mono ?_
    rintro e w' ⟨rfl, hw⟩
    obtain rfl := hw.symm
    clear hw
    rw [show errI true = 2 from rfl]
    go_wp2
    go_ret
    exact ⟨rfl, HC.out, But.refl _ _ _⟩
  | false =>
    cases hn : numOf l most with
    | none =>
      have HR : numR l false most = (0, l, true) := by unfold numR; rw [hn]; rfl
      rw [HR]
      rw [hn] at HNA
      simp only [numberIs] at HNA
      have HC : Hid (cutIn (w.setCell ⟨c, 1, none⟩ (.bool true)) B N c l true) := (⟨v, h1.set1 true, h2.far (fun k hk => blk_setCell_other _ _ _ _ (h5 k hk).2.1) (by rw [nblk_setCell]; exact Nat.le_refl _), h3, h4, h5⟩ : cutIn _ B N c l true)
      have H1 : Hid _ := h1
      clear h1 h2 h3 h4 h5 HR
      go_enter Try.func22, Try.ntmps22
      go_wp2_with fail
      refine (err_any c v false _ H1.out).mono ?_
      rintro e w' ⟨rfl, hw⟩
      obtain rfl := hw.symm
      clear hw
      rw [show errI false = 0 from rfl]
      go_wp2_with fail
      refine HNA.mono ?_
      rintro e w' ⟨rfl, hw⟩
      obtain rfl := hw.symm
      clear hw HNA
      go_wp2_with fail
      refine (fail_is c v false _ H1.out).mono ?_
      rintro e w1 ⟨rfl, hw1⟩
      have HC1 := HC.out
      rw [← hw1] at HC1
      have HB1 : But w.heap.size c w w1 := by rw [hw1]; exact (But.refl _ _ _).set 1 _
      have HC2 : Hid _ := HC1
      clear HC HC1 hw1
      go_wp2
      go_ret
      exact ⟨rfl, HC2.out, HB1⟩
    | some q =>
      obtain ⟨x, n⟩ := q
      have HR : numR l false most = (x, l.drop n, false) := by unfold numR; rw [hn]; rfl
      rw [HR]
      rw [hn] at HNA
      simp only [numberIs] at HNA
      obtain ⟨f1, f2⟩ := numOf_first hn
      obtain ⟨g1, g2, g3, g4, g5, g6⟩ := firstB_some hby f1
      rcases h2 with ⟨_, rfl⟩ | ⟨pb, po, cap, rfl, k1, k2, k3, k4, k5⟩
      · simp at g6
      · obtain ⟨p1, p2, p3⟩ := h5 pb rfl
        have h2 : isBytes w (.slice (some ⟨pb, po, none⟩) l.length cap) l := Or.inr ⟨pb, po, cap, rfl, k1, k2, k3, k4, k5⟩
        have fin : ∀ o', (n < cap → o' = po + n) → cutIn (w.setCell ⟨c, 0, none⟩ (.slice (some ⟨pb, o', none⟩) (l.length - n) (cap - n))) B N c (l.drop n) false := fun o' ho' =>
          ⟨_, h1.set0 _, (isBytes_from h2 n o' g3 ho').far (fun k hk => blk_setCell_other _ _ _ _ (by simp [Value.ownBlock] at hk; show k ≠ c; omega)) (by rw [nblk_setCell]; exact Nat.le_refl _), h3, h4, fun k hk => by simp [Value.ownBlock] at hk; omega⟩
        have FIN : Hid _ := fin
        have H1 : Hid _ := h1
        clear h1 h2 h3 h4 h5 HR k4 k5 fin
        go_enter Try.func22, Try.ntmps22
        go_wp2_with fail
        refine (err_any c _ false _ H1.out).mono ?_
        rintro e w' ⟨rfl, hw⟩
        obtain rfl := hw.symm
        clear hw
        rw [show errI false = 0 from rfl]
        go_wp2_with fail
        refine HNA.mono ?_
        rintro e w' ⟨rfl, hw⟩
        obtain rfl := hw.symm
        clear hw HNA
        go_wp2_with fail
        refine (take_is c pb po l.length cap false n _ H1.out g3 k1).mono ?_
        rintro e w1 ⟨o', rfl, ho', hw1⟩
        have HC1 := FIN.out o' ho'
        rw [← hw1] at HC1
        have HB1 : But w.heap.size c w w1 := by rw [hw1]; exact (But.refl _ _ _).set 0 _
        have HC2 : Hid _ := HC1
        clear FIN HC1 hw1 ho'
        go_wp2
        go_ret
        exact ⟨rfl, HC2.out, HB1⟩
theorem cutIn.of {w : World} {B N c : Nat} {l : List Int} {b : Bool} (h : cutIn w B N c l b) : cutOf w B c l b := by
  obtain ⟨v, h1, h2, h3, _, h5⟩ := h
  exact ⟨v, h1, h2, h3, fun k hk => ⟨(h5 k hk).1, (h5 k hk).2.1⟩⟩
/-- a blob that stands ahead is, written, the bytes that it has. -/
theorem partR_blob {l : List Int} {most : Int} (hb : ∀ i, 0 ≤ l.getD i 0 ∧ l.getD i 0 ≤ 255) (h : (partR l false most).2.2 = false) :
    blobB (partR l false most).1 ++ (partR l false most).2.1 = l ∧ ((partR l false most).1.length : Int) ≤ most := by
  unfold partR at h ⊢
  by_cases h1 : (false || decide (most < 0)) = true
  · rw [if_pos h1] at h; cases h
  · rw [if_neg h1] at h ⊢
    cases hn : numOf l most with
    | none => rw [hn] at h; cases h
    | some q =>
      obtain ⟨x, n⟩ := q
      rw [hn] at h
      simp only at h ⊢
      obtain ⟨f1, f2⟩ := numOf_first hn
      obtain ⟨g1, g2, g3, g4, g5, g6⟩ := firstB_some hb f1
      by_cases hx : (l.length : Int) - n < x
      · rw [if_pos hx] at h; cases h
      · rw [if_neg hx]
        have hlen : ((l.drop n).take x.toNat).length = x.toNat := by rw [List.length_take, List.length_drop]; omega
        refine ⟨?_, by rw [hlen]; omega⟩
        rw [blobB, hlen, show ((x.toNat : Nat) : Int) = x by omega, firstB_num hb f1, List.append_assoc, List.take_append_drop, List.take_append_drop]
theorem partR_fault {l : List Int} {most : Int} (h : (partR l false most).2.2 = true) : (partR l false most).1 = [] ∧ (partR l false most).2.1 = l := by
  unfold partR at h ⊢
  split
  · exact ⟨rfl, rfl⟩
  · rename_i h1
    rw [if_neg h1] at h
    cases hn : numOf l most with
    | none => exact ⟨rfl, rfl⟩
    | some q =>
      obtain ⟨x, n⟩ := q
      rw [hn] at h
      simp only at h ⊢
      by_cases hx : (l.length : Int) - n < x
      · rw [if_pos hx]; exact ⟨rfl, rfl⟩
      · rw [if_neg hx] at h; cases h
/-- b[:n], of any bytes. -/
theorem slice_bytes_to (b : Value) (l : List Int) (n : Nat) (w0 : World) (h : isBytes w0 b l) (hn : n ≤ l.length) : ∃ u, (∀ w : World, (Instr.slice 22 b none (some (.int .i64 n)) none).run Try.prog w = .ok u w) ∧ ∀ w, isBytes w b l → isBytes w u (l.take n) := by
  rcases h with ⟨rfl, rfl⟩ | ⟨pb, po, cap, rfl, h2, h3, h4, h6, h7⟩
  · obtain rfl : n = 0 := by simpa using hn
    refine ⟨.slice none 0 0, fun w => ?_, fun w h => by simpa using h⟩
    cases hq : Try.prog.info? 5 with
    | none => have := hi8; simp [hq] at this
    | some i => simp [Instr.slice, Instr.sliceBounds, Instr.sliceBound, asIntOf, run_underlying Try.underlying22, sizeOf, typeInfo, hq]
  · exact ⟨_, run_slice_to (P := Try.prog) 22 5 pb po l.length cap n Try.underlying22 (by kernel_rfl) (by omega), fun w h => isBytes_to h n hn⟩
theorem isParts_one (w : World) (v : Value) (p : List Int) (h : isBytes w v p) : isParts (w.alloc (.cells #[v] 22)) (.slice (some ⟨w.heap.size, 0, none⟩) 1 1) 1 (fun _ => p) :=
  Or.inr ⟨w.heap.size, 0, 1, fun _ => v, rfl, by simp, by unfold maxLen; omega, fun i hi => by
    obtain rfl : i = 0 := by omega
    exact ⟨one_cell w _ _, Or.inl (h.below ((Below.refl _ _).alloc (Nat.le_refl _) _) (Nat.le_refl _))⟩⟩
theorem flat_ge (xs : List Int) : xs.length ≤ ((xs.map numB).flatten).length := by
  induction xs with
  | nil => simp
  | cons x xs ih => rw [List.map_cons, List.flatten_cons, List.length_append, numB_length, List.length_cons]; omega
end Go.Proofs.Ytldjefhgbigplaa
