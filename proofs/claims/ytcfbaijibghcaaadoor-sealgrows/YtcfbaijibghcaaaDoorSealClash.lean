import Derived.Test.YtcfbaijibghcaaaDoorSealAll
/- Clash. -/
namespace Go.Proofs.YtcfbaijibghcaaaDoor
set_option linter.unusedSimpArgs false
set_option linter.unusedVariables false
open Go.RowKit Go.Deep

/-- which notes clash: behind those of A. -/
def clashGo (A : List Nt) : List Nt → Option (ByteArray × ByteArray)
  | [] => none
  | x :: r => if (firstAt A x.1).isSome = true ∧ foundN A x.1 ≠ x then some ((foundN A x.1).2, x.2) else clashGo (addN A x) r
/-- the notes of the books from place i on. -/
def joinF (ns : Nat → List Nt) (i : Nat) : Nat → List Nt
  | 0 => []
  | k + 1 => ns i ++ joinF ns (i + 1) k
theorem joinF_step (ns : Nat → List Nt) (n i : Nat) (h : i < n) : joinF ns i (n - i) = ns i ++ joinF ns (i + 1) (n - (i + 1)) := by
  rw [show n - i = (n - (i + 1)) + 1 by omega]; rfl
/-- v is a slice of books, nil ones among them. -/
def isBooks (w : World) (v : Value) (n : Nat) (ns : Nat → List Nt) : Prop :=
  (v = .slice none 0 0 ∧ n = 0) ∨ ∃ (qb qo cap : Nat) (pv : Nat → Value), v = .slice (some ⟨qb, qo, none⟩) n cap ∧ qb < w.heap.size ∧ n ≤ maxLen ∧ ∀ i, i < n → w.cell? ⟨qb, qo + i, none⟩ = some (pv i) ∧
    ((pv i = .pointer none ∧ ns i = []) ∨ ∃ (k : Nat) (F : Nat → Prop) (c : Int), pv i = .pointer (some ⟨k, 0, none⟩) ∧ bookAt w F k (ns i) c)
theorem isBooks.open {w : World} {v : Value} {n : Nat} {ns : Nat → List Nt} (h : isBooks w v n ns) :
    ∃ a cap, v = .slice a n cap ∧ n ≤ maxLen ∧ ∀ i, i < n → ∃ qb qo pv, a = some ⟨qb, qo, none⟩ ∧ qb < w.heap.size ∧ w.cell? ⟨qb, qo + i, none⟩ = some pv ∧
    ((pv = .pointer none ∧ ns i = []) ∨ ∃ (k : Nat) (F : Nat → Prop) (c : Int), pv = .pointer (some ⟨k, 0, none⟩) ∧ bookAt w F k (ns i) c) := by
  rcases h with ⟨rfl, rfl⟩ | ⟨qb, qo, cap, pv, rfl, h2, h3, h4⟩
  · exact ⟨_, _, rfl, Nat.zero_le _, fun k hk => by omega⟩
  · exact ⟨_, _, rfl, h3, fun k hk => ⟨qb, qo, pv k, rfl, h2, (h4 k hk).1, (h4 k hk).2⟩⟩
theorem run_neq_notes (w : World) {x y : Nt} (hx : isSum x.1) (hy : isSum y.1) : (binOp .neq 62 (.agg (rowV 33 (noteV x))) (.agg (rowV 33 (noteV y)))).run Tryd.prog w = .ok (.bool (!decide (x = y))) w := by
  have h := run_eq_notes w hx hy
  unfold noteA at h
  have hb : binOp .neq 62 (.agg (rowV 33 (noteV x))) (.agg (rowV 33 (noteV y))) = (do let b ← Op.equalIn 10000 62 (.agg (rowV 33 (noteV x))) (.agg (rowV 33 (noteV y))); pure (.bool (!b))) := rfl
  rw [hb, Sem.run_bind, h]
  rfl
/-- what Clash answers. -/
def clashAns (w' : World) (B : Nat) (va vb : Value) (fb : Bool) (r : Option (ByteArray × ByteArray)) : Prop := match r with
  | none => va = .slice none 0 0 ∧ vb = .slice none 0 0 ∧ fb = false
  | some (s, t) => isBytes w' va (sBytes s) ∧ isBytes w' vb (sBytes t) ∧ (∀ j, va.ownBlock = some j → B ≤ j) ∧ (∀ j, vb.ownBlock = some j → B ≤ j) ∧ fb = true
theorem addN_mem {N : List Nt} {x y : Nt} (h : y ∈ addN N x) : y ∈ N ∨ y = x := by
  by_cases e : x ∈ N
  · rw [addN_in e] at h; exact Or.inl h
  · rw [addN_out e] at h; simpa using h
theorem foundN_mem {N : List Nt} {q : List Int} {i : Nat} (h : firstAt N q = some i) : foundN N q ∈ N := by
  have := firstAt_lt h
  unfold foundN
  rw [h]
  simp only
  rw [List.getD_eq_getElem?_getD, List.getElem?_eq_getElem this]; exact List.getElem_mem _
theorem exec_convert {P : Program} {o : Oper} {ev : Operand → Value} {w w' : World} {v r : Value} (s t : TypeId) (x : Operand) (ho : o.op = .convert s t x) (hx : ev x = v) (hr : (convert s t v).run P w = .ok r w') : (execOp ev o).run P w = .ok (.value r) w' := by
  unfold execOp
  simp only [ho, hx, Sem.run_bind, hr, Result.andThen_ok, Sem.run_pure]
/-- the notes ahead. -/
def aheadAt (w wr : World) (L : List Nt) (A R : List Nt) : Prop :=
  notesAt wr (fun j => w.heap.size ≤ j ∧ j < wr.heap.size) w.heap.size A 0 ∧ Below w.heap.size w wr ∧ clashGo [] L = clashGo A R ∧ A.length + R.length ≤ L.length ∧ ∀ x ∈ A, x.2.size ≤ 1000000000
theorem isBytes.below' {w w' : World} {v : Value} {l : List Int} (h : isBytes w v l) (hb : Below w.heap.size w w') : isBytes w' v l := h.below hb (Nat.le_refl _)

set_option maxHeartbeats 8000000 in
set_option maxRecDepth 100000 in
theorem clash_any (n : Nat) (v : Value) (ns : Nat → List Nt) (w : World) (h : isBooks w v n ns) (hN : (joinF ns 0 n).length < 1000000) (hts : ∀ i, i < n → ∀ x ∈ ns i, x.2.size ≤ 1000000000) :
    Calls Tryd.prog 16 #[v] w fun e w' => ∃ va vb fb, e = .returned (.tuple #[va, vb, .bool fb]) ∧ clashAns w' w.heap.size va vb fb (clashGo [] (joinF ns 0 n)) ∧ Below w.heap.size w w' := by
  obtain ⟨a, cap, rfl, hm, hcell⟩ := h.open
  unfold maxLen at hm
  have q0 : (n : Int) ≤ 9223372036854775807 := by omega
  obtain ⟨L, hL⟩ : ∃ L, L = joinF ns 0 n := ⟨_, rfl⟩
  rw [← hL] at hN ⊢
  have hz := zero_note
  have A0 : Hid (aheadAt w (w.alloc (.cells #[.slice none 0 0, .map none, .int .i64 0] 70)) L [] (joinF ns 0 (n - 0))) := (show aheadAt w (w.alloc (.cells #[.slice none 0 0, .map none, .int .i64 0] 70)) L [] (joinF ns 0 (n - 0)) from
    ⟨⟨.slice none 0 0, .map none, rowIs_new w _ _ 3 _ rfl (fun i hi => by
        have : i = 0 ∨ i = 1 ∨ i = 2 := by omega
        rcases this with rfl | rfl | rfl <;> rfl), ⟨Nat.le_refl _, by simp⟩, listAt_nil _ _, Or.inl ⟨rfl, rfl⟩, fun x hx => by simp at hx, fun k hk => hk.2⟩,
      (Below.refl _ _).alloc (Nat.le_refl _) _, by rw [hL]; rfl, by rw [hL]; simp, fun x hx => by simp at hx⟩)
  clear h
  go_enter Tryd.func16, Tryd.ntmps16
  go_wp2
  go_loopw [14] (fun i wr => ∃ (k : Nat) (A : List Nt), k ≤ n ∧ i = .int .i64 k ∧ aheadAt w wr L A (joinF ns k (n - k))) (fun i _ => n - (intOf i).toNat)
  case atStart => exact ⟨0, [], by omega, rfl, A0.out⟩
  case round =>
    obtain ⟨k, A, hk, rfl, hA⟩ := hrel
    clear A0
    have HA : Hid _ := hA
    by_cases hlt : k < n
    · obtain ⟨qb, qo, pv, rfl, hqb, hpv, hcase⟩ := hcell k hlt
      have p0 : (0 : Int) ≤ (k : Int) := by omega
      have p1 : (k : Int) < (n : Int) := by omega
      have hc0 : wr.cell? ⟨qb, qo + k, none⟩ = some pv := (hA.2.1.cell (p := ⟨qb, qo + k, none⟩) hqb).trans hpv
      have hj := joinF_step ns n k hlt
      have HJ : Hid _ := hj
      clear hA hj
      rcases hcase with ⟨rfl, hn0⟩ | ⟨kb, F, c, rfl, hbk⟩
      · go_wp2_with fail
        refine (empty_none wr).mono ?_
        rintro e w' ⟨rfl, hw⟩
        obtain rfl := hw.symm
        clear hw
        have hj2 := HJ.out
        rw [hn0, List.nil_append] at hj2
        have HA2 : Hid (aheadAt w wr L A (joinF ns (k + 1) (n - (k + 1)))) := (show aheadAt w wr L A (joinF ns (k + 1) (n - (k + 1))) from by
          rw [← hj2]; exact HA.out)
        clear hj2
        go_wp2
        go_light
        exact ⟨⟨k + 1, A, by omega, by go_num, HA2.out⟩, by simp [intOf]; omega⟩
      · have hbk' := hbk.below HA.out.2.1 (Nat.le_refl _)
        have hsum : ∀ x ∈ ns k, isSum x.1 := by
          obtain ⟨_, _, _, _, ⟨_, h, _⟩ | ⟨_, _, _, _, _, _, _, _, _, h, _⟩⟩ := hbk
          · rw [h]; intro x hx; simp at hx
          · exact h
        obtain ⟨hFk, hltF, pv, hpvk, hcase⟩ := hbk'
        have hkb := hltF kb hFk
        rcases hcase with ⟨rfl, hn0, _⟩ | ⟨nb, rfl, hnk, hnn⟩
        · go_wp2_with fail
          refine (empty_zero kb wr hpvk).mono ?_
          rintro e w' ⟨rfl, hw⟩
          obtain rfl := hw.symm
          clear hw
          have hj2 := HJ.out
          rw [hn0, List.nil_append] at hj2
          have HA2 : Hid (aheadAt w wr L A (joinF ns (k + 1) (n - (k + 1)))) := (show aheadAt w wr L A (joinF ns (k + 1) (n - (k + 1))) from by
            rw [← hj2]; exact HA.out)
          clear hj2
          go_wp2
          go_light
          exact ⟨⟨k + 1, A, by omega, by go_num, HA2.out⟩, by simp [intOf]; omega⟩
        · obtain ⟨lv, mv, h1, h2, h3, h4, h5, h6⟩ := hnn
          have hnbw := h6 nb h2
          obtain ⟨la, lc, rfl, hlc, hlm, hcl⟩ := h3.shape
          have c0 : wr.cell? ⟨kb, 0, none⟩ = some (.pointer (some ⟨nb, 0, none⟩)) := hpvk.cell (i := 0) (by omega)
          have c1 : wr.cell? ⟨nb, 0, none⟩ = some (.slice la (ns k).length lc) := h1.cell (i := 0) (by omega)
          -- the list's cells are old
          have hold : ∀ g, g < wr.heap.size → F g → g < w.heap.size := fun g _ hg => by
            obtain ⟨_, h, _⟩ := hbk
            exact h g hg
          have hcl' : ∀ i x, (ns k)[i]? = some x → ∃ g, la = some ⟨g, 0, none⟩ ∧ g < w.heap.size ∧ ∀ j, j < 33 → w.cell? ⟨g, i * 33 + j, none⟩ = some (noteV x j) := fun i x hx => by
            obtain ⟨g, a1, a2, a3, a4⟩ := hcl i x hx
            have hg := hold g a3 a2.1
            exact ⟨g, a1, hg, fun j hj => by rw [← HA.out.2.1.cell (p := ⟨g, i * 33 + j, none⟩) hg]; exact a4 j hj⟩
          have qn : ((ns k).length : Int) ≤ 9223372036854775807 := by unfold maxLen at hlm; omega
          have HC : Hid _ := hcl'
          have HA2 : Hid (aheadAt w wr L A ((ns k).drop 0 ++ joinF ns (k + 1) (n - (k + 1)))) := (show aheadAt w wr L A ((ns k).drop 0 ++ joinF ns (k + 1) (n - (k + 1))) from by
            have hj2 := HJ.out
            rw [List.drop_zero, ← hj2]; exact HA.out)
          clear hcl hcl' h1 h3 h4 hold h5 h6
          go_wp2_with fail
          refine (empty_some kb nb wr hpvk).mono ?_
          rintro e w' ⟨rfl, hw⟩
          obtain rfl := hw.symm
          clear hw
          go_wp2
          clear HA HJ
          go_loopw [28] (fun i wq => ∃ (j : Nat) (B : List Nt), j ≤ (ns k).length ∧ i = .int .i64 j ∧ aheadAt w wq L B ((ns k).drop j ++ joinF ns (k + 1) (n - (k + 1)))) (fun i _ => (ns k).length - (intOf i).toNat)
          case atStart => exact ⟨0, A, by omega, rfl, HA2.out⟩
          case round =>
            obtain ⟨j, B, hj, rfl, hB⟩ := hrel
            clear HA2 c0 c1
            have HB : Hid _ := hB
            by_cases hlt2 : j < (ns k).length
            · obtain ⟨g, rfl, hgw, hcl⟩ := HC.out j _ (List.getElem?_eq_getElem hlt2)
              have p2 : (0 : Int) ≤ (j : Int) := by omega
              have p3 : (j : Int) < ((ns k).length : Int) := by omega
              obtain ⟨X, hX⟩ : ∃ X, X = (ns k)[j] := ⟨_, rfl⟩
              have hXs : isSum X.1 := hsum X (by rw [hX]; exact List.getElem_mem _)
              have hXt : X.2.size ≤ 1000000000 := hts k hlt X (by rw [hX]; exact List.getElem_mem _)
              have hdrop : (ns k).drop j = X :: (ns k).drop (j + 1) := by rw [hX]; exact List.drop_eq_getElem_cons hlt2
              rw [← hX] at hcl
              have HD : Hid _ := hdrop
              clear hX hdrop
              have hwq := hB.2.1
              have hwqs := hwq.size
              have ldc : ∀ i, i < 33 → wr.cell? ⟨g, j * 33 + i, none⟩ = some (noteV X i) := fun i hi => by
                rw [hwq.cell (p := ⟨g, j * 33 + i, none⟩) hgw]; exact hcl i hi
              have ra := rowIs_box wr 62 33 (noteV zeroN)
              clear hcl hB
              go_upto_region 9 with (first | (refine wpList_load_seg rfl 62 (.tmp 30) rfl g (j * 33) 33 (noteV X) rfl _ Tryd.underlying62 rfl note33 ldc ?_) | (refine wpList_store_row rfl 62 (.tmp 9) (.tmp 31) rfl rfl wr.heap.size 0 33 (noteV X) rfl rfl note33 (fun i _ => noteV_one _ i) _ _ _ ra (by omega) ?_; intro w5 r5 hz5 hb5))
              have hs5 : w5.heap.size = wr.heap.size + 1 := by rw [hz5]; simp
              have hb5' : Below wr.heap.size wr w5 := ((Below.refl wr.heap.size wr).alloc (Nat.le_refl _) _).trans ((hb5.mono (by simp)).below (Nat.le_refl _))
              have r5' : w5.rowIs wr.heap.size 62 33 (noteV X) := r5.congr fun i hi => by rw [if_pos (by omega), Nat.sub_zero]
              have ld5 : ∀ i, i < 32 → w5.cell? ⟨wr.heap.size, 0 + i, none⟩ = some (arrV X.1 i) := fun i hi => by
                rw [Nat.zero_add, r5'.cell (show i < 33 by omega), noteV, if_pos hi]
              have N5 : notesAt w5 (fun j => w.heap.size ≤ j ∧ j < wr.heap.size) w.heap.size B 0 := HB.out.1.below hb5' (Nat.le_refl _)
              have FA := find_any _ w.heap.size B 0 X.1 w5 N5 hXs
              obtain ⟨fx, hfx⟩ : ∃ fx, fx = foundN B X.1 := ⟨_, rfl⟩
              have hfs : isSum fx.1 := by rw [hfx]; exact foundN_sum N5.choose_spec.choose_spec.2.2.2.2.1 X.1
              rw [← hfx] at FA
              have HFX : Hid (fx = foundN B X.1) := (show fx = foundN B X.1 from hfx)
              clear hfx
              unfold noteA sumV at FA
              have NB5 : Hid (notesAt w5 (fun j => w.heap.size ≤ j ∧ j < wr.heap.size) w.heap.size B 0) := (show notesAt w5 (fun j => w.heap.size ≤ j ∧ j < wr.heap.size) w.heap.size B 0 from N5)
              have HB5 : Hid _ := hb5'
              have R5 : Hid _ := r5'
              clear r5 hz5 hb5 hb5' ra ldc N5 r5' HC
              go_wp2_with (first | (refine wpList_load_seg rfl 23 (.tmp 33) rfl wr.heap.size 0 32 (arrV X.1) rfl _ Tryd.underlying23 rfl hi32' ld5 ?_))
              refine FA.mono ?_
              rintro e w6 ⟨rfl, hb6⟩
              have hs6 := hb6.size
              clear FA ld5
              have r6 : w6.rowIs wr.heap.size 62 33 (noteV X) := hb6.row R5.out (by omega)
              have N6 := notesAt.below NB5.out hb6 (Nat.le_refl _)
              have hb06 : Below wr.heap.size wr w6 := HB5.out.trans (hb6.mono (by omega))
              have ra6 := rowIs_box w6 62 33 (noteV zeroN)
              have NB6 : Hid (notesAt w6 (fun j => w.heap.size ≤ j ∧ j < wr.heap.size) w.heap.size B 0) := (show notesAt w6 (fun j => w.heap.size ≤ j ∧ j < wr.heap.size) w.heap.size B 0 from N6)
              have HB6 : Hid _ := hb06
              have R6 : Hid _ := r6
              have S6 : Hid (wr.heap.size + 1 ≤ w6.heap.size) := (show wr.heap.size + 1 ≤ w6.heap.size by omega)
              clear hb6 r6 N6 hb06 NB5 HB5 R5 hs5 hs6
              go_upto_region 10 with (first | (refine wpList_store_row rfl 62 (.tmp 10) (.tmp 36) rfl rfl w6.heap.size 0 33 (noteV fx) rfl rfl note33 (fun i _ => noteV_one _ i) _ _ _ ra6 (by omega) ?_; intro w7 r7 hz7 hb7))
              have s6 := S6.out
              have hs7 : w7.heap.size = w6.heap.size + 1 := by rw [hz7]; simp
              have hb67 : Below w6.heap.size w6 w7 := ((Below.refl w6.heap.size w6).alloc (Nat.le_refl _) _).trans ((hb7.mono (by simp)).below (Nat.le_refl _))
              have r7' : w7.rowIs w6.heap.size 62 33 (noteV fx) := r7.congr fun i hi => by rw [if_pos (by omega), Nat.sub_zero]
              have r7X : w7.rowIs wr.heap.size 62 33 (noteV X) := hb67.row R6.out (by omega)
              have N7 := notesAt.below NB6.out hb67 (Nat.le_refl _)
              have hb07 : Below wr.heap.size wr w7 := HB6.out.trans (hb67.mono (by omega))
              have ldF : ∀ i, i < 33 → w7.cell? ⟨w6.heap.size, 0 + i, none⟩ = some (noteV fx i) := fun i hi => by rw [Nat.zero_add]; exact r7'.cell hi
              have ldX : ∀ i, i < 33 → w7.cell? ⟨wr.heap.size, 0 + i, none⟩ = some (noteV X i) := fun i hi => by rw [Nat.zero_add]; exact r7X.cell hi
              have cF : w7.cell? ⟨w6.heap.size, 32, none⟩ = some (.string fx.2) := by
                have := r7'.cell (i := 32) (by omega)
                rw [noteV, if_neg (by omega)] at this; exact this
              have cX : w7.cell? ⟨wr.heap.size, 32, none⟩ = some (.string X.2) := by
                have := r7X.cell (i := 32) (by omega)
                rw [noteV, if_neg (by omega)] at this; exact this
              have heq : ∀ wz : World, (Op.equalIn 10000 62 (.agg (rowV 33 (noteV fx))) (.agg (rowV 33 (noteV X)))).run Tryd.prog wz = .ok (decide (fx = X)) wz := fun wz => run_eq_notes wz hfs hXs
              have NB7 : Hid (notesAt w7 (fun j => w.heap.size ≤ j ∧ j < wr.heap.size) w.heap.size B 0) := (show notesAt w7 (fun j => w.heap.size ≤ j ∧ j < wr.heap.size) w.heap.size B 0 from N7)
              have HB7 : Hid _ := hb07
              have R7 : Hid _ := r7'
              have RX : Hid _ := r7X
              have HLF : Hid _ := ldF
              have HLX : Hid _ := ldX
              have S7 : Hid (wr.heap.size + 2 ≤ w7.heap.size) := (show wr.heap.size + 2 ≤ w7.heap.size by omega)
              clear r7 hz7 hb7 hs7 hb67 r7' r7X N7 hb07 NB6 HB6 R6 ra6 s6 S6 ldF ldX
              -- what comes behind, where nothing clashes
              have ADD := add_note _ w.heap.size B 0 X w7 NB7.out hXs (by have := HB.out.2.2.2.1; omega)
              unfold noteA at ADD
              have hrest : ¬ ((firstAt B X.1).isSome = true ∧ foundN B X.1 ≠ X) → ∀ w8 : World, notesAt w8 (Gr (fun j => w.heap.size ≤ j ∧ j < wr.heap.size) w7 w8) w.heap.size (addN B X) 0 → Fr (fun j => w.heap.size ≤ j ∧ j < wr.heap.size) w7 w8 → aheadAt w w8 L (addN B X) ((ns k).drop (j + 1) ++ joinF ns (k + 1) (n - (k + 1))) := fun hno w8 hn8 hf8 => by
                obtain ⟨_, hbw, hcl, hln, hsz⟩ := HB.out
                rw [HD.out, List.cons_append] at hcl hln
                have hs8 := hf8.size
                have hs7 := HB7.out.size
                have hlen := addN_len B X
                have s7 := S7.out
                refine ⟨hn8.grow (fun i hi => ?_) (fun i hi => hi.2), ?_, ?_, ?_, fun x hx => ?_⟩
                · rcases hi with h | h
                  · exact ⟨h.1, by omega⟩
                  · exact ⟨by omega, h.2⟩
                · exact (hbw.trans (HB7.out.mono (by omega))).trans (hf8.below (fun i hi => hi.1) (by omega))
                · rw [hcl, clashGo, if_neg hno]
                · simp only [List.length_cons] at hln; omega
                · rcases addN_mem hx with h | h
                  · exact hsz x h
                  · rw [h]; exact hXt
              have HR : Hid _ := hrest
              have HAD : Hid _ := ADD
              clear hrest ADD
              cases hf : firstAt B X.1 with
              | none =>
                have hno := HR.out (fun h => by rw [hf] at h; simp at h)
                have HN : Hid _ := hno
                clear hno HR
                simp only [Option.isSome_none]
                go_upto_region 12 with fail
                clear heq HLF R7 RX HB7 cF cX
                go_wp2_with (first | (refine wpList_load_seg rfl 62 (.tmp 9) rfl wr.heap.size 0 33 (noteV X) rfl _ Tryd.underlying62 rfl note33 HLX.out ?_))
                refine Calls.mono HAD.out ?_
                rintro e w8 ⟨rfl, hn8, hf8⟩
                have HN8 : Hid (aheadAt w w8 L (addN B X) ((ns k).drop (j + 1) ++ joinF ns (k + 1) (n - (k + 1)))) := (show aheadAt w w8 L (addN B X) ((ns k).drop (j + 1) ++ joinF ns (k + 1) (n - (k + 1))) from HN.out _ hn8 hf8)
                clear hn8 hf8 HAD HN NB7 HLX
                go_wp2
                go_light
                exact ⟨⟨j + 1, addN B X, by omega, by go_num, HN8.out⟩, by simp [intOf]; omega⟩
              | some i0 =>
                simp only [Option.isSome_some]
                by_cases hne : fx = X
                · have hno := HR.out (fun h => h.2 (HFX.out ▸ hne))
                  have HN : Hid _ := hno
                  clear hno HR
                  have hd : decide (fx = X) = true := decide_eq_true hne
                  rw [hd] at heq
                  clear hne hd
                  go_upto_region 12 with (first | (refine wpList_load_w 62 (.tmp 10) rfl rfl w6.heap.size 0 33 (noteV fx) rfl _ Tryd.underlying62 rfl note33 HLF.out ?_) | (refine wpList_load_w 62 (.tmp 9) rfl rfl wr.heap.size 0 33 (noteV X) rfl _ Tryd.underlying62 rfl note33 HLX.out ?_))
                  clear heq HLF R7 RX HB7 cF cX
                  go_wp2_with (first | (refine wpList_load_seg rfl 62 (.tmp 9) rfl wr.heap.size 0 33 (noteV X) rfl _ Tryd.underlying62 rfl note33 HLX.out ?_))
                  refine Calls.mono HAD.out ?_
                  rintro e w8 ⟨rfl, hn8, hf8⟩
                  have HN8 : Hid (aheadAt w w8 L (addN B X) ((ns k).drop (j + 1) ++ joinF ns (k + 1) (n - (k + 1)))) := (show aheadAt w w8 L (addN B X) ((ns k).drop (j + 1) ++ joinF ns (k + 1) (n - (k + 1))) from HN.out _ hn8 hf8)
                  clear hn8 hf8 HAD HN NB7 HLX
                  go_wp2
                  go_light
                  exact ⟨⟨j + 1, addN B X, by omega, by go_num, HN8.out⟩, by simp [intOf]; omega⟩
                · have hd : decide (fx = X) = false := decide_eq_false hne
                  rw [hd] at heq
                  have hyes : clashGo [] L = some (fx.2, X.2) := by
                    obtain ⟨_, hbw, hcl, hln, hsz⟩ := HB.out
                    rw [hcl, HD.out, List.cons_append, clashGo, ← HFX.out, if_pos ⟨by rw [hf]; rfl, hne⟩]
                  have HY : Hid _ := hyes
                  have hft : fx.2.size ≤ 1000000000 := by
                    rw [HFX.out]; exact HB.out.2.2.2.2 _ (foundN_mem hf)
                  clear hyes HR HAD HB HD
                  go_upto_region 11 with (first | (refine wpList_load_w 62 (.tmp 10) rfl rfl w6.heap.size 0 33 (noteV fx) rfl _ Tryd.underlying62 rfl note33 HLF.out ?_) | (refine wpList_load_w 62 (.tmp 9) rfl rfl wr.heap.size 0 33 (noteV X) rfl _ Tryd.underlying62 rfl note33 HLX.out ?_))
                  have KF : Hid (w7.cell? ⟨w6.heap.size, 32, none⟩ = some (.string fx.2)) := (show w7.cell? ⟨w6.heap.size, 32, none⟩ = some (.string fx.2) from cF)
                  have KX : Hid (w7.cell? ⟨wr.heap.size, 32, none⟩ = some (.string X.2)) := (show w7.cell? ⟨wr.heap.size, 32, none⟩ = some (.string X.2) from cX)
                  have KS : Hid (w6.heap.size < w7.heap.size) := (show w6.heap.size < w7.heap.size from World.rowIs.lt R7.out)
                  clear cF cX
                  refine wp_region_noPanic ?_
                  refine wp_region_held_drew (S := fun w' => Below w7.heap.size w7 w') (by kernel_rfl) ((Below.refl _ _).drew) (fun hHeld => ?_)
                  refine take_op (i := 0) (v := ?vq0) rfl (by kernel_rfl) (by kernel_rfl) (by kernel_rfl) (fun _ _ _ h => h) rfl hHeld ?yq0 ?rq0
                  case yq0 => (intro wz hz; go_simp; first | done | with_reducible rfl)
                  try simp only [Act.put, List.setIfInBounds_toArray, List.set_cons_zero, List.set_cons_succ]
                  refine take_op (i := 1) (v := ?vq1) rfl (by kernel_rfl) (by kernel_rfl) (by kernel_rfl) (fun _ _ _ h => h) rfl hHeld ?yq1 ?rq1
                  case yq1 => (intro wz hz; have hcz : wz.cell? ⟨w6.heap.size, 32, none⟩ = some (.string fx.2) := (hz.cell (p := ⟨w6.heap.size, 32, none⟩) (show w6.heap.size < w7.heap.size by have := KS.out; omega)).trans KF.out; go_simp; first | done | with_reducible rfl)
                  try simp only [Act.put, List.setIfInBounds_toArray, List.set_cons_zero, List.set_cons_succ]
                  refine take_op (i := 3) (v := ?vq3) rfl (by kernel_rfl) (by kernel_rfl) (by kernel_rfl) (fun _ _ _ h => h) rfl hHeld ?yq3 ?rq3
                  case yq3 => (intro wz hz; go_simp; first | done | with_reducible rfl)
                  try simp only [Act.put, List.setIfInBounds_toArray, List.set_cons_zero, List.set_cons_succ]
                  refine take_op (i := 4) (v := ?vq4) rfl (by kernel_rfl) (by kernel_rfl) (by kernel_rfl) (fun _ _ _ h => h) rfl hHeld ?yq4 ?rq4
                  case yq4 => (intro wz hz; have hcz : wz.cell? ⟨wr.heap.size, 32, none⟩ = some (.string X.2) := (hz.cell (p := ⟨wr.heap.size, 32, none⟩) (show wr.heap.size < w7.heap.size by have := S7.out; omega)).trans KX.out; go_simp; first | done | with_reducible rfl)
                  try simp only [Act.put, List.setIfInBounds_toArray, List.set_cons_zero, List.set_cons_succ]
                  refine take_pair (i := 2) (j := 5) rfl rfl (by kernel_rfl) rfl rfl (fun K hK => ?_) (fun K hK => ?_)
                  · obtain ⟨va, wa, hra, hia, hoa, hba, hsa⟩ := str_bytes w7.drew fx.2 (by omega)
                    have hsa' : wa.heap.size = w7.heap.size + 1 := hsa
                    have hoa' : ∀ j, va.ownBlock = some j → j = w7.heap.size := hoa
                    obtain ⟨vb, wb, hrb, hib, hob, hbb, hsb⟩ := str_bytes wa X.2 (by omega)
                    refine wp_convert_run 9 36 (.tmp 45) rfl rfl hra ?_
                    refine hK.out _ _ (hHeld.trans hba) (fun hHeld => ?_)
                    clear hK K
                    try simp only [Act.put, List.setIfInBounds_toArray, List.set_cons_zero, List.set_cons_succ]
                    refine take_op (i := 6) (v := ?vqa6) rfl (by kernel_rfl) (by kernel_rfl) (by kernel_rfl) (fun _ _ _ h => h) rfl hHeld ?yqa6 ?rqa6
                    case yqa6 => (intro wz hz; go_simp; first | done | with_reducible rfl)
                    try simp only [Act.put, List.setIfInBounds_toArray, List.set_cons_zero, List.set_cons_succ]
                    refine take_run (i := 5) rfl (by kernel_rfl) rfl (exec_convert 9 36 (.tmp 48) rfl rfl hrb) (hHeld.trans (hbb.mono (by omega))) ?_
                    try simp only [Act.put, List.setIfInBounds_toArray, List.set_cons_zero, List.set_cons_succ]
                    have hHeld2 : Below w7.heap.size w7 wb := hHeld.trans (hbb.mono (by omega))
                    clear hHeld
                    have hHeld := hHeld2
                    clear hHeld2
                    refine take_op (i := 7) (v := ?vqa7) rfl (by kernel_rfl) (by kernel_rfl) (by kernel_rfl) (fun _ _ _ h => h) rfl hHeld ?yqa7 ?rqa7
                    case yqa7 => (intro wz hz; go_simp; first | done | with_reducible rfl)
                    try simp only [Act.put, List.setIfInBounds_toArray, List.set_cons_zero, List.set_cons_succ]
                    refine take_op (i := 8) (v := ?vqa8) rfl (by kernel_rfl) (by kernel_rfl) (by kernel_rfl) (fun _ _ _ h => h) rfl hHeld ?yqa8 ?rqa8
                    case yqa8 => (intro wz hz; go_simp; first | done | with_reducible rfl)
                    try simp only [Act.put, List.setIfInBounds_toArray, List.set_cons_zero, List.set_cons_succ]
                    clear hsa
                    have hsa := hsa'
                    clear hoa
                    have hoa := hoa'
                    clear hsa' hoa'
                    have s7 := S7.out
                    have IA : Hid (isBytes wb va (sBytes fx.2)) := (show isBytes wb va (sBytes fx.2) from hia.below hbb (Nat.le_refl _))
                    have IB : Hid (isBytes wb vb (sBytes X.2)) := (show isBytes wb vb (sBytes X.2) from hib)
                    have OA : Hid (∀ j, va.ownBlock = some j → w.heap.size ≤ j) := (show ∀ j, va.ownBlock = some j → w.heap.size ≤ j from fun j hj => by have := hoa j hj; omega)
                    have OB : Hid (∀ j, vb.ownBlock = some j → w.heap.size ≤ j) := (show ∀ j, vb.ownBlock = some j → w.heap.size ≤ j from fun j hj => by have := hob j hj; omega)
                    clear hia hib hoa hob hba hbb hsa hsb hra hrb s7
                    refine wpAnyH_done (by kernel_rfl) ?_ _
                    refine NoPanic.normal ?_
                    have HBF : Hid _ := hHeld
                    clear hHeld
                    go_wp2
                    exact bodyPost_ret (results_tmp3 rfl _ _ _) rfl ⟨_, _, _, rfl, by rw [HY.out]; exact ⟨IA.out, IB.out, OA.out, OB.out, rfl⟩, (hwq.trans (HB7.out.mono (by omega))).trans (HBF.out.mono (by have := HB7.out.size; omega))⟩
                  · obtain ⟨vb, wb, hrb, hib, hob, hbb, hsb⟩ := str_bytes w7.drew X.2 (by omega)
                    have hsb' : wb.heap.size = w7.heap.size + 1 := hsb
                    have hob' : ∀ j, vb.ownBlock = some j → j = w7.heap.size := hob
                    obtain ⟨va, wa, hra, hia, hoa, hba, hsa⟩ := str_bytes wb fx.2 (by omega)
                    refine wp_convert_run 9 36 (.tmp 48) rfl rfl hrb ?_
                    refine hK.out _ _ (hHeld.trans hbb) (fun hHeld => ?_)
                    clear hK K
                    try simp only [Act.put, List.setIfInBounds_toArray, List.set_cons_zero, List.set_cons_succ]
                    refine take_run (i := 2) rfl (by kernel_rfl) rfl (exec_convert 9 36 (.tmp 45) rfl rfl hra) (hHeld.trans (hba.mono (by omega))) ?_
                    try simp only [Act.put, List.setIfInBounds_toArray, List.set_cons_zero, List.set_cons_succ]
                    have hHeld2 : Below w7.heap.size w7 wa := hHeld.trans (hba.mono (by omega))
                    clear hHeld
                    have hHeld := hHeld2
                    clear hHeld2
                    refine take_op (i := 6) (v := ?vqb6) rfl (by kernel_rfl) (by kernel_rfl) (by kernel_rfl) (fun _ _ _ h => h) rfl hHeld ?yqb6 ?rqb6
                    case yqb6 => (intro wz hz; go_simp; first | done | with_reducible rfl)
                    try simp only [Act.put, List.setIfInBounds_toArray, List.set_cons_zero, List.set_cons_succ]
                    refine take_op (i := 7) (v := ?vqb7) rfl (by kernel_rfl) (by kernel_rfl) (by kernel_rfl) (fun _ _ _ h => h) rfl hHeld ?yqb7 ?rqb7
                    case yqb7 => (intro wz hz; go_simp; first | done | with_reducible rfl)
                    try simp only [Act.put, List.setIfInBounds_toArray, List.set_cons_zero, List.set_cons_succ]
                    refine take_op (i := 8) (v := ?vqb8) rfl (by kernel_rfl) (by kernel_rfl) (by kernel_rfl) (fun _ _ _ h => h) rfl hHeld ?yqb8 ?rqb8
                    case yqb8 => (intro wz hz; go_simp; first | done | with_reducible rfl)
                    try simp only [Act.put, List.setIfInBounds_toArray, List.set_cons_zero, List.set_cons_succ]
                    clear hsb
                    have hsb := hsb'
                    clear hob
                    have hob := hob'
                    clear hsb' hob'
                    have s7 := S7.out
                    have IA : Hid (isBytes wa va (sBytes fx.2)) := (show isBytes wa va (sBytes fx.2) from hia)
                    have IB : Hid (isBytes wa vb (sBytes X.2)) := (show isBytes wa vb (sBytes X.2) from hib.below hba (Nat.le_refl _))
                    have OA : Hid (∀ j, va.ownBlock = some j → w.heap.size ≤ j) := (show ∀ j, va.ownBlock = some j → w.heap.size ≤ j from fun j hj => by have := hoa j hj; omega)
                    have OB : Hid (∀ j, vb.ownBlock = some j → w.heap.size ≤ j) := (show ∀ j, vb.ownBlock = some j → w.heap.size ≤ j from fun j hj => by have := hob j hj; omega)
                    clear hia hib hoa hob hba hbb hsa hsb hra hrb s7
                    refine wpAnyH_done (by kernel_rfl) ?_ _
                    refine NoPanic.normal ?_
                    have HBF : Hid _ := hHeld
                    clear hHeld
                    go_wp2
                    exact bodyPost_ret (results_tmp3 rfl _ _ _) rfl ⟨_, _, _, rfl, by rw [HY.out]; exact ⟨IA.out, IB.out, OA.out, OB.out, rfl⟩, (hwq.trans (HB7.out.mono (by omega))).trans (HBF.out.mono (by have := HB7.out.size; omega))⟩
            · obtain rfl : j = (ns k).length := by omega
              have HB2 : Hid (aheadAt w wr L B (joinF ns (k + 1) (n - (k + 1)))) := (show aheadAt w wr L B (joinF ns (k + 1) (n - (k + 1))) from by
                have := HB.out
                rw [List.drop_length, List.nil_append] at this; exact this)
              clear hB HB
              go_wp2
              go_light
              exact ⟨⟨k + 1, B, by omega, by go_num, HB2.out⟩, by simp [intOf]; omega⟩
    · obtain rfl : k = n := by omega
      have hnone : clashGo [] L = none := by
        have := HA.out.2.2.1
        rw [Nat.sub_self] at this; exact this
      have HBL : Hid _ := hA.2.1
      clear HA hA
      go_wp2
      exact bodyPost_ret (results_tmp3 rfl _ _ _) rfl ⟨_, _, _, rfl, by rw [hnone]; exact ⟨rfl, rfl, rfl⟩, HBL.out⟩
end Go.Proofs.YtcfbaijibghcaaaDoor
