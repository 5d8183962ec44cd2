import Derived.Lib.SlBytesConst
import Derived.Laws.BitsLemmas
import Derived.Test.YtmfgfcknhjblgaaDoorOwn1
import Derived.Test.YtmfgfcknhjblgaaDoorOwn4
set_option linter.unusedVariables false
set_option linter.unusedSimpArgs false
/- Books: All. -/
namespace Go.Proofs.YtmfgfcknhjblgaaDoor
set_option linter.unusedSimpArgs false
set_option linter.unusedVariables false
open Go.RowKit Go.Deep

theorem hiB : (Tryd.prog.info? 34).map (fun i => (i.zero, i.size, i.bytes)) = some (some (.slice none 0 0), 1, 24) := by kernel_rfl
/-- a slice of slices of bytes, all of the call's own. -/
def mineParts (w : World) (B : Nat) (v : Value) (L : List (List Int)) : Prop :=
  ∃ svs : List Value, owns w B 34 v svs ∧ svs.length = L.length ∧ ∀ (i : Nat) (l : List Int), L[i]? = some l → ∃ u, svs[i]? = some u ∧ softB w u l ∧ ∀ j, u.ownBlock = some j → B ≤ j ∧ v.ownBlock ≠ some j
theorem mineParts.nil (w : World) (B : Nat) : mineParts w B (.slice none 0 0) [] := ⟨[], owns_nil _ _ _, rfl, fun i l h => by simp at h⟩
theorem mineParts.below {w w' : World} {B C : Nat} {v : Value} {L : List (List Int)} (h : mineParts w B v L) (hb : Below C w w') (hC : w.heap.size ≤ C) : mineParts w' B v L := by
  obtain ⟨svs, h1, h2, h3⟩ := h
  refine ⟨svs, h1.below hb hC, h2, fun i l hl => ?_⟩
  obtain ⟨u, a1, a2, a3⟩ := h3 i l hl
  exact ⟨u, a1, a2.below hb hC, a3⟩
theorem mineParts.parts {w : World} {B : Nat} {v : Value} {L : List (List Int)} (h : mineParts w B v L) : isParts w v L.length (fun i => L.getD i []) := by
  obtain ⟨svs, h1, h2, h3⟩ := h
  by_cases h0 : L.length = 0
  · obtain ⟨_, h | ⟨g, cap, cur, rfl, hB, hb, hc, hm, hs, ht⟩⟩ := h1
    · exact Or.inl ⟨h.1, h0⟩
    · refine Or.inr ⟨g, 0, cap, fun _ => undef, by rw [h2], (Array.getElem?_eq_some_iff.1 hb).1, by rw [h0]; exact Nat.zero_le _, fun i hi => by omega⟩
  · obtain ⟨g, cap, rfl, hB, hg, hcap, hmx, hcell, _⟩ := h1.shape (by omega)
    refine Or.inr ⟨g, 0, cap, fun i => svs.getD i undef, by rw [h2], hg, by omega, fun i hi => ?_⟩
    obtain ⟨u, a1, a2, a3⟩ := h3 i _ (List.getElem?_eq_getElem hi)
    have e1 : svs.getD i undef = u := by rw [List.getD_eq_getElem?_getD, a1]; rfl
    have e2 : L.getD i [] = L[i] := by rw [List.getD_eq_getElem?_getD, List.getElem?_eq_getElem hi]; rfl
    show w.cell? ⟨g, 0 + i, none⟩ = some (svs.getD i undef) ∧ anyBytes w (svs.getD i undef) (L.getD i [])
    rw [e1, e2, Nat.zero_add]
    exact ⟨hcell i u a1, Or.inl a2.1⟩
/-- append(v, u), u bytes. -/
theorem part_append_run (w : World) (B : Nat) (v u : Value) (L : List (List Int)) (l : List Int) (hv : mineParts w B v L) (hu : softB w u l) (hub : ∀ j, u.ownBlock = some j → B ≤ j ∧ v.ownBlock ≠ some j) (hs : L.length < 1000000) (hB : B ≤ w.heap.size) :
    ∃ v' w', (Builtin.append_ #[22, 22] 22 #[v, .slice (some ⟨w.heap.size, 0, none⟩) 1 1]).run Tryd.prog (w.alloc (.cells #[u] 34)) = .ok v' w' ∧ mineParts w' B v' (L ++ [l]) ∧ Below B w w' := by
  obtain ⟨svs, h1, h2, h3⟩ := hv
  have hbl := fun k hk => h1.block k hk
  have h1' := h1.alloc (.cells #[u] 34)
  have hoc : u.oneCell' = true := by
    rcases hu.1 with ⟨rfl, _⟩ | ⟨pb, po, cap, rfl, _⟩ <;> rfl
  obtain ⟨g, cap, w', hr, ho, hg, hat, hlt⟩ := run_append (P := Tryd.prog) (w.alloc (.cells #[u] 34)) 22 22 B 34 (.slice none 0 0) 24 Tryd.underlying22 hiB rfl v svs h1' w.heap.size 0 1 1 [u] rfl
    (fun j x hx => by
      match j with
      | 0 =>
        have : u = x := by simpa using hx
        subst this; exact one_cell w _ _
      | j + 1 => simp at hx)
    (fun x hx => by
      have : x = u := by simpa using hx
      subst this; exact hoc) (by omega) (by unfold maxLen; omega) (by omega) (by simp; omega)
  have hkeep : ∀ j, j < w.heap.size → v.ownBlock ≠ some j → w'.heap[j]? = w.heap[j]? := fun j hj hne =>
    (hg.block j (by simp; omega) (fun e => hne e.symm)).trans (blk_alloc_lt _ _ _ hj)
  have hsz : w.heap.size ≤ w'.heap.size := by have := hg.size; simp at this; omega
  have hown : ∀ j, j < w.heap.size → v.ownBlock ≠ some j → (Value.slice (some ⟨g, 0, none⟩) (svs.length + 1) cap).ownBlock ≠ some j := fun j hj hne e => by
    have : g = j := by simpa [Value.ownBlock] using e
    subst this
    rcases hat with h | h
    · exact hne h
    · simp at h; omega
  refine ⟨_, w', hr, ⟨svs ++ [u], ho, by simp [h2], fun i q hq => ?_⟩, ⟨hg.os, hg.tape, hg.output, hsz, fun k hk => ?_⟩⟩
  · by_cases hi : i < L.length
    · rw [List.getElem?_append_left hi] at hq
      obtain ⟨x, a1, a2, a3⟩ := h3 i q hq
      refine ⟨x, by rw [List.getElem?_append_left (by omega)]; exact a1, a2.far (fun j hj => hkeep j (a2.block j hj) (a3 j hj).2) hsz, fun j hj => ⟨(a3 j hj).1, hown j (a2.block j hj) (a3 j hj).2⟩⟩
    · have hi2 : i = L.length := by
        have := (List.getElem?_eq_some_iff.1 hq).1
        simp at this; omega
      subst hi2
      have : l = q := by simpa using hq
      subst this
      refine ⟨u, by rw [List.getElem?_append_right (by omega), h2]; simp, hu.far (fun j hj => hkeep j (hu.block j hj) (hub j hj).2) hsz, fun j hj => ⟨(hub j hj).1, hown j (hu.block j hj) (hub j hj).2⟩⟩
  · exact hkeep k (by omega) (fun e => by have := (hbl k e).1; omega)
/-- what is of the call's own may be written over. -/
theorem mineParts.softP {w : World} {B : Nat} {v : Value} {L : List (List Int)} (h : mineParts w B v L) : softParts w B w.heap.size v L.length := by
  have hp := h.parts
  obtain ⟨svs, h1, h2, h3⟩ := h
  by_cases h0 : L.length = 0
  · obtain ⟨_, h | ⟨g, cap, cur, rfl, hB, hb, hc, hm, hs, ht⟩⟩ := h1
    · exact ⟨none, 0, by rw [h.1, h0], by rw [h0]; exact Nat.zero_le _, fun i hi => by omega⟩
    · exact ⟨_, _, by rw [h2], by rw [h0]; exact Nat.zero_le _, fun i hi => by omega⟩
  · obtain ⟨g, cap, rfl, hB, hg, hcap, hmx, hcell, _⟩ := h1.shape (by omega)
    refine ⟨_, _, by rw [h2], by omega, fun i hi => ?_⟩
    obtain ⟨u, a1, a2, a3⟩ := h3 i _ (List.getElem?_eq_getElem hi)
    have hsh : ∃ x k y, u = .slice x k y ∧ (0 < k → ∃ pb po, x = some ⟨pb, po, none⟩) := by
      rcases a2.1 with ⟨e, _⟩ | ⟨pb, po, cap, e, _⟩
      · exact ⟨_, _, _, e, fun h => by omega⟩
      · exact ⟨_, _, _, e, fun _ => ⟨_, _, rfl⟩⟩
    obtain ⟨x, k, y, rfl, hx⟩ := hsh
    exact ⟨g, 0, x, k, y, rfl, ⟨hB, hg⟩, by rw [Nat.zero_add]; exact hcell i _ a1, hx, a2.2, fun j hj => ⟨(a3 j hj).1, a2.block j hj, fun e => (a3 j hj).2 (by rw [e]; rfl)⟩⟩
theorem mineParts.far {w w' : World} {B : Nat} {v : Value} {L : List (List Int)} (h : mineParts w B v L) (hb : ∀ k, B ≤ k → k < w.heap.size → w'.heap[k]? = w.heap[k]?) (hs : w.heap.size ≤ w'.heap.size) : mineParts w' B v L := by
  obtain ⟨svs, h1, h2, h3⟩ := h
  refine ⟨svs, h1.far (fun k hk => hb k (h1.block k hk).1 (h1.block k hk).2), h2, fun i l hl => ?_⟩
  obtain ⟨u, a1, a2, a3⟩ := h3 i l hl
  exact ⟨u, a1, a2.far (fun k hk => hb k (a3 k hk).1 (a2.block k hk)) hs, a3⟩
def textL (N : List Nt) : List (List Int) := N.map fun x => sBytes x.2
set_option maxHeartbeats 1000000 in
theorem all_nil (w : World) : Calls Tryd.prog 29 #[.pointer none] w fun e w' => e = .returned (.slice none 0 0) ∧ w' = w := by
  go_enter Tryd.func29, Tryd.ntmps29
  go_wp2_with fail
  refine (empty_none w).mono ?_
  rintro e w' ⟨rfl, rfl⟩
  go_wp2
  go_ret
  exact ⟨rfl, rfl⟩
set_option maxHeartbeats 1000000 in
set_option maxRecDepth 100000 in
theorem all_any (F : Nat → Prop) (k : Nat) (N : List Nt) (c : Int) (w : World) (h : bookAt w F k N c) (hN : N.length < 1000000) (hts : ∀ x ∈ N, x.2.size ≤ 1000000000) :
    Calls Tryd.prog 29 #[.pointer (some ⟨k, 0, none⟩)] w fun e w' => ∃ v', e = .returned v' ∧ mineParts w' w.heap.size v' (textL N) ∧ Below w.heap.size w w' := by
  obtain ⟨hF, hlt, pv, hpv, hcase⟩ := h
  have hk := hlt k hF
  rcases hcase with ⟨rfl, rfl, rfl⟩ | ⟨nb, rfl, hnk, hnn⟩
  · go_enter Tryd.func29, Tryd.ntmps29
    go_wp2_with fail
    refine (empty_zero k _ hpv).mono ?_
    rintro e w' ⟨rfl, rfl⟩
    go_wp2
    go_ret
    exact ⟨_, rfl, mineParts.nil _ _, Below.refl _ _⟩
  · obtain ⟨lv, mv, h1, h2, h3, h4, h5, h6⟩ := hnn
    have hnb := h6 nb h2
    obtain ⟨la, lc, rfl, hlc, hlm, hcell⟩ := h3.shape
    have c0 : w.cell? ⟨k, 0, none⟩ = some (.pointer (some ⟨nb, 0, none⟩)) := hpv.cell (i := 0) (by omega)
    have c1 : w.cell? ⟨nb, 0, none⟩ = some (.slice la N.length lc) := h1.cell (i := 0) (by omega)
    have hmk := run_make_room (P := Tryd.prog) 22 34 (.slice none 0 0) 24 Tryd.underlying22 hiB rfl .i64 .i64 N.length (by omega) (by omega) w
    obtain ⟨w1, hw1⟩ : ∃ w1, w1 = w.alloc (.cells (madeCells #[Value.slice none 0 0] N.length) 34) := ⟨_, rfl⟩
    rw [← hw1] at hmk
    have b1 : Below w.heap.size w w1 := by rw [hw1]; exact (Below.refl _ _).alloc (Nat.le_refl _) _
    have d0 : w1.cell? ⟨k, 0, none⟩ = some (.pointer (some ⟨nb, 0, none⟩)) := (b1.cell (p := ⟨k, 0, none⟩) hk).trans c0
    have d1 : w1.cell? ⟨nb, 0, none⟩ = some (.slice la N.length lc) := (b1.cell (p := ⟨nb, 0, none⟩) hnb).trans c1
    have hO : mineParts w1 w.heap.size (.slice (some ⟨w.heap.size, 0, none⟩) 0 N.length) [] := by
      rw [hw1]
      exact ⟨[], ⟨rfl, Or.inr ⟨w.heap.size, N.length, _, rfl, Nat.le_refl _, blk_alloc_new _ _, Nat.zero_le _, by unfold maxLen; omega, by rw [size_madeCells]; simp, by simp⟩⟩, rfl, fun i l h => by simp at h⟩
    have HO : Hid _ := hO
    have B1 : Hid _ := b1
    have q0 : (N.length : Int) ≤ 1000000 := by omega
    have hz := zero_note
    clear hw1 hO b1 h1 h3 h4
    go_enter Tryd.func29, Tryd.ntmps29
    go_wp2_with fail
    refine (empty_some k nb w hpv).mono ?_
    rintro e w' ⟨rfl, hw⟩
    obtain rfl := hw.symm
    clear hw
    go_wp2_with (first | (refine wpList_make_run rfl _ _ _ rfl rfl rfl hmk ?_))
    go_loopw [3, 25] (fun v i wr => ∃ j : Nat, j ≤ N.length ∧ i = .int .i64 j ∧ mineParts wr w.heap.size v (textL (N.take j)) ∧ Below w.heap.size w wr) (fun _ i _ => N.length - (intOf i).toNat)
    case atStart => exact ⟨0, by omega, rfl, by rw [List.take_zero]; exact HO.out, B1.out⟩
    case round =>
      obtain ⟨j, hj, rfl, hm, hb⟩ := hrel
      clear hmk HO B1 c0 c1 d0 d1
      by_cases hlt2 : j < N.length
      · obtain ⟨g, rfl, hFg, hgw, hcl⟩ := hcell j _ (List.getElem?_eq_getElem hlt2)
        have p0 : (0 : Int) ≤ (j : Int) := by omega
        have p1 : (j : Int) < (N.length : Int) := by omega
        have ldc : ∀ i, i < 33 → wr.cell? ⟨g, j * 33 + i, none⟩ = some (noteV N[j] i) := fun i hi => by
          rw [hb.cell (p := ⟨g, j * 33 + i, none⟩) hgw]; exact hcl i hi
        have ra := rowIs_box wr 92 33 (noteV zeroN)
        have hbs := hb.size
        have HM : Hid _ := hm
        have HB : Hid _ := hb
        clear hm hb hcl
        go_upto_region 7 with (first | (refine wpList_load_seg rfl 92 _ rfl g (j * 33) 33 (noteV N[j]) rfl _ Tryd.underlying92 rfl note33 ldc ?_) | (refine wpList_store_row rfl 92 (.tmp 5) (.tmp 28) rfl rfl wr.heap.size 0 33 (noteV N[j]) rfl rfl note33 (fun i _ => noteV_one _ i) _ _ _ ra (by omega) ?_; intro w5 r5 hz5 hb5))
        have hs5 : w5.heap.size = wr.heap.size + 1 := by rw [hz5]; simp
        have hb5' : Below wr.heap.size wr w5 := ((Below.refl wr.heap.size wr).alloc (Nat.le_refl _) _).trans ((hb5.mono (by simp)).below (Nat.le_refl _))
        have c32 : w5.cell? ⟨wr.heap.size, 32, none⟩ = some (.string N[j].2) := by
          have := r5.cell (i := 32) (by omega)
          rw [if_pos (by omega), Nat.sub_zero, noteV, if_neg (by omega)] at this; exact this
        have hsz : N[j].2.size ≤ 1000000000 := hts _ (List.getElem_mem _)
        obtain ⟨v9, w9, hr9, hi9, ho9, hb9, hs9, hf9⟩ := str_bytes w5 N[j].2 (by omega)
        have hb39 : Below wr.heap.size wr w9 := hb5'.trans (hb9.mono (by omega))
        have hm9 : mineParts w9 w.heap.size u3 (textL (N.take j)) := mineParts.below HM.out hb39 (Nat.le_refl _)
        have hu3 : ∀ q, u3.ownBlock = some q → q < wr.heap.size := fun q hq => by
          obtain ⟨svs, h1, _⟩ := HM.out
          exact (h1.block q hq).2
        obtain ⟨v8, w8, hr8, hm8, hb8⟩ := part_append_run w9 w.heap.size u3 v9 (textL (N.take j)) (sBytes N[j].2) hm9 ⟨hi9, hf9⟩ (fun q hq => by
          have := ho9 q hq
          exact ⟨by omega, fun e => by have := hu3 q e; omega⟩) (by simp [textL]; omega) (by omega)
        have HM8 : Hid _ := hm8
        have HB8 : Hid _ := HB.out.trans ((hb39.mono (by omega)).trans hb8)
        have htk : textL (N.take (j + 1)) = textL (N.take j) ++ [sBytes N[j].2] := by
          unfold textL
          rw [List.take_succ_eq_append_getElem hlt2, List.map_append]; rfl
        have HT : Hid _ := htk
        obtain ⟨va, vc, rfl, _⟩ := hi9.slice
        clear r5 hz5 hb5 hb5' hb39 hm9 hm8 hb8 htk hi9 ho9 hb9 HM HB ra ldc hu3 hs5 hs9 hf9
        go_wp2_with (first | (refine wpList_convert_run rfl _ _ _ rfl rfl hr9 ?_) | (at_builtin; refine wpList_append_run rfl (.tmp 29) (.tmp 33) _ rfl rfl rfl hr8 ?_))
        go_light
        exact ⟨⟨j + 1, by omega, by go_num, by rw [HT.out]; exact HM8.out, HB8.out⟩, by simp [intOf]; omega⟩
      · obtain rfl : j = N.length := by omega
        have HM : Hid _ := hm
        go_wp2
        go_ret
        exact ⟨_, rfl, by rw [List.take_length] at HM; exact HM.out, hb⟩
end Go.Proofs.YtmfgfcknhjblgaaDoor

/- Clash. -/
namespace Go.Proofs.YtmfgfcknhjblgaaDoor
set_option linter.unusedSimpArgs false
set_option linter.unusedVariables false
open Go.RowKit Go.Deep

/-- which notes clash: behind those of A. -/
def clashGo (A : List Nt) : List Nt → Option (ByteArray × ByteArray)
  | [] => none
  | x :: r => if (firstAt A x.1).isSome = true ∧ foundN A x.1 ≠ x then some ((foundN A x.1).2, x.2) else clashGo (addN A x) r
/-- the notes of the books from place i on. -/
def joinF (ns : Nat → List Nt) (i : Nat) : Nat → List Nt
  | 0 => []
  | k + 1 => ns i ++ joinF ns (i + 1) k
theorem joinF_step (ns : Nat → List Nt) (n i : Nat) (h : i < n) : joinF ns i (n - i) = ns i ++ joinF ns (i + 1) (n - (i + 1)) := by
  rw [show n - i = (n - (i + 1)) + 1 by omega]; rfl
/-- v is a slice of books, nil ones among them. -/
def isBooks (w : World) (v : Value) (n : Nat) (ns : Nat → List Nt) : Prop :=
  (v = .slice none 0 0 ∧ n = 0) ∨ ∃ (qb qo cap : Nat) (pv : Nat → Value), v = .slice (some ⟨qb, qo, none⟩) n cap ∧ qb < w.heap.size ∧ n ≤ maxLen ∧ ∀ i, i < n → w.cell? ⟨qb, qo + i, none⟩ = some (pv i) ∧
    ((pv i = .pointer none ∧ ns i = []) ∨ ∃ (k : Nat) (F : Nat → Prop) (c : Int), pv i = .pointer (some ⟨k, 0, none⟩) ∧ bookAt w F k (ns i) c)
theorem isBooks.open {w : World} {v : Value} {n : Nat} {ns : Nat → List Nt} (h : isBooks w v n ns) :
    ∃ a cap, v = .slice a n cap ∧ n ≤ maxLen ∧ ∀ i, i < n → ∃ qb qo pv, a = some ⟨qb, qo, none⟩ ∧ qb < w.heap.size ∧ w.cell? ⟨qb, qo + i, none⟩ = some pv ∧
    ((pv = .pointer none ∧ ns i = []) ∨ ∃ (k : Nat) (F : Nat → Prop) (c : Int), pv = .pointer (some ⟨k, 0, none⟩) ∧ bookAt w F k (ns i) c) := by
  rcases h with ⟨rfl, rfl⟩ | ⟨qb, qo, cap, pv, rfl, h2, h3, h4⟩
  · exact ⟨_, _, rfl, Nat.zero_le _, fun k hk => by omega⟩
  · exact ⟨_, _, rfl, h3, fun k hk => ⟨qb, qo, pv k, rfl, h2, (h4 k hk).1, (h4 k hk).2⟩⟩
theorem run_neq_notes (w : World) {x y : Nt} (hx : isSum x.1) (hy : isSum y.1) : (binOp .neq 92 (.agg (rowV 33 (noteV x))) (.agg (rowV 33 (noteV y)))).run Tryd.prog w = .ok (.bool (!decide (x = y))) w := by
  have h := run_eq_notes w hx hy
  unfold noteA at h
  have hb : binOp .neq 92 (.agg (rowV 33 (noteV x))) (.agg (rowV 33 (noteV y))) = (do let b ← Op.equalIn 10000 92 (.agg (rowV 33 (noteV x))) (.agg (rowV 33 (noteV y))); pure (.bool (!b))) := rfl
  rw [hb, Sem.run_bind, h]
  rfl
/-- what Clash answers. -/
def clashAnsS (w' : World) (B : Nat) (va vb : Value) (fb : Bool) (r : Option (ByteArray × ByteArray)) : Prop := match r with
  | none => va = .slice none 0 0 ∧ vb = .slice none 0 0 ∧ fb = false
  | some (s, t) => softB w' va (sBytes s) ∧ softB w' vb (sBytes t) ∧ (∀ j, va.ownBlock = some j → B ≤ j) ∧ (∀ j, vb.ownBlock = some j → B ≤ j) ∧ fb = true
def clashAns (w' : World) (B : Nat) (va vb : Value) (fb : Bool) (r : Option (ByteArray × ByteArray)) : Prop := match r with
  | none => va = .slice none 0 0 ∧ vb = .slice none 0 0 ∧ fb = false
  | some (s, t) => isBytes w' va (sBytes s) ∧ isBytes w' vb (sBytes t) ∧ (∀ j, va.ownBlock = some j → B ≤ j) ∧ (∀ j, vb.ownBlock = some j → B ≤ j) ∧ fb = true
theorem addN_mem {N : List Nt} {x y : Nt} (h : y ∈ addN N x) : y ∈ N ∨ y = x := by
  by_cases e : x ∈ N
  · rw [addN_in e] at h; exact Or.inl h
  · rw [addN_out e] at h; simpa using h
theorem foundN_mem {N : List Nt} {q : List Int} {i : Nat} (h : firstAt N q = some i) : foundN N q ∈ N := by
  have := firstAt_lt h
  unfold foundN
  rw [h]
  simp only
  rw [List.getD_eq_getElem?_getD, List.getElem?_eq_getElem this]; exact List.getElem_mem _
theorem exec_convert {P : Program} {o : Oper} {ev : Operand → Value} {w w' : World} {v r : Value} (s t : TypeId) (x : Operand) (ho : o.op = .convert s t x) (hx : ev x = v) (hr : (convert s t v).run P w = .ok r w') : (execOp ev o).run P w = .ok (.value r) w' := by
  unfold execOp
  simp only [ho, hx, Sem.run_bind, hr, Result.andThen_ok, Sem.run_pure]
/-- the notes ahead. -/
def aheadAt (w wr : World) (L : List Nt) (A R : List Nt) : Prop :=
  notesAt wr (fun j => w.heap.size ≤ j ∧ j < wr.heap.size) w.heap.size A 0 ∧ Below w.heap.size w wr ∧ clashGo [] L = clashGo A R ∧ A.length + R.length ≤ L.length ∧ ∀ x ∈ A, x.2.size ≤ 1000000000
theorem isBytes.below' {w w' : World} {v : Value} {l : List Int} (h : isBytes w v l) (hb : Below w.heap.size w w') : isBytes w' v l := h.below hb (Nat.le_refl _)

set_option maxHeartbeats 8000000 in
set_option maxRecDepth 100000 in
theorem clash_soft (n : Nat) (v : Value) (ns : Nat → List Nt) (w : World) (h : isBooks w v n ns) (hN : (joinF ns 0 n).length < 1000000) (hts : ∀ i, i < n → ∀ x ∈ ns i, x.2.size ≤ 1000000000) :
    Calls Tryd.prog 25 #[v] w fun e w' => ∃ va vb fb, e = .returned (.tuple #[va, vb, .bool fb]) ∧ clashAnsS w' w.heap.size va vb fb (clashGo [] (joinF ns 0 n)) ∧ Below w.heap.size w w' := by
  obtain ⟨a, cap, rfl, hm, hcell⟩ := h.open
  unfold maxLen at hm
  have q0 : (n : Int) ≤ 9223372036854775807 := by omega
  obtain ⟨L, hL⟩ : ∃ L, L = joinF ns 0 n := ⟨_, rfl⟩
  rw [← hL] at hN ⊢
  have hz := zero_note
  have A0 : Hid (aheadAt w (w.alloc (.cells #[.slice none 0 0, .map none, .int .i64 0] 89)) L [] (joinF ns 0 (n - 0))) := (show aheadAt w (w.alloc (.cells #[.slice none 0 0, .map none, .int .i64 0] 89)) L [] (joinF ns 0 (n - 0)) from
    ⟨⟨.slice none 0 0, .map none, rowIs_new w _ _ 3 _ rfl (fun i hi => by
        have : i = 0 ∨ i = 1 ∨ i = 2 := by omega
        rcases this with rfl | rfl | rfl <;> rfl), ⟨Nat.le_refl _, by simp⟩, listAt_nil _ _, Or.inl ⟨rfl, rfl⟩, fun x hx => by simp at hx, fun k hk => hk.2⟩,
      (Below.refl _ _).alloc (Nat.le_refl _) _, by rw [hL]; rfl, by rw [hL]; simp, fun x hx => by simp at hx⟩)
  clear h
  go_enter Tryd.func25, Tryd.ntmps25
  go_wp2
  go_loopw [14] (fun i wr => ∃ (k : Nat) (A : List Nt), k ≤ n ∧ i = .int .i64 k ∧ aheadAt w wr L A (joinF ns k (n - k))) (fun i _ => n - (intOf i).toNat)
  case atStart => exact ⟨0, [], by omega, rfl, A0.out⟩
  case round =>
    obtain ⟨k, A, hk, rfl, hA⟩ := hrel
    clear A0
    have HA : Hid _ := hA
    by_cases hlt : k < n
    · obtain ⟨qb, qo, pv, rfl, hqb, hpv, hcase⟩ := hcell k hlt
      have p0 : (0 : Int) ≤ (k : Int) := by omega
      have p1 : (k : Int) < (n : Int) := by omega
      have hc0 : wr.cell? ⟨qb, qo + k, none⟩ = some pv := (hA.2.1.cell (p := ⟨qb, qo + k, none⟩) hqb).trans hpv
      have hj := joinF_step ns n k hlt
      have HJ : Hid _ := hj
      clear hA hj
      rcases hcase with ⟨rfl, hn0⟩ | ⟨kb, F, c, rfl, hbk⟩
      · go_wp2_with fail
        refine (empty_none wr).mono ?_
        rintro e w' ⟨rfl, hw⟩
        obtain rfl := hw.symm
        clear hw
        have hj2 := HJ.out
        rw [hn0, List.nil_append] at hj2
        have HA2 : Hid (aheadAt w wr L A (joinF ns (k + 1) (n - (k + 1)))) := (show aheadAt w wr L A (joinF ns (k + 1) (n - (k + 1))) from by
          rw [← hj2]; exact HA.out)
        clear hj2
        go_wp2
        go_light
        exact ⟨⟨k + 1, A, by omega, by go_num, HA2.out⟩, by simp [intOf]; omega⟩
      · have hbk' := hbk.below HA.out.2.1 (Nat.le_refl _)
        have hsum : ∀ x ∈ ns k, isSum x.1 := by
          obtain ⟨_, _, _, _, ⟨_, h, _⟩ | ⟨_, _, _, _, _, _, _, _, _, h, _⟩⟩ := hbk
          · rw [h]; intro x hx; simp at hx
          · exact h
        obtain ⟨hFk, hltF, pv, hpvk, hcase⟩ := hbk'
        have hkb := hltF kb hFk
        rcases hcase with ⟨rfl, hn0, _⟩ | ⟨nb, rfl, hnk, hnn⟩
        · go_wp2_with fail
          refine (empty_zero kb wr hpvk).mono ?_
          rintro e w' ⟨rfl, hw⟩
          obtain rfl := hw.symm
          clear hw
          have hj2 := HJ.out
          rw [hn0, List.nil_append] at hj2
          have HA2 : Hid (aheadAt w wr L A (joinF ns (k + 1) (n - (k + 1)))) := (show aheadAt w wr L A (joinF ns (k + 1) (n - (k + 1))) from by
            rw [← hj2]; exact HA.out)
          clear hj2
          go_wp2
          go_light
          exact ⟨⟨k + 1, A, by omega, by go_num, HA2.out⟩, by simp [intOf]; omega⟩
        · obtain ⟨lv, mv, h1, h2, h3, h4, h5, h6⟩ := hnn
          have hnbw := h6 nb h2
          obtain ⟨la, lc, rfl, hlc, hlm, hcl⟩ := h3.shape
          have c0 : wr.cell? ⟨kb, 0, none⟩ = some (.pointer (some ⟨nb, 0, none⟩)) := hpvk.cell (i := 0) (by omega)
          have c1 : wr.cell? ⟨nb, 0, none⟩ = some (.slice la (ns k).length lc) := h1.cell (i := 0) (by omega)
          -- the list's cells are old
          have hold : ∀ g, g < wr.heap.size → F g → g < w.heap.size := fun g _ hg => by
            obtain ⟨_, h, _⟩ := hbk
            exact h g hg
          have hcl' : ∀ i x, (ns k)[i]? = some x → ∃ g, la = some ⟨g, 0, none⟩ ∧ g < w.heap.size ∧ ∀ j, j < 33 → w.cell? ⟨g, i * 33 + j, none⟩ = some (noteV x j) := fun i x hx => by
            obtain ⟨g, a1, a2, a3, a4⟩ := hcl i x hx
            have hg := hold g a3 a2.1
            exact ⟨g, a1, hg, fun j hj => by rw [← HA.out.2.1.cell (p := ⟨g, i * 33 + j, none⟩) hg]; exact a4 j hj⟩
          have qn : ((ns k).length : Int) ≤ 9223372036854775807 := by unfold maxLen at hlm; omega
          have HC : Hid _ := hcl'
          have HA2 : Hid (aheadAt w wr L A ((ns k).drop 0 ++ joinF ns (k + 1) (n - (k + 1)))) := (show aheadAt w wr L A ((ns k).drop 0 ++ joinF ns (k + 1) (n - (k + 1))) from by
            have hj2 := HJ.out
            rw [List.drop_zero, ← hj2]; exact HA.out)
          clear hcl hcl' h1 h3 h4 hold h5 h6
          go_wp2_with fail
          refine (empty_some kb nb wr hpvk).mono ?_
          rintro e w' ⟨rfl, hw⟩
          obtain rfl := hw.symm
          clear hw
          go_wp2
          clear HA HJ
          go_loopw [28] (fun i wq => ∃ (j : Nat) (B : List Nt), j ≤ (ns k).length ∧ i = .int .i64 j ∧ aheadAt w wq L B ((ns k).drop j ++ joinF ns (k + 1) (n - (k + 1)))) (fun i _ => (ns k).length - (intOf i).toNat)
          case atStart => exact ⟨0, A, by omega, rfl, HA2.out⟩
          case round =>
            obtain ⟨j, B, hj, rfl, hB⟩ := hrel
            clear HA2 c0 c1
            have HB : Hid _ := hB
            by_cases hlt2 : j < (ns k).length
            · obtain ⟨g, rfl, hgw, hcl⟩ := HC.out j _ (List.getElem?_eq_getElem hlt2)
              have p2 : (0 : Int) ≤ (j : Int) := by omega
              have p3 : (j : Int) < ((ns k).length : Int) := by omega
              obtain ⟨X, hX⟩ : ∃ X, X = (ns k)[j] := ⟨_, rfl⟩
              have hXs : isSum X.1 := hsum X (by rw [hX]; exact List.getElem_mem _)
              have hXt : X.2.size ≤ 1000000000 := hts k hlt X (by rw [hX]; exact List.getElem_mem _)
              have hdrop : (ns k).drop j = X :: (ns k).drop (j + 1) := by rw [hX]; exact List.drop_eq_getElem_cons hlt2
              rw [← hX] at hcl
              have HD : Hid _ := hdrop
              clear hX hdrop
              have hwq := hB.2.1
              have hwqs := hwq.size
              have ldc : ∀ i, i < 33 → wr.cell? ⟨g, j * 33 + i, none⟩ = some (noteV X i) := fun i hi => by
                rw [hwq.cell (p := ⟨g, j * 33 + i, none⟩) hgw]; exact hcl i hi
              have ra := rowIs_box wr 92 33 (noteV zeroN)
              clear hcl hB
              go_upto_region 9 with (first | (refine wpList_load_seg rfl 92 (.tmp 30) rfl g (j * 33) 33 (noteV X) rfl _ Tryd.underlying92 rfl note33 ldc ?_) | (refine wpList_store_row rfl 92 (.tmp 9) (.tmp 31) rfl rfl wr.heap.size 0 33 (noteV X) rfl rfl note33 (fun i _ => noteV_one _ i) _ _ _ ra (by omega) ?_; intro w5 r5 hz5 hb5))
              have hs5 : w5.heap.size = wr.heap.size + 1 := by rw [hz5]; simp
              have hb5' : Below wr.heap.size wr w5 := ((Below.refl wr.heap.size wr).alloc (Nat.le_refl _) _).trans ((hb5.mono (by simp)).below (Nat.le_refl _))
              have r5' : w5.rowIs wr.heap.size 92 33 (noteV X) := r5.congr fun i hi => by rw [if_pos (by omega), Nat.sub_zero]
              have ld5 : ∀ i, i < 32 → w5.cell? ⟨wr.heap.size, 0 + i, none⟩ = some (arrV X.1 i) := fun i hi => by
                rw [Nat.zero_add, r5'.cell (show i < 33 by omega), noteV, if_pos hi]
              have N5 : notesAt w5 (fun j => w.heap.size ≤ j ∧ j < wr.heap.size) w.heap.size B 0 := HB.out.1.below hb5' (Nat.le_refl _)
              have FA := find_any _ w.heap.size B 0 X.1 w5 N5 hXs
              obtain ⟨fx, hfx⟩ : ∃ fx, fx = foundN B X.1 := ⟨_, rfl⟩
              have hfs : isSum fx.1 := by rw [hfx]; exact foundN_sum N5.choose_spec.choose_spec.2.2.2.2.1 X.1
              rw [← hfx] at FA
              have HFX : Hid (fx = foundN B X.1) := (show fx = foundN B X.1 from hfx)
              clear hfx
              unfold noteA sumV at FA
              have NB5 : Hid (notesAt w5 (fun j => w.heap.size ≤ j ∧ j < wr.heap.size) w.heap.size B 0) := (show notesAt w5 (fun j => w.heap.size ≤ j ∧ j < wr.heap.size) w.heap.size B 0 from N5)
              have HB5 : Hid _ := hb5'
              have R5 : Hid _ := r5'
              clear r5 hz5 hb5 hb5' ra ldc N5 r5' HC
              go_wp2_with (first | (refine wpList_load_seg rfl 30 (.tmp 33) rfl wr.heap.size 0 32 (arrV X.1) rfl _ Tryd.underlying30 rfl hi32' ld5 ?_))
              refine FA.mono ?_
              rintro e w6 ⟨rfl, hb6⟩
              have hs6 := hb6.size
              clear FA ld5
              have r6 : w6.rowIs wr.heap.size 92 33 (noteV X) := hb6.row R5.out (by omega)
              have N6 := notesAt.below NB5.out hb6 (Nat.le_refl _)
              have hb06 : Below wr.heap.size wr w6 := HB5.out.trans (hb6.mono (by omega))
              have ra6 := rowIs_box w6 92 33 (noteV zeroN)
              have NB6 : Hid (notesAt w6 (fun j => w.heap.size ≤ j ∧ j < wr.heap.size) w.heap.size B 0) := (show notesAt w6 (fun j => w.heap.size ≤ j ∧ j < wr.heap.size) w.heap.size B 0 from N6)
              have HB6 : Hid _ := hb06
              have R6 : Hid _ := r6
              have S6 : Hid (wr.heap.size + 1 ≤ w6.heap.size) := (show wr.heap.size + 1 ≤ w6.heap.size by omega)
              clear hb6 r6 N6 hb06 NB5 HB5 R5 hs5 hs6
              go_upto_region 10 with (first | (refine wpList_store_row rfl 92 (.tmp 10) (.tmp 36) rfl rfl w6.heap.size 0 33 (noteV fx) rfl rfl note33 (fun i _ => noteV_one _ i) _ _ _ ra6 (by omega) ?_; intro w7 r7 hz7 hb7))
              have s6 := S6.out
              have hs7 : w7.heap.size = w6.heap.size + 1 := by rw [hz7]; simp
              have hb67 : Below w6.heap.size w6 w7 := ((Below.refl w6.heap.size w6).alloc (Nat.le_refl _) _).trans ((hb7.mono (by simp)).below (Nat.le_refl _))
              have r7' : w7.rowIs w6.heap.size 92 33 (noteV fx) := r7.congr fun i hi => by rw [if_pos (by omega), Nat.sub_zero]
              have r7X : w7.rowIs wr.heap.size 92 33 (noteV X) := hb67.row R6.out (by omega)
              have N7 := notesAt.below NB6.out hb67 (Nat.le_refl _)
              have hb07 : Below wr.heap.size wr w7 := HB6.out.trans (hb67.mono (by omega))
              have ldF : ∀ i, i < 33 → w7.cell? ⟨w6.heap.size, 0 + i, none⟩ = some (noteV fx i) := fun i hi => by rw [Nat.zero_add]; exact r7'.cell hi
              have ldX : ∀ i, i < 33 → w7.cell? ⟨wr.heap.size, 0 + i, none⟩ = some (noteV X i) := fun i hi => by rw [Nat.zero_add]; exact r7X.cell hi
              have cF : w7.cell? ⟨w6.heap.size, 32, none⟩ = some (.string fx.2) := by
                have := r7'.cell (i := 32) (by omega)
                rw [noteV, if_neg (by omega)] at this; exact this
              have cX : w7.cell? ⟨wr.heap.size, 32, none⟩ = some (.string X.2) := by
                have := r7X.cell (i := 32) (by omega)
                rw [noteV, if_neg (by omega)] at this; exact this
              have heq : ∀ wz : World, (Op.equalIn 10000 92 (.agg (rowV 33 (noteV fx))) (.agg (rowV 33 (noteV X)))).run Tryd.prog wz = .ok (decide (fx = X)) wz := fun wz => run_eq_notes wz hfs hXs
              have NB7 : Hid (notesAt w7 (fun j => w.heap.size ≤ j ∧ j < wr.heap.size) w.heap.size B 0) := (show notesAt w7 (fun j => w.heap.size ≤ j ∧ j < wr.heap.size) w.heap.size B 0 from N7)
              have HB7 : Hid _ := hb07
              have R7 : Hid _ := r7'
              have RX : Hid _ := r7X
              have HLF : Hid _ := ldF
              have HLX : Hid _ := ldX
              have S7 : Hid (wr.heap.size + 2 ≤ w7.heap.size) := (show wr.heap.size + 2 ≤ w7.heap.size by omega)
              clear r7 hz7 hb7 hs7 hb67 r7' r7X N7 hb07 NB6 HB6 R6 ra6 s6 S6 ldF ldX
              -- what comes behind, where nothing clashes
              have ADD := add_note _ w.heap.size B 0 X w7 NB7.out hXs (by have := HB.out.2.2.2.1; omega)
              unfold noteA at ADD
              have hrest : ¬ ((firstAt B X.1).isSome = true ∧ foundN B X.1 ≠ X) → ∀ w8 : World, notesAt w8 (Gr (fun j => w.heap.size ≤ j ∧ j < wr.heap.size) w7 w8) w.heap.size (addN B X) 0 → Fr (fun j => w.heap.size ≤ j ∧ j < wr.heap.size) w7 w8 → aheadAt w w8 L (addN B X) ((ns k).drop (j + 1) ++ joinF ns (k + 1) (n - (k + 1))) := fun hno w8 hn8 hf8 => by
                obtain ⟨_, hbw, hcl, hln, hsz⟩ := HB.out
                rw [HD.out, List.cons_append] at hcl hln
                have hs8 := hf8.size
                have hs7 := HB7.out.size
                have hlen := addN_len B X
                have s7 := S7.out
                refine ⟨hn8.grow (fun i hi => ?_) (fun i hi => hi.2), ?_, ?_, ?_, fun x hx => ?_⟩
                · rcases hi with h | h
                  · exact ⟨h.1, by omega⟩
                  · exact ⟨by omega, h.2⟩
                · exact (hbw.trans (HB7.out.mono (by omega))).trans (hf8.below (fun i hi => hi.1) (by omega))
                · rw [hcl, clashGo, if_neg hno]
                · simp only [List.length_cons] at hln; omega
                · rcases addN_mem hx with h | h
                  · exact hsz x h
                  · rw [h]; exact hXt
              have HR : Hid _ := hrest
              have HAD : Hid _ := ADD
              clear hrest ADD
              cases hf : firstAt B X.1 with
              | none =>
                have hno := HR.out (fun h => by rw [hf] at h; simp at h)
                have HN : Hid _ := hno
                clear hno HR
                simp only [Option.isSome_none]
                go_upto_region 12 with fail
                clear heq HLF R7 RX HB7 cF cX
                go_wp2_with (first | (refine wpList_load_seg rfl 92 (.tmp 9) rfl wr.heap.size 0 33 (noteV X) rfl _ Tryd.underlying92 rfl note33 HLX.out ?_))
                refine Calls.mono HAD.out ?_
                rintro e w8 ⟨rfl, hn8, hf8⟩
                have HN8 : Hid (aheadAt w w8 L (addN B X) ((ns k).drop (j + 1) ++ joinF ns (k + 1) (n - (k + 1)))) := (show aheadAt w w8 L (addN B X) ((ns k).drop (j + 1) ++ joinF ns (k + 1) (n - (k + 1))) from HN.out _ hn8 hf8)
                clear hn8 hf8 HAD HN NB7 HLX
                go_wp2
                go_light
                exact ⟨⟨j + 1, addN B X, by omega, by go_num, HN8.out⟩, by simp [intOf]; omega⟩
              | some i0 =>
                simp only [Option.isSome_some]
                by_cases hne : fx = X
                · have hno := HR.out (fun h => h.2 (HFX.out ▸ hne))
                  have HN : Hid _ := hno
                  clear hno HR
                  have hd : decide (fx = X) = true := decide_eq_true hne
                  rw [hd] at heq
                  clear hne hd
                  go_upto_region 12 with (first | (refine wpList_load_w 92 (.tmp 10) rfl rfl w6.heap.size 0 33 (noteV fx) rfl _ Tryd.underlying92 rfl note33 HLF.out ?_) | (refine wpList_load_w 92 (.tmp 9) rfl rfl wr.heap.size 0 33 (noteV X) rfl _ Tryd.underlying92 rfl note33 HLX.out ?_))
                  clear heq HLF R7 RX HB7 cF cX
                  go_wp2_with (first | (refine wpList_load_seg rfl 92 (.tmp 9) rfl wr.heap.size 0 33 (noteV X) rfl _ Tryd.underlying92 rfl note33 HLX.out ?_))
                  refine Calls.mono HAD.out ?_
                  rintro e w8 ⟨rfl, hn8, hf8⟩
                  have HN8 : Hid (aheadAt w w8 L (addN B X) ((ns k).drop (j + 1) ++ joinF ns (k + 1) (n - (k + 1)))) := (show aheadAt w w8 L (addN B X) ((ns k).drop (j + 1) ++ joinF ns (k + 1) (n - (k + 1))) from HN.out _ hn8 hf8)
                  clear hn8 hf8 HAD HN NB7 HLX
                  go_wp2
                  go_light
                  exact ⟨⟨j + 1, addN B X, by omega, by go_num, HN8.out⟩, by simp [intOf]; omega⟩
                · have hd : decide (fx = X) = false := decide_eq_false hne
                  rw [hd] at heq
                  have hyes : clashGo [] L = some (fx.2, X.2) := by
                    obtain ⟨_, hbw, hcl, hln, hsz⟩ := HB.out
                    rw [hcl, HD.out, List.cons_append, clashGo, ← HFX.out, if_pos ⟨by rw [hf]; rfl, hne⟩]
                  have HY : Hid _ := hyes
                  have hft : fx.2.size ≤ 1000000000 := by
                    rw [HFX.out]; exact HB.out.2.2.2.2 _ (foundN_mem hf)
                  clear hyes HR HAD HB HD
                  go_upto_region 11 with (first | (refine wpList_load_w 92 (.tmp 10) rfl rfl w6.heap.size 0 33 (noteV fx) rfl _ Tryd.underlying92 rfl note33 HLF.out ?_) | (refine wpList_load_w 92 (.tmp 9) rfl rfl wr.heap.size 0 33 (noteV X) rfl _ Tryd.underlying92 rfl note33 HLX.out ?_))
                  have KF : Hid (w7.cell? ⟨w6.heap.size, 32, none⟩ = some (.string fx.2)) := (show w7.cell? ⟨w6.heap.size, 32, none⟩ = some (.string fx.2) from cF)
                  have KX : Hid (w7.cell? ⟨wr.heap.size, 32, none⟩ = some (.string X.2)) := (show w7.cell? ⟨wr.heap.size, 32, none⟩ = some (.string X.2) from cX)
                  have KS : Hid (w6.heap.size < w7.heap.size) := (show w6.heap.size < w7.heap.size from World.rowIs.lt R7.out)
                  clear cF cX
                  refine wp_region_noPanic ?_
                  refine wp_region_held_drew (S := fun w' => Below w7.heap.size w7 w') (by kernel_rfl) ((Below.refl _ _).drew) (fun hHeld => ?_)
                  refine take_op (i := 0) (v := ?vq0) rfl (by kernel_rfl) (by kernel_rfl) (by kernel_rfl) (fun _ _ _ h => h) rfl hHeld ?yq0 ?rq0
                  case yq0 => (intro wz hz; go_simp; first | done | with_reducible rfl)
                  try simp only [Act.put, List.setIfInBounds_toArray, List.set_cons_zero, List.set_cons_succ]
                  refine take_op (i := 1) (v := ?vq1) rfl (by kernel_rfl) (by kernel_rfl) (by kernel_rfl) (fun _ _ _ h => h) rfl hHeld ?yq1 ?rq1
                  case yq1 => (intro wz hz; have hcz : wz.cell? ⟨w6.heap.size, 32, none⟩ = some (.string fx.2) := (hz.cell (p := ⟨w6.heap.size, 32, none⟩) (show w6.heap.size < w7.heap.size by have := KS.out; omega)).trans KF.out; go_simp; first | done | with_reducible rfl)
                  try simp only [Act.put, List.setIfInBounds_toArray, List.set_cons_zero, List.set_cons_succ]
                  refine take_op (i := 3) (v := ?vq3) rfl (by kernel_rfl) (by kernel_rfl) (by kernel_rfl) (fun _ _ _ h => h) rfl hHeld ?yq3 ?rq3
                  case yq3 => (intro wz hz; go_simp; first | done | with_reducible rfl)
                  try simp only [Act.put, List.setIfInBounds_toArray, List.set_cons_zero, List.set_cons_succ]
                  refine take_op (i := 4) (v := ?vq4) rfl (by kernel_rfl) (by kernel_rfl) (by kernel_rfl) (fun _ _ _ h => h) rfl hHeld ?yq4 ?rq4
                  case yq4 => (intro wz hz; have hcz : wz.cell? ⟨wr.heap.size, 32, none⟩ = some (.string X.2) := (hz.cell (p := ⟨wr.heap.size, 32, none⟩) (show wr.heap.size < w7.heap.size by have := S7.out; omega)).trans KX.out; go_simp; first | done | with_reducible rfl)
                  try simp only [Act.put, List.setIfInBounds_toArray, List.set_cons_zero, List.set_cons_succ]
                  refine take_pair (i := 2) (j := 5) rfl rfl (by kernel_rfl) rfl rfl (fun K hK => ?_) (fun K hK => ?_)
                  · obtain ⟨va, wa, hra, hia, hoa, hba, hsa, hfa⟩ := str_bytes w7.drew fx.2 (by omega)
                    have hsa' : wa.heap.size = w7.heap.size + 1 := hsa
                    have hoa' : ∀ j, va.ownBlock = some j → j = w7.heap.size := hoa
                    obtain ⟨vb, wb, hrb, hib, hob, hbb, hsb, hfb⟩ := str_bytes wa X.2 (by omega)
                    refine wp_convert_run 9 34 (.tmp 45) rfl rfl hra ?_
                    refine hK.out _ _ (hHeld.trans hba) (fun hHeld => ?_)
                    clear hK K
                    try simp only [Act.put, List.setIfInBounds_toArray, List.set_cons_zero, List.set_cons_succ]
                    refine take_op (i := 6) (v := ?vqa6) rfl (by kernel_rfl) (by kernel_rfl) (by kernel_rfl) (fun _ _ _ h => h) rfl hHeld ?yqa6 ?rqa6
                    case yqa6 => (intro wz hz; go_simp; first | done | with_reducible rfl)
                    try simp only [Act.put, List.setIfInBounds_toArray, List.set_cons_zero, List.set_cons_succ]
                    refine take_run (i := 5) rfl (by kernel_rfl) rfl (exec_convert 9 34 (.tmp 48) rfl rfl hrb) (hHeld.trans (hbb.mono (by omega))) ?_
                    try simp only [Act.put, List.setIfInBounds_toArray, List.set_cons_zero, List.set_cons_succ]
                    have hHeld2 : Below w7.heap.size w7 wb := hHeld.trans (hbb.mono (by omega))
                    clear hHeld
                    have hHeld := hHeld2
                    clear hHeld2
                    refine take_op (i := 7) (v := ?vqa7) rfl (by kernel_rfl) (by kernel_rfl) (by kernel_rfl) (fun _ _ _ h => h) rfl hHeld ?yqa7 ?rqa7
                    case yqa7 => (intro wz hz; go_simp; first | done | with_reducible rfl)
                    try simp only [Act.put, List.setIfInBounds_toArray, List.set_cons_zero, List.set_cons_succ]
                    refine take_op (i := 8) (v := ?vqa8) rfl (by kernel_rfl) (by kernel_rfl) (by kernel_rfl) (fun _ _ _ h => h) rfl hHeld ?yqa8 ?rqa8
                    case yqa8 => (intro wz hz; go_simp; first | done | with_reducible rfl)
                    try simp only [Act.put, List.setIfInBounds_toArray, List.set_cons_zero, List.set_cons_succ]
                    clear hsa
                    have hsa := hsa'
                    clear hoa
                    have hoa := hoa'
                    clear hsa' hoa'
                    have s7 := S7.out
                    have IA : Hid (softB wb va (sBytes fx.2)) := (show softB wb va (sBytes fx.2) from softB.below ⟨hia, hfa⟩ hbb (Nat.le_refl _))
                    have IB : Hid (softB wb vb (sBytes X.2)) := (show softB wb vb (sBytes X.2) from ⟨hib, hfb⟩)
                    have OA : Hid (∀ j, va.ownBlock = some j → w.heap.size ≤ j) := (show ∀ j, va.ownBlock = some j → w.heap.size ≤ j from fun j hj => by have := hoa j hj; omega)
                    have OB : Hid (∀ j, vb.ownBlock = some j → w.heap.size ≤ j) := (show ∀ j, vb.ownBlock = some j → w.heap.size ≤ j from fun j hj => by have := hob j hj; omega)
                    clear hia hib hoa hob hba hbb hsa hsb hra hrb s7 hfa hfb
                    refine wpAnyH_done (by kernel_rfl) ?_ _
                    refine NoPanic.normal ?_
                    have HBF : Hid _ := hHeld
                    clear hHeld
                    go_wp2
                    exact bodyPost_ret (results_tmp3 rfl _ _ _) rfl ⟨_, _, _, rfl, by rw [HY.out]; exact ⟨IA.out, IB.out, OA.out, OB.out, rfl⟩, (hwq.trans (HB7.out.mono (by omega))).trans (HBF.out.mono (by have := HB7.out.size; omega))⟩
                  · obtain ⟨vb, wb, hrb, hib, hob, hbb, hsb, hfb⟩ := str_bytes w7.drew X.2 (by omega)
                    have hsb' : wb.heap.size = w7.heap.size + 1 := hsb
                    have hob' : ∀ j, vb.ownBlock = some j → j = w7.heap.size := hob
                    obtain ⟨va, wa, hra, hia, hoa, hba, hsa, hfa⟩ := str_bytes wb fx.2 (by omega)
                    refine wp_convert_run 9 34 (.tmp 48) rfl rfl hrb ?_
                    refine hK.out _ _ (hHeld.trans hbb) (fun hHeld => ?_)
                    clear hK K
                    try simp only [Act.put, List.setIfInBounds_toArray, List.set_cons_zero, List.set_cons_succ]
                    refine take_run (i := 2) rfl (by kernel_rfl) rfl (exec_convert 9 34 (.tmp 45) rfl rfl hra) (hHeld.trans (hba.mono (by omega))) ?_
                    try simp only [Act.put, List.setIfInBounds_toArray, List.set_cons_zero, List.set_cons_succ]
                    have hHeld2 : Below w7.heap.size w7 wa := hHeld.trans (hba.mono (by omega))
                    clear hHeld
                    have hHeld := hHeld2
                    clear hHeld2
                    refine take_op (i := 6) (v := ?vqb6) rfl (by kernel_rfl) (by kernel_rfl) (by kernel_rfl) (fun _ _ _ h => h) rfl hHeld ?yqb6 ?rqb6
                    case yqb6 => (intro wz hz; go_simp; first | done | with_reducible rfl)
                    try simp only [Act.put, List.setIfInBounds_toArray, List.set_cons_zero, List.set_cons_succ]
                    refine take_op (i := 7) (v := ?vqb7) rfl (by kernel_rfl) (by kernel_rfl) (by kernel_rfl) (fun _ _ _ h => h) rfl hHeld ?yqb7 ?rqb7
                    case yqb7 => (intro wz hz; go_simp; first | done | with_reducible rfl)
                    try simp only [Act.put, List.setIfInBounds_toArray, List.set_cons_zero, List.set_cons_succ]
                    refine take_op (i := 8) (v := ?vqb8) rfl (by kernel_rfl) (by kernel_rfl) (by kernel_rfl) (fun _ _ _ h => h) rfl hHeld ?yqb8 ?rqb8
                    case yqb8 => (intro wz hz; go_simp; first | done | with_reducible rfl)
                    try simp only [Act.put, List.setIfInBounds_toArray, List.set_cons_zero, List.set_cons_succ]
                    clear hsb
                    have hsb := hsb'
                    clear hob
                    have hob := hob'
                    clear hsb' hob'
                    have s7 := S7.out
                    have IA : Hid (softB wa va (sBytes fx.2)) := (show softB wa va (sBytes fx.2) from ⟨hia, hfa⟩)
                    have IB : Hid (softB wa vb (sBytes X.2)) := (show softB wa vb (sBytes X.2) from softB.below ⟨hib, hfb⟩ hba (Nat.le_refl _))
                    have OA : Hid (∀ j, va.ownBlock = some j → w.heap.size ≤ j) := (show ∀ j, va.ownBlock = some j → w.heap.size ≤ j from fun j hj => by have := hoa j hj; omega)
                    have OB : Hid (∀ j, vb.ownBlock = some j → w.heap.size ≤ j) := (show ∀ j, vb.ownBlock = some j → w.heap.size ≤ j from fun j hj => by have := hob j hj; omega)
                    clear hia hib hoa hob hba hbb hsa hsb hra hrb s7 hfa hfb
                    refine wpAnyH_done (by kernel_rfl) ?_ _
                    refine NoPanic.normal ?_
                    have HBF : Hid _ := hHeld
                    clear hHeld
                    go_wp2
                    exact bodyPost_ret (results_tmp3 rfl _ _ _) rfl ⟨_, _, _, rfl, by rw [HY.out]; exact ⟨IA.out, IB.out, OA.out, OB.out, rfl⟩, (hwq.trans (HB7.out.mono (by omega))).trans (HBF.out.mono (by have := HB7.out.size; omega))⟩
            · obtain rfl : j = (ns k).length := by omega
              have HB2 : Hid (aheadAt w wr L B (joinF ns (k + 1) (n - (k + 1)))) := (show aheadAt w wr L B (joinF ns (k + 1) (n - (k + 1))) from by
                have := HB.out
                rw [List.drop_length, List.nil_append] at this; exact this)
              clear hB HB
              go_wp2
              go_light
              exact ⟨⟨k + 1, B, by omega, by go_num, HB2.out⟩, by simp [intOf]; omega⟩
    · obtain rfl : k = n := by omega
      have hnone : clashGo [] L = none := by
        have := HA.out.2.2.1
        rw [Nat.sub_self] at this; exact this
      have HBL : Hid _ := hA.2.1
      clear HA hA
      go_wp2
      exact bodyPost_ret (results_tmp3 rfl _ _ _) rfl ⟨_, _, _, rfl, by rw [hnone]; exact ⟨rfl, rfl, rfl⟩, HBL.out⟩
theorem clash_any (n : Nat) (v : Value) (ns : Nat → List Nt) (w : World) (h : isBooks w v n ns) (hN : (joinF ns 0 n).length < 1000000) (hts : ∀ i, i < n → ∀ x ∈ ns i, x.2.size ≤ 1000000000) :
    Calls Tryd.prog 25 #[v] w fun e w' => ∃ va vb fb, e = .returned (.tuple #[va, vb, .bool fb]) ∧ clashAns w' w.heap.size va vb fb (clashGo [] (joinF ns 0 n)) ∧ Below w.heap.size w w' :=
  (clash_soft n v ns w h hN hts).mono fun e w' ⟨va, vb, fb, h1, h2, h3⟩ => ⟨va, vb, fb, h1, by
    revert h2
    cases clashGo [] (joinF ns 0 n) with
    | none => exact id
    | some p => exact fun h => ⟨h.1.1, h.2.1.1, h.2.2⟩, h3⟩
end Go.Proofs.YtmfgfcknhjblgaaDoor

/- The chapter's examples. -/
namespace Go.Proofs.YtmfgfcknhjblgaaDoor
set_option linter.unusedSimpArgs false
set_option linter.unusedVariables false
open Go.RowKit Go.Deep

theorem bytes_ok {l : List Int} (h : l.all (fun b => decide (0 ≤ b) && decide (b ≤ 255)) = true) (i : Nat) : 0 ≤ l.getD i 0 ∧ l.getD i 0 ≤ 255 := by
  rw [List.getD_eq_getElem?_getD]
  cases e : l[i]? with
  | none => exact ⟨by simp, by simp⟩
  | some x =>
    have := List.all_eq_true.1 h x (List.mem_of_getElem? e)
    simpa using this
theorem zero_sum : ∀ w : World, (zeroValue 30).run Tryd.prog w = .ok (.agg (rowV 32 (fun _ => .int .u8 0))) w := fun w => by kernel_rfl
theorem strA_ne : strOf [97] ≠ strOf [98] := by decide
theorem nts1 (x : Nt) : addN [] x = [x] := rfl
theorem nts2 (q : List Int) : addN [(q, strOf [97])] (q, strOf [98]) = [(q, strOf [97]), (q, strOf [98])] := addN_out (by simp [strA_ne.symm])
theorem nts3 (q : List Int) : addN [(q, strOf [97]), (q, strOf [98])] (q, strOf [97]) = [(q, strOf [97]), (q, strOf [98])] := addN_in (by simp)
theorem nts4 (q : List Int) : firstAt [(q, strOf [97]), (q, strOf [98])] q = some 0 := by simp [firstAt, List.findIdx?_cons]
theorem nts5 (q : List Int) : foundB [(q, strOf [97]), (q, strOf [98])] q = [97] := by
  unfold foundB; rw [nts4]; show sBytes (strOf [97]) = [97]; decide +kernel
theorem nts6 (q : List Int) : clashGo [] [(q, strOf [97]), (q, strOf [98])] = some (strOf [97], strOf [98]) := by
  have e0 : firstAt [] q = none := rfl
  have e1 : firstAt [(q, strOf [97])] q = some 0 := by simp [firstAt, List.findIdx?_cons]
  have e2 : foundN [(q, strOf [97])] q = (q, strOf [97]) := by unfold foundN; rw [e1]; rfl
  rw [clashGo, if_neg (by rw [e0]; simp), nts1, clashGo]
  simp only [e1, e2]
  rw [if_pos ⟨rfl, fun h => strA_ne (Prod.mk.inj h).2⟩]
theorem pre_a : preB 1 1 (fun _ => [97]) = [1, 1, 1, 97] := by decide +kernel
theorem pre_ab : preB 2 2 (fun i => if i = 0 then [] else [97, 98]) = [2, 0, 1, 2, 97, 98] := by decide +kernel
theorem parts_one (w : World) (v : Value) (p : List Int) (h : isBytes w v p) : isParts (w.alloc (.cells #[v] 34)) (.slice (some ⟨w.heap.size, 0, none⟩) 1 1) 1 (fun _ => p) :=
  Or.inr ⟨w.heap.size, 0, 1, fun _ => v, rfl, by simp, by unfold maxLen; omega, fun i hi => by
    obtain rfl : i = 0 := by omega
    exact ⟨one_cell w _ _, Or.inl (h.below ((Below.refl _ _).alloc (Nat.le_refl _) _) (Nat.le_refl _))⟩⟩
/-- []byte of a constant. -/
theorem const_bytes (w : World) (C : Array Value) (l : List Int) (n : Nat) (hC : C = (l.map (Value.int .u8)).toArray) (hn : n = l.length) (hl : l.length ≤ 1000) (hb : ∀ i, 0 ≤ l.getD i 0 ∧ l.getD i 0 ≤ 255) :
    ∃ w', (convert 34 34 (.slice (some ⟨w.heap.size, 0, none⟩) n n)).run Tryd.prog (w.alloc (.cells C 5)) = .ok (.slice (some ⟨w.heap.size, 0, none⟩) n n) w' ∧ isBytes w' (.slice (some ⟨w.heap.size, 0, none⟩) n n) l ∧ Below w.heap.size w w' ∧ w'.heap.size = w.heap.size + 1 := by
  refine ⟨_, Go.Lib.run_convert_bytes_const w 34 5 C n n Tryd.underlying34 Tryd.underlying5, Or.inr ⟨w.heap.size, 0, n, by rw [hn], by omega, by unfold maxLen; omega, by simp, fun i hi => ?_, hb⟩, (Below.refl _ _).alloc (Nat.le_refl _) _, by simp⟩
  have h1 : (w.alloc (.cells C 5 (C.size, C.size + 1))).heap[w.heap.size]? = some (.cells C 5 (C.size, C.size + 1)) := blk_alloc_new _ _
  have h2 : C[i]? = some (.int .u8 (l.getD i 0)) := by rw [hC, List.getElem?_toArray]; exact getElem?_u8 hi
  rw [Nat.zero_add]
  unfold World.cell?
  simp only [h1]
  exact h2
/-- a book that Of is asked twice. -/
theorem Gr.ge {F : Nat → Prop} {w w' : World} {B : Nat} (h : ∀ j, F j → B ≤ j) (hB : B ≤ w.heap.size) : ∀ j, Gr F w w' j → B ≤ j := fun j hj => by
  rcases hj with hj | hj
  · exact h j hj
  · omega
set_option maxHeartbeats 4000000 in
set_option maxRecDepth 100000 in
theorem awake_any (w : World) (ht : tabIs w) : Calls Tryd.prog 22 #[] w fun e w' => e = .returned (.bool true) ∧ Below w.heap.size w w' := by
  have ht0 := ht.1
  have hz32 := zero_sum
  obtain ⟨q, hq⟩ : ∃ q, q = sumL [1, 1, 1, 97] := ⟨_, rfl⟩
  have hqs : isSum q := hq ▸ sumL_is _
  have HQ : Hid (q = sumL [1, 1, 1, 97]) := (show q = sumL [1, 1, 1, 97] from hq)
  clear hq
  -- the first book, and one part
  obtain ⟨w0, hw0⟩ : ∃ w0, w0 = w.alloc (.cells #[.pointer none] 64) := ⟨_, rfl⟩
  have s0 : w0.heap.size = w.heap.size + 1 := by rw [hw0]; simp
  have b0 : Below w.heap.size w w0 := by rw [hw0]; exact (Below.refl _ _).alloc (Nat.le_refl _) _
  have k0 : bookAt w0 (fun j => j = w.heap.size) w.heap.size [] 0 := bookAt.new w w0 w.heap.size (by
    rw [hw0]; exact rowIs_new w _ _ 1 _ rfl (fun i hi => by
      obtain rfl : i = 0 := by omega
      rfl))
  obtain ⟨w1, cv1, p1, b1, s1⟩ := const_bytes w0 #[.int .u8 97] [97] 1 rfl rfl (by simp) (bytes_ok (by decide))
  obtain ⟨w2, hw2⟩ : ∃ w2, w2 = w1.alloc (.cells #[.slice (some ⟨w0.heap.size, 0, none⟩) 1 1] 34) := ⟨_, rfl⟩
  have b2 : Below w1.heap.size w1 w2 := by rw [hw2]; exact (Below.refl _ _).alloc (Nat.le_refl _) _
  have p2 := parts_one w1 _ [97] p1
  rw [← hw2] at p2
  have s2 : w2.heap.size = w1.heap.size + 1 := by rw [hw2]; simp
  have b02 : Below w0.heap.size w0 w2 := b1.trans (b2.mono (by omega))
  have X := of_any _ w.heap.size [] 0 1 1 _ (fun _ => [97]) w2 (k0.below b02 (Nat.le_refl _)) p2.any (fun i hi => by
    have : i = 0 ∨ i = 1 := by omega
    rcases this with rfl | rfl <;> decide +kernel) (ht.below (b0.trans (b02.mono (by omega))) ht0) (by omega) (by decide) ⟨by omega, by omega⟩
  rw [pre_a, ← HQ.out, nts1] at X
  have S0 : Hid (w0.heap.size = w.heap.size + 1) := (show w0.heap.size = w.heap.size + 1 from s0)
  have S2 : Hid (w2.heap.size = w.heap.size + 3) := (show w2.heap.size = w.heap.size + 3 by omega)
  clear s0 s1 s2
  unfold sumV at X
  go_enter Tryd.func22, Tryd.ntmps22
  go_upto_region 2 with fail
  rw [← hw0]
  clear hw0
  go_wp2_with (first | (refine wpList_convert_run rfl _ _ _ rfl rfl cv1 ?_))
  rw [← hw2]
  clear hw2
  refine X.mono ?_
  rintro e w3 ⟨rfl, k3, f3⟩
  have s0 := S0.out
  have s2 := S2.out
  have g1 : ∀ j, (fun j => j = w.heap.size) j → w.heap.size ≤ j := fun j hj => Nat.le_of_eq hj.symm
  have g3 : ∀ j, Gr (fun j => j = w.heap.size) w2 w3 j → w.heap.size ≤ j := Gr.ge g1 (by omega)
  have B3 : Below w.heap.size w w3 := (b0.trans (b02.mono (by omega))).trans (f3.below g1 (by omega))
  clear X b0 b02 b1 b2 p1 p2 k0 cv1 f3 s0 s2 S0 S2
  obtain ⟨w4, cv4, p4, b4, s4⟩ := const_bytes w3 #[.int .u8 97] [97] 1 rfl rfl (by simp) (bytes_ok (by decide))
  obtain ⟨w5, hw5⟩ : ∃ w5, w5 = w4.alloc (.cells #[.slice (some ⟨w3.heap.size, 0, none⟩) 1 1] 34) := ⟨_, rfl⟩
  have b5 : Below w4.heap.size w4 w5 := by rw [hw5]; exact (Below.refl _ _).alloc (Nat.le_refl _) _
  have p5 := parts_one w4 _ [97] p4
  rw [← hw5] at p5
  have s5 : w5.heap.size = w4.heap.size + 1 := by rw [hw5]; simp
  have b35 : Below w3.heap.size w3 w5 := b4.trans (b5.mono (by omega))
  have hs3 := B3.size
  have hs35 := b35.size
  have X := of_any _ w.heap.size _ _ 1 1 _ (fun _ => [97]) w5 (k3.below b35 (Nat.le_refl _)) p5.any (fun i hi => by
    have : i = 0 ∨ i = 1 := by omega
    rcases this with rfl | rfl <;> decide +kernel) (ht.below (B3.trans (b35.mono hs3)) ht0) (fun h => by have := g3 0 h; omega) (by simp) ⟨by omega, by omega⟩
  rw [pre_a, ← HQ.out, addN_in (List.mem_singleton.2 rfl)] at X
  unfold sumV at X
  have HB3 : Hid (Below w.heap.size w w5) := (show Below w.heap.size w w5 from B3.trans (b35.mono hs3))
  have HG3 : Hid (∀ j, Gr (fun j => j = w.heap.size) w2 w3 j → w.heap.size ≤ j) := (show ∀ j, Gr (fun j => j = w.heap.size) w2 w3 j → w.heap.size ≤ j from g3)
  clear B3 b35 b4 b5 s4 s5 p4 p5 k3 hs3 hs35 g1 g3
  go_wp2_with (first | (refine wpList_convert_run rfl _ _ _ rfl rfl cv4 ?_))
  rw [← hw5]
  clear hw5
  refine X.mono ?_
  rintro e w6 ⟨rfl, k6, f6⟩
  have hs5 := HB3.out.size
  have g6 : ∀ j, Gr (Gr (fun j => j = w.heap.size) w2 w3) w5 w6 j → w.heap.size ≤ j := Gr.ge HG3.out (by omega)
  have B6 : Below w.heap.size w w6 := HB3.out.trans (f6.below HG3.out (by omega))
  have hs6 := B6.size
  clear X cv4 f6 hs5
  have rz1 := rowIs_box w6 30 32 (fun _ => .int .u8 0)
  have rz2 := rowIs_box (w6.alloc (.cells (rowV 32 (fun _ => .int .u8 0)) 30)) 30 32 (fun _ => .int .u8 0)
  have rz1' := World.rowIs.alloc rz1 (.cells (rowV 32 (fun _ => .int .u8 0)) 30)
  have zz1 : (w6.alloc (.cells (rowV 32 (fun _ => .int .u8 0)) 30)).heap.size = w6.heap.size + 1 := by simp
  have zz2 : ((w6.alloc (.cells (rowV 32 (fun _ => .int .u8 0)) 30)).alloc (.cells (rowV 32 (fun _ => .int .u8 0)) 30)).heap.size = w6.heap.size + 2 := by simp
  rw [zz1] at rz2
  have bz : Below w6.heap.size w6 ((w6.alloc (.cells (rowV 32 (fun _ => .int .u8 0)) 30)).alloc (.cells (rowV 32 (fun _ => .int .u8 0)) 30)) := ((Below.refl _ _).alloc (Nat.le_refl _) _).alloc (by simp) _
  have B6' : Hid (Below w.heap.size w w6) := (show Below w.heap.size w w6 from B6)
  have K6 : Hid (bookAt w6 (Gr (Gr (fun j => j = w.heap.size) w2 w3) w5 w6) w.heap.size [(q, strOf [1, 1, 1, 97])] (0 + 1 + 1)) := (show bookAt w6 (Gr (Gr (fun j => j = w.heap.size) w2 w3) w5 w6) w.heap.size [(q, strOf [1, 1, 1, 97])] (0 + 1 + 1) from k6)
  have ZZ2 : Hid _ := zz2
  clear B6 k6 rz1 zz1 zz2
  go_upto_region 3 with (first | (refine wpList_store_row rfl 30 (.tmp 2) (.tmp 16) rfl rfl w6.heap.size 0 32 (arrV q) rfl rfl hi32' (fun _ _ => rfl) _ _ _ rz1' (by omega) ?_; intro w9 r9 hz9 hb9) | (refine wpList_store_row rfl 30 (.tmp 3) (.tmp 21) rfl rfl (w6.heap.size + 1) 0 32 (arrV q) rfl rfl hi32' (fun _ _ => rfl) _ _ _ (But.row hb9 rz2 (by rw [ZZ2.out]; omega) (by omega)) (by omega) ?_; intro w10 r10t hz10 hb10))
  have hz9' : w9.heap.size = w6.heap.size + 2 := hz9.trans ZZ2.out
  have hz10' : w10.heap.size = w6.heap.size + 2 := hz10.trans hz9'
  have r10 : w10.rowIs w6.heap.size 30 32 (arrV q) := (hb10.row r9 (by omega) (by omega)).congr fun i hi => by rw [if_pos (by omega), Nat.sub_zero]
  have r10t' : w10.rowIs (w6.heap.size + 1) 30 32 (arrV q) := r10t.congr fun i hi => by rw [if_pos (by omega), Nat.sub_zero]
  have b610 : Below w6.heap.size w6 w10 := (bz.trans ((hb9.mono (by rw [ZZ2.out]; omega)).below (Nat.le_refl _))).trans ((hb10.mono (by omega)).below (by omega))
  have K10 : Hid (bookAt w10 (Gr (Gr (fun j => j = w.heap.size) w2 w3) w5 w6) w.heap.size [(q, strOf [1, 1, 1, 97])] 2) := (show bookAt w10 (Gr (Gr (fun j => j = w.heap.size) w2 w3) w5 w6) w.heap.size [(q, strOf [1, 1, 1, 97])] 2 from bookAt.below K6.out b610 (Nat.le_refl _))
  have HB10 : Hid (Below w.heap.size w w10) := (show Below w.heap.size w w10 from B6'.out.trans (b610.mono hs6))
  have Z10 : Hid (w10.heap.size = w6.heap.size + 2) := (show w10.heap.size = w6.heap.size + 2 from hz10')
  clear hb9 hb10 hz9 hz10 hz9' r9 r10t b610 bz rz1' rz2 K6 B6' ZZ2
  -- the second book
  obtain ⟨w11, hw11⟩ : ∃ w11, w11 = w10.alloc (.cells #[.pointer none] 64) := ⟨_, rfl⟩
  have B11 : Below w10.heap.size w10 w11 := by rw [hw11]; exact (Below.refl _ _).alloc (Nat.le_refl _) _
  have k11 : bookAt w11 (fun j => j = w10.heap.size) w10.heap.size [] 0 := bookAt.new w10 w11 w10.heap.size (by
    rw [hw11]; exact rowIs_new w10 _ _ 1 _ rfl (fun i hi => by
      obtain rfl : i = 0 := by omega
      rfl))
  have g11 : ∀ j, (fun j => j = w10.heap.size) j → w10.heap.size ≤ j := fun j hj => Nat.le_of_eq hj.symm
  clear hz10'
  go_upto_region 4 with fail
  rw [← hw11]
  clear hw11
  obtain ⟨w20a, cv20, p20, b20, s20⟩ := const_bytes w11 #[.int .u8 97] [97] 1 rfl rfl (by simp) (bytes_ok (by decide))
  have X20 := note_any (fun j => j = w10.heap.size) w10.heap.size [] 0 q [97] _ w20a (k11.below b20 (Nat.le_refl _)) hqs (Or.inl p20) (fun j hj hf => by
    have h1 : w11.heap.size = j := by simpa [Value.ownBlock] using hj
    have h2 := k11.2.1 j hf
    omega) (by simp)
  rw [nts1] at X20
  unfold sumV at X20
  have ld20 : ∀ i, i < 32 → w11.cell? ⟨w6.heap.size, 0 + i, none⟩ = some (arrV q i) := fun i hi => by rw [Nat.zero_add]; have := Z10.out; exact (B11.row r10 (by omega)).cell hi
  have HB11 : Hid (Below w10.heap.size w10 w11) := (show Below w10.heap.size w10 w11 from B11)
  have HK11 : Hid (bookAt w11 (fun j => j = w10.heap.size) w10.heap.size [] 0) := (show bookAt w11 (fun j => j = w10.heap.size) w10.heap.size [] 0 from k11)
  have HF20 : Hid (Below w11.heap.size w11 w20a) := (show Below w11.heap.size w11 w20a from b20)
  have HS20 : Hid (w20a.heap.size = w11.heap.size + 1) := (show w20a.heap.size = w11.heap.size + 1 from s20)
  clear B11 k11 b20 s20 p20
  go_wp2_with (first | (refine wpList_load_seg rfl 30 (.tmp 2) rfl w6.heap.size 0 32 (arrV q) rfl _ Tryd.underlying30 rfl hi32' ld20 ?_) | (refine wpList_convert_run rfl _ _ _ rfl rfl cv20 ?_))
  refine X20.mono ?_
  rintro e w20b ⟨rfl, k20b, f20⟩
  clear X20 cv20 ld20
  have g20 : ∀ j, Gr (fun j => j = w10.heap.size) w20a w20b j → w10.heap.size ≤ j := Gr.ge g11 (by have := HS20.out; have := HB11.out.size; omega)
  have B20 : Below w10.heap.size w10 w20b := HB11.out.trans ((HF20.out.mono HB11.out.size).trans (f20.below g11 (by have := HS20.out; have := HB11.out.size; omega)))
  clear f20
  go_upto_region 5 with fail
  obtain ⟨w21a, cv21, p21, b21, s21⟩ := const_bytes w20b #[.int .u8 98] [98] 1 rfl rfl (by simp) (bytes_ok (by decide))
  have X21 := note_any (Gr (fun j => j = w10.heap.size) w20a w20b) w10.heap.size [(q, strOf [97])] 0 q [98] _ w21a (k20b.below b21 (Nat.le_refl _)) hqs (Or.inl p21) (fun j hj hf => by
    have h1 : w20b.heap.size = j := by simpa [Value.ownBlock] using hj
    have h2 := k20b.2.1 j hf
    omega) (by simp)
  rw [nts2] at X21
  unfold sumV at X21
  have ld21 : ∀ i, i < 32 → w20b.cell? ⟨w6.heap.size, 0 + i, none⟩ = some (arrV q i) := fun i hi => by rw [Nat.zero_add]; have := Z10.out; exact (B20.row r10 (by omega)).cell hi
  have HB20 : Hid (Below w10.heap.size w10 w20b) := (show Below w10.heap.size w10 w20b from B20)
  have HK20 : Hid (bookAt w20b (Gr (fun j => j = w10.heap.size) w20a w20b) w10.heap.size [(q, strOf [97])] 0) := (show bookAt w20b (Gr (fun j => j = w10.heap.size) w20a w20b) w10.heap.size [(q, strOf [97])] 0 from k20b)
  have HF21 : Hid (Below w20b.heap.size w20b w21a) := (show Below w20b.heap.size w20b w21a from b21)
  have HS21 : Hid (w21a.heap.size = w20b.heap.size + 1) := (show w21a.heap.size = w20b.heap.size + 1 from s21)
  clear B20 k20b b21 s21 p21
  go_wp2_with (first | (refine wpList_load_seg rfl 30 (.tmp 2) rfl w6.heap.size 0 32 (arrV q) rfl _ Tryd.underlying30 rfl hi32' ld21 ?_) | (refine wpList_convert_run rfl _ _ _ rfl rfl cv21 ?_))
  refine X21.mono ?_
  rintro e w21b ⟨rfl, k21b, f21⟩
  clear X21 cv21 ld21
  have g21 : ∀ j, Gr (Gr (fun j => j = w10.heap.size) w20a w20b) w21a w21b j → w10.heap.size ≤ j := Gr.ge g20 (by have := HS21.out; have := HB20.out.size; omega)
  have B21 : Below w10.heap.size w10 w21b := HB20.out.trans ((HF21.out.mono HB20.out.size).trans (f21.below g20 (by have := HS21.out; have := HB20.out.size; omega)))
  clear f21
  go_upto_region 6 with fail
  obtain ⟨w22a, cv22, p22, b22, s22⟩ := const_bytes w21b #[.int .u8 97] [97] 1 rfl rfl (by simp) (bytes_ok (by decide))
  have X22 := note_any (Gr (Gr (fun j => j = w10.heap.size) w20a w20b) w21a w21b) w10.heap.size [(q, strOf [97]), (q, strOf [98])] 0 q [97] _ w22a (k21b.below b22 (Nat.le_refl _)) hqs (Or.inl p22) (fun j hj hf => by
    have h1 : w21b.heap.size = j := by simpa [Value.ownBlock] using hj
    have h2 := k21b.2.1 j hf
    omega) (by simp)
  rw [nts3] at X22
  unfold sumV at X22
  have ld22 : ∀ i, i < 32 → w21b.cell? ⟨w6.heap.size, 0 + i, none⟩ = some (arrV q i) := fun i hi => by rw [Nat.zero_add]; have := Z10.out; exact (B21.row r10 (by omega)).cell hi
  have HB21 : Hid (Below w10.heap.size w10 w21b) := (show Below w10.heap.size w10 w21b from B21)
  have HK21 : Hid (bookAt w21b (Gr (Gr (fun j => j = w10.heap.size) w20a w20b) w21a w21b) w10.heap.size [(q, strOf [97]), (q, strOf [98])] 0) := (show bookAt w21b (Gr (Gr (fun j => j = w10.heap.size) w20a w20b) w21a w21b) w10.heap.size [(q, strOf [97]), (q, strOf [98])] 0 from k21b)
  have HF22 : Hid (Below w21b.heap.size w21b w22a) := (show Below w21b.heap.size w21b w22a from b22)
  have HS22 : Hid (w22a.heap.size = w21b.heap.size + 1) := (show w22a.heap.size = w21b.heap.size + 1 from s22)
  clear B21 k21b b22 s22 p22
  go_wp2_with (first | (refine wpList_load_seg rfl 30 (.tmp 2) rfl w6.heap.size 0 32 (arrV q) rfl _ Tryd.underlying30 rfl hi32' ld22 ?_) | (refine wpList_convert_run rfl _ _ _ rfl rfl cv22 ?_))
  refine X22.mono ?_
  rintro e w22b ⟨rfl, k22b, f22⟩
  clear X22 cv22 ld22
  have g22 : ∀ j, Gr (Gr (Gr (fun j => j = w10.heap.size) w20a w20b) w21a w21b) w22a w22b j → w10.heap.size ≤ j := Gr.ge g21 (by have := HS22.out; have := HB21.out.size; omega)
  have B22 : Below w10.heap.size w10 w22b := HB21.out.trans ((HF22.out.mono HB21.out.size).trans (f22.below g21 (by have := HS22.out; have := HB21.out.size; omega)))
  clear f22
  go_upto_region 7 with fail
  have hts : ∀ x ∈ ([(q, strOf [97]), (q, strOf [98])] : List Nt), x.2.size ≤ 1000000000 := fun x hx => by
    simp only [List.mem_cons, List.not_mem_nil, or_false] at hx
    rcases hx with rfl | rfl <;> (rw [strOf_size]; decide)
  have X30 := findB_any _ w10.heap.size _ 0 q w22b k22b hqs hts
  rw [nts4, nts5] at X30
  unfold sumV at X30
  have ld30 : ∀ i, i < 32 → w22b.cell? ⟨w6.heap.size, 0 + i, none⟩ = some (arrV q i) := fun i hi => by rw [Nat.zero_add]; exact (B22.row r10 (by have := Z10.out; omega)).cell hi
  have HB22 : Hid (Below w10.heap.size w10 w22b) := (show Below w10.heap.size w10 w22b from B22)
  have HK22 : Hid (bookAt w22b (Gr (Gr (Gr (fun j => j = w10.heap.size) w20a w20b) w21a w21b) w22a w22b) w10.heap.size [(q, strOf [97]), (q, strOf [98])] 0) := (show bookAt w22b (Gr (Gr (Gr (fun j => j = w10.heap.size) w20a w20b) w21a w21b) w22a w22b) w10.heap.size [(q, strOf [97]), (q, strOf [98])] 0 from k22b)
  clear B22 k22b
  go_wp2_with (first | (refine wpList_load_seg rfl 30 (.tmp 2) rfl w6.heap.size 0 32 (arrV q) rfl _ Tryd.underlying30 rfl hi32' ld30 ?_))
  refine X30.mono ?_
  rintro e w30 ⟨vx, rfl, ix, _, b30⟩
  obtain ⟨xa, xc, rfl, _⟩ := ix.slice
  have B30 : Below w10.heap.size w10 w30 := HB22.out.trans (b30.mono HB22.out.size)
  have k30 : bookAt w30 (Gr (Gr (Gr (fun j => j = w10.heap.size) w20a w20b) w21a w21b) w22a w22b) w10.heap.size [(q, strOf [97]), (q, strOf [98])] 0 := bookAt.below HK22.out b30 (Nat.le_refl _)
  clear X30 ld30 b30 HB22 HK22
  have H30 : Hid (isBytes w30 (.slice xa [(97 : Int)].length xc) [97]) := (show isBytes w30 (.slice xa [(97 : Int)].length xc) [97] from ix)
  clear ix
  -- Clash
  obtain ⟨w31, hw31⟩ : ∃ w31, w31 = w30.alloc (.cells #[.pointer (some ⟨w10.heap.size, 0, none⟩)] 52) := ⟨_, rfl⟩
  have b31 : Below w30.heap.size w30 w31 := by rw [hw31]; exact (Below.refl _ _).alloc (Nat.le_refl _) _
  have s31 : w31.heap.size = w30.heap.size + 1 := by rw [hw31]; simp
  have bk : isBooks w31 (.slice (some ⟨w30.heap.size, 0, none⟩) 1 1) 1 (fun _ => [(q, strOf [97]), (q, strOf [98])]) := Or.inr ⟨w30.heap.size, 0, 1, fun _ => .pointer (some ⟨w10.heap.size, 0, none⟩), rfl, by omega, by unfold maxLen; omega, fun i hi => by
    obtain rfl : i = 0 := by omega
    exact ⟨by rw [hw31]; exact one_cell w30 _ _, Or.inr ⟨w10.heap.size, _, 0, rfl, k30.below b31 (Nat.le_refl _)⟩⟩⟩
  have X32 := clash_any 1 _ _ w31 bk (by simp [joinF]) (fun i _ => hts)
  rw [show joinF (fun _ => [(q, strOf [97]), (q, strOf [98])]) 0 1 = [(q, strOf [97]), (q, strOf [98])] from rfl, nts6] at X32
  have HB31 : Hid (Below w10.heap.size w10 w31) := (show Below w10.heap.size w10 w31 from B30.trans (b31.mono B30.size))
  have H31 : Hid (isBytes w31 (.slice xa [(97 : Int)].length xc) [97]) := (show isBytes w31 (.slice xa [(97 : Int)].length xc) [97] from isBytes.below H30.out b31 (Nat.le_refl _))
  clear B30 b31 s31 bk k30 H30 hts
  go_upto_region 8 with fail
  go_wp2_with fail
  rw [← hw31]
  clear hw31
  refine X32.mono ?_
  rintro e w32 ⟨va, vb, fb, rfl, ⟨ia, ib, _, _, rfl⟩, b32⟩
  obtain ⟨aa, ac, rfl, _⟩ := ia.slice
  obtain ⟨ba, bc, rfl, _⟩ := ib.slice
  rw [show sBytes (strOf [97]) = [97] from by decide +kernel] at ia
  rw [show sBytes (strOf [98]) = [98] from by decide +kernel] at ib
  have B32 : Below w10.heap.size w10 w32 := HB31.out.trans (b32.mono HB31.out.size)
  have i32 := isBytes.below H31.out b32 (Nat.le_refl _)
  clear X32 b32 HB31 H31
  -- Preimage
  obtain ⟨w33, cv33, p33, b33, s33⟩ := const_bytes w32 #[.int .u8 97, .int .u8 98] [97, 98] 2 rfl rfl (by simp) (bytes_ok (by decide))
  obtain ⟨w34, hw34⟩ : ∃ w34, w34 = w33.alloc (.cells #[.slice none 0 0, .slice (some ⟨w32.heap.size, 0, none⟩) 2 2] 34) := ⟨_, rfl⟩
  have b34 : Below w33.heap.size w33 w34 := by rw [hw34]; exact (Below.refl _ _).alloc (Nat.le_refl _) _
  have s34 : w34.heap.size = w33.heap.size + 1 := by rw [hw34]; simp
  have p34 : isParts w34 (.slice (some ⟨w33.heap.size, 0, none⟩) 2 2) 2 (fun i => if i = 0 then [] else [97, 98]) := by
    have hr : w34.rowIs w33.heap.size 34 2 (fun i => if i = 0 then .slice none 0 0 else .slice (some ⟨w32.heap.size, 0, none⟩) 2 2) := by
      rw [hw34]; exact rowIs_new w33 _ _ 2 _ rfl (fun i hi => by
        have : i = 0 ∨ i = 1 := by omega
        rcases this with rfl | rfl <;> rfl)
    refine Or.inr ⟨w33.heap.size, 0, 2, _, rfl, by omega, by unfold maxLen; omega, fun i hi => ⟨by rw [Nat.zero_add]; exact hr.cell hi, ?_⟩⟩
    have : i = 0 ∨ i = 1 := by omega
    rcases this with rfl | rfl
    · exact Or.inl (Or.inl ⟨rfl, rfl⟩)
    · exact Or.inl (p33.below b34 (Nat.le_refl _))
  have X35 := pre_any 2 2 _ _ w34 p34.any (fun i hi => by
    have : i = 0 ∨ i = 1 ∨ i = 2 := by omega
    rcases this with rfl | rfl | rfl <;> decide +kernel)
  rw [pre_ab] at X35
  have b324 : Below w32.heap.size w32 w34 := b33.trans (b34.mono (by omega))
  have B34 : Hid (Below w10.heap.size w10 w34) := (show Below w10.heap.size w10 w34 from B32.trans (b324.mono B32.size))
  have IA : Hid (isBytes w34 (.slice aa (sBytes (strOf [97])).length ac) [97]) := (show isBytes w34 (.slice aa (sBytes (strOf [97])).length ac) [97] from ia.below b324 (Nat.le_refl _))
  have IB : Hid (isBytes w34 (.slice ba (sBytes (strOf [98])).length bc) [98]) := (show isBytes w34 (.slice ba (sBytes (strOf [98])).length bc) [98] from ib.below b324 (Nat.le_refl _))
  have IX : Hid (isBytes w34 (.slice xa [(97 : Int)].length xc) [97]) := (show isBytes w34 (.slice xa [(97 : Int)].length xc) [97] from i32.below b324 (Nat.le_refl _))
  clear B32 b33 b34 s33 s34 p33 p34 b324 ia ib i32
  go_upto_region 9 with fail
  go_wp2_with (first | (refine wpList_convert_run rfl _ _ _ rfl rfl cv33 ?_))
  rw [← hw34]
  clear hw34
  refine X35.mono ?_
  rintro e w35 ⟨v35, rfl, n35, b35⟩
  obtain ⟨za, zc, rfl, _⟩ := n35.is.slice
  have cv35 := conv8 w35 _ _ n35.is
  rw [show strOf [2, 0, 1, 2, 97, 98] = ⟨#[2, 0, 1, 2, 97, 98]⟩ from by decide +kernel] at cv35
  have B35 : Below w10.heap.size w10 w35 := B34.out.trans (b35.mono B34.out.size)
  have lds : ∀ i, i < 32 → w35.cell? ⟨w6.heap.size, 0 + i, none⟩ = some (arrV q i) := fun i hi => by rw [Nat.zero_add]; exact (B35.row r10 (by have := Z10.out; omega)).cell hi
  have ldt : ∀ i, i < 32 → w35.cell? ⟨w6.heap.size + 1, 0 + i, none⟩ = some (arrV q i) := fun i hi => by rw [Nat.zero_add]; exact (B35.row r10t' (by have := Z10.out; omega)).cell hi
  have heq : ∀ wz : World, (Op.equalIn 10000 30 (.agg (rowV 32 (arrV q))) (.agg (rowV 32 (arrV q)))).run Tryd.prog wz = .ok true wz := fun wz => by
    have := run_eq_sums wz 9998 hqs hqs
    simpa [sumV] using this
  have k35 : bookAt w35 (Gr (Gr (fun j => j = w.heap.size) w2 w3) w5 w6) w.heap.size [(q, strOf [1, 1, 1, 97])] 2 := bookAt.below K10.out B35 (Nat.le_refl _)
  have IA2 : Hid (isBytes w35 (.slice aa (sBytes (strOf [97])).length ac) [97]) := (show isBytes w35 (.slice aa (sBytes (strOf [97])).length ac) [97] from isBytes.below IA.out b35 (Nat.le_refl _))
  have IB2 : Hid (isBytes w35 (.slice ba (sBytes (strOf [98])).length bc) [98]) := (show isBytes w35 (.slice ba (sBytes (strOf [98])).length bc) [98] from isBytes.below IB.out b35 (Nat.le_refl _))
  have IX2 : Hid (isBytes w35 (.slice xa [(97 : Int)].length xc) [97]) := (show isBytes w35 (.slice xa [(97 : Int)].length xc) [97] from isBytes.below IX.out b35 (Nat.le_refl _))
  have X36 := calls_any _ w.heap.size _ 2 w35 k35
  have X37 := all_any _ w.heap.size _ 2 w35 k35 (by simp) (fun x hx => by
    have : x = (q, strOf [1, 1, 1, 97]) := by simpa using hx
    rw [this, strOf_size]; decide)
  have HB35 : Hid (Below w10.heap.size w10 w35) := (show Below w10.heap.size w10 w35 from B35)
  clear X35 n35 b35 B35 k35 IA IB IX B34 cv33
  go_wp2_with (first | (refine wpList_convert_run rfl _ _ _ rfl rfl cv35 ?_) | (refine wpList_load_w 30 (.tmp 2) rfl rfl w6.heap.size 0 32 (arrV q) rfl _ Tryd.underlying30 rfl hi32' lds ?_) | (refine wpList_load_w 30 (.tmp 3) rfl rfl (w6.heap.size + 1) 0 32 (arrV q) rfl _ Tryd.underlying30 rfl hi32' ldt ?_))
  refine X36.mono ?_
  rintro e w' ⟨rfl, hw⟩
  obtain rfl := hw.symm
  clear hw X36 lds ldt heq cv35
  go_wp2_with fail
  refine X37.mono ?_
  rintro e w37 ⟨v37, rfl, m37, b37⟩
  obtain ⟨ya, yc, rfl, _, _⟩ := m37.parts.open
  have l97 : (sBytes (strOf [97])).length = 1 := by decide +kernel
  have l98 : (sBytes (strOf [98])).length = 1 := by decide +kernel
  have cvx := conv8 w37 _ _ (isBytes.below IX2.out b37 (Nat.le_refl _))
  have cva := conv8 w37 _ _ (isBytes.below IA2.out b37 (Nat.le_refl _))
  have cvb := conv8 w37 _ _ (isBytes.below IB2.out b37 (Nat.le_refl _))
  simp only [l97, l98, List.length_cons, List.length_nil, Nat.zero_add] at cvx cva cvb ⊢
  rw [show strOf [97] = ⟨#[97]⟩ from by decide +kernel] at cvx cva
  rw [show strOf [98] = ⟨#[98]⟩ from by decide +kernel] at cvb
  have hlen : (textL [(q, strOf [1, 1, 1, 97])]).length = 1 := rfl
  have HF : Hid (Below w.heap.size w w37) := (show Below w.heap.size w w37 from HB10.out.trans ((HB35.out.mono HB10.out.size).trans (b37.mono (Nat.le_trans HB10.out.size HB35.out.size))))
  clear m37 b37 X37 IX2 IA2 IB2
  simp only [hlen]
  clear l97 l98 hlen
  go_wp2_with (first | (refine wpList_convert_run rfl _ _ _ rfl rfl cvx ?_) | (refine wpList_convert_run rfl _ _ _ rfl rfl cva ?_) | (refine wpList_convert_run rfl _ _ _ rfl rfl cvb ?_))
  go_ret
  exact ⟨rfl, HF.out⟩
end Go.Proofs.YtmfgfcknhjblgaaDoor

/- The laws' own helpers: heavy, alike. -/
namespace Go.Proofs.YtmfgfcknhjblgaaDoor
set_option linter.unusedSimpArgs false
set_option linter.unusedVariables false
open Go.RowKit Go.Deep

/-- an act. -/
structure AR where
  what : Int
  kind : Int
  n : Nat
  ps : Nat → List Int
  sum : List Int
  bytes : List Int
def actV (d k : Int) (pv bv : Value) (q : List Int) (j : Nat) : Value := if j = 0 then .int .i64 d else if j = 1 then .int .i64 k else if j = 2 then pv else if j < 35 then arrV q (j - 3) else bv
def actAt (w : World) (b o : Nat) (x : AR) : Prop :=
  ∃ pv bv, (∀ j, j < 36 → w.cell? ⟨b, o + j, none⟩ = some (actV x.what x.kind pv bv x.sum j)) ∧ anyParts w pv x.n x.ps ∧ anyBytes w bv x.bytes ∧ isSum x.sum
/-- v is a slice of acts. -/
def isActs (w : World) (v : Value) (n : Nat) (acts : Nat → AR) : Prop :=
  (v = .slice none 0 0 ∧ n = 0) ∨ ∃ qb qo cap : Nat, v = .slice (some ⟨qb, qo, none⟩) n cap ∧ qb < w.heap.size ∧ n ≤ cap ∧ cap ≤ maxLen ∧ ∀ i, i < n → actAt w qb (qo + i * 36) (acts i)
theorem actAt.below {w w' : World} {B b o : Nat} {x : AR} (h : actAt w b o x) (hb : Below B w w') (hB : w.heap.size ≤ B) (hl : b < w.heap.size) : actAt w' b o x := by
  obtain ⟨pv, bv, h1, h2, h3, h4⟩ := h
  exact ⟨pv, bv, fun j hj => by rw [hb.cell (p := ⟨b, o + j, none⟩) (Nat.lt_of_lt_of_le hl hB)]; exact h1 j hj, h2.below hb hB, h3.below hb hB, h4⟩
theorem isActs.below {w w' : World} {B : Nat} {v : Value} {n : Nat} {acts : Nat → AR} (h : isActs w v n acts) (hb : Below B w w') (hB : w.heap.size ≤ B) : isActs w' v n acts := by
  rcases h with h | ⟨qb, qo, cap, h1, h2, h3, h4, h5⟩
  · exact Or.inl h
  · exact Or.inr ⟨qb, qo, cap, h1, Nat.lt_of_lt_of_le h2 hb.size, h3, h4, fun i hi => (h5 i hi).below hb hB h2⟩
theorem isActs.open {w : World} {v : Value} {n : Nat} {acts : Nat → AR} (h : isActs w v n acts) : ∃ a cap, v = .slice a n cap ∧ n ≤ cap ∧ cap ≤ maxLen ∧ ∀ i, i < n → ∃ qb qo, a = some ⟨qb, qo, none⟩ ∧ qb < w.heap.size ∧ actAt w qb (qo + i * 36) (acts i) := by
  rcases h with ⟨rfl, rfl⟩ | ⟨qb, qo, cap, rfl, h2, h3, h4, h5⟩
  · exact ⟨_, _, rfl, Nat.le_refl _, Nat.zero_le _, fun k hk => by omega⟩
  · exact ⟨_, _, rfl, h3, h4, fun k hk => ⟨qb, qo, rfl, h2, h5 k hk⟩⟩
/-- how many bytes acts have. -/
def wtA (acts : Nat → AR) : Nat → Nat
  | 0 => 0
  | k + 1 => wtA acts k + (acts k).bytes.length + (flatTo (acts k).ps (acts k).n).length
theorem wtA_mono (acts : Nat → AR) : ∀ n i, i ≤ n → wtA acts i ≤ wtA acts n
  | 0, i, h => by obtain rfl : i = 0 := by omega
                  exact Nat.le_refl _
  | n + 1, i, h => by
    by_cases e : i = n + 1
    · subst e; exact Nat.le_refl _
    · have := wtA_mono acts n i (by omega)
      rw [wtA]; omega
theorem wtA_one (acts : Nat → AR) (n i : Nat) (h : i < n) : (acts i).bytes.length + (flatTo (acts i).ps (acts i).n).length ≤ wtA acts n := by
  have := wtA_mono acts n (i + 1) h
  rw [wtA] at this; omega
def lightA (r : Bool) (n : Nat) (acts : Nat → AR) : Prop := r = false → n ≤ 200 ∧ (∀ i, i < n → (acts i).n ≤ 500) ∧ wtA acts n ≤ 60000
def heavyPost (w : World) (n : Nat) (acts : Nat → AR) (e : Ending) (w' : World) : Prop := ∃ r : Bool, e = .returned (.bool r) ∧ w' = w ∧ lightA r n acts
set_option maxHeartbeats 2000000 in
set_option maxRecDepth 100000 in
theorem heavy_any (n : Nat) (v : Value) (acts : Nat → AR) (w : World) (h : isActs w v n acts) :
    Calls Tryd.prog 21 #[v] w fun e w' => heavyPost w n acts e w' := by
  obtain ⟨a, cap, rfl, hc, hm, hact⟩ := h.open
  unfold maxLen at hm
  have q0 : (n : Int) ≤ 9223372036854775807 := by omega
  clear h
  by_cases h200 : 200 < n
  · have q1 : (200 : Int) < (n : Int) := by omega
    go_enter Tryd.func21, Tryd.ntmps21
    go_wp2
    go_ret
    exact ⟨_, rfl, rfl, fun h => by cases h⟩
  · have q1 : (n : Int) ≤ 200 := by omega
    have q1' : ¬ (200 : Int) < (n : Int) := by omega
    go_enter Tryd.func21, Tryd.ntmps21
    go_wp2
    go_loopw [3, 4] (fun z i wr => wr = w ∧ ∃ k : Nat, k ≤ n ∧ i = .int .i64 k ∧ z = .int .i64 (60000 - (wtA acts k : Int)) ∧ wtA acts k ≤ 60000 ∧ ∀ j, j < k → (acts j).n ≤ 500) (fun _ i _ => n - (intOf i).toNat)
    case atStart => exact ⟨rfl, 0, by omega, rfl, rfl, by simp [wtA], fun j hj => by omega⟩
    case round =>
      obtain ⟨hw, k, hk, rfl, rfl, hwt, h500⟩ := hrel
      obtain rfl := hw.symm
      clear hw
      have H5 : Hid (∀ j, j < k → (acts j).n ≤ 500) := (show ∀ j, j < k → (acts j).n ≤ 500 from h500)
      clear h500
      by_cases hlt : k < n
      · obtain ⟨qb, qo, rfl, hqb, pv, bv, hcell, hpv, hbv, hsum⟩ := hact k hlt
        have p0 : (0 : Int) ≤ (k : Int) := by omega
        have p1 : (k : Int) < (n : Int) := by omega
        obtain ⟨pa, pc, rfl, hpm, hpart⟩ := hpv.open
        obtain ⟨ba, bc, rfl, hbm⟩ := hbv.slice
        have c2 : w.cell? ⟨qb, qo + k * 36 + 2, none⟩ = some (.slice pa (acts k).n pc) := hcell 2 (by omega)
        have c35 : w.cell? ⟨qb, qo + k * 36 + 35, none⟩ = some (.slice ba (acts k).bytes.length bc) := hcell 35 (by omega)
        obtain ⟨T, hT⟩ : ∃ T, T = wtA acts k := ⟨_, rfl⟩
        obtain ⟨bl, hbl⟩ : ∃ bl, bl = (acts k).bytes.length := ⟨_, rfl⟩
        obtain ⟨pn, hpn⟩ : ∃ pn, pn = (acts k).n := ⟨_, rfl⟩
        rw [← hT] at hwt ⊢
        rw [← hbl] at c35 hbm
        rw [← hpn] at c2 hpart hpm
        unfold maxLen at hbm hpm
        have HT : Hid (T = wtA acts k) := (show T = wtA acts k from hT)
        have HL : Hid (bl = (acts k).bytes.length) := (show bl = (acts k).bytes.length from hbl)
        have HN : Hid (pn = (acts k).n) := (show pn = (acts k).n from hpn)
        have HP : Hid _ := hpart
        have i1 : (bl : Int) ≤ 9223372036854775807 := by omega
        have i2 : (pn : Int) ≤ 9223372036854775807 := by omega
        have i3 : (T : Int) ≤ 60000 := by omega
        have i4 : (0 : Int) ≤ (bl : Int) := by omega
        have i5 : (0 : Int) ≤ (T : Int) := by omega
        clear hT hbl hpn hcell hpv hbv hpart hact
        by_cases hpn5 : 500 < pn
        · have i6 : (500 : Int) < (pn : Int) := by omega
          go_wp2
          go_ret
          exact ⟨_, rfl, rfl, fun h => by cases h⟩
        · have i6 : ¬ (500 : Int) < (pn : Int) := by omega
          have i7 : (60000 : Int) - (T : Int) - (bl : Int) ≤ 60000 := by omega
          have i8 : (-9223372036854775807 : Int) ≤ (60000 : Int) - (T : Int) - (bl : Int) := by omega
          obtain ⟨ps, hps⟩ : ∃ ps, ps = (acts k).ps := ⟨_, rfl⟩
          rw [← hps] at HP
          have HPS : Hid (ps = (acts k).ps) := (show ps = (acts k).ps from hps)
          clear hps hbm hpm
          go_wp2
          go_loopw [3, 5] (fun z i wr => wr = w ∧ ∃ m : Nat, m ≤ pn ∧ i = .int .i64 m ∧ z = .int .i64 (60000 - (T : Int) - (bl : Int) - ((flatTo ps m).length : Int)) ∧ (-9223372036854775807 : Int) ≤ 60000 - (T : Int) - (bl : Int) - ((flatTo ps m).length : Int)) (fun _ i _ => pn - (intOf i).toNat)
          case atStart => exact ⟨rfl, 0, by omega, rfl, by simp [flatTo], by simp [flatTo]; omega⟩
          case round =>
            obtain ⟨hw, m, hm2, rfl, rfl, hlow⟩ := hrel
            obtain rfl := hw.symm
            clear hw
            have j0 : (0 : Int) ≤ (m : Int) := by omega
            by_cases hlt2 : m < pn
            · obtain ⟨pb, po, u, rfl, hpb, hpu, hu⟩ := HP.out m hlt2
              obtain ⟨ua, uc, rfl, hul⟩ := hu.slice
              have hfl : (flatTo ps (m + 1)).length = (flatTo ps m).length + (ps m).length := by rw [flatTo, List.length_append]
              have HFL : Hid _ := hfl
              clear hfl hu
              obtain ⟨fl, hf⟩ : ∃ fl, fl = (flatTo ps m).length := ⟨_, rfl⟩
              obtain ⟨ul, hul2⟩ : ∃ ul, ul = (ps m).length := ⟨_, rfl⟩
              rw [← hf] at hlow ⊢
              rw [← hul2] at hul hpu
              have HF : Hid (fl = (flatTo ps m).length) := (show fl = (flatTo ps m).length from hf)
              have HU : Hid (ul = (ps m).length) := (show ul = (ps m).length from hul2)
              clear hf hul2
              unfold maxLen at hul
              have j1 : (m : Int) < (pn : Int) := by omega
              have j2 : (ul : Int) ≤ 9223372036854775807 := by omega
              by_cases hge : 0 ≤ 60000 - (T : Int) - (bl : Int) - (fl : Int)
              · have j3 : (-9223372036854775807 : Int) ≤ 60000 - (T : Int) - (bl : Int) - (fl : Int) - (ul : Int) := by omega
                have j4 : 60000 - (T : Int) - (bl : Int) - (fl : Int) ≤ 60000 := by omega
                clear hul hlow
                go_wp2
                go_light
                refine ⟨⟨trivial, m + 1, by omega, by go_num, ?_, ?_⟩, by simp [intOf]; omega⟩
                · rw [HFL.out, ← HF.out, ← HU.out]; congr 1; omega
                · rw [HFL.out, ← HF.out, ← HU.out]; omega
              · have j3 : 60000 - (T : Int) - (bl : Int) - (fl : Int) < 0 := by omega
                clear hul
                go_wp2
                go_ret
                exact ⟨_, rfl, rfl, fun h => by cases h⟩
            · obtain rfl : m = pn := by omega
              have j1 : ¬ (m : Int) < (m : Int) := by omega
              obtain ⟨fl, hf⟩ : ∃ fl, fl = (flatTo ps m).length := ⟨_, rfl⟩
              rw [← hf] at hlow ⊢
              have HF : Hid (fl = (flatTo ps m).length) := (show fl = (flatTo ps m).length from hf)
              clear hf
              by_cases hge : 0 ≤ 60000 - (T : Int) - (bl : Int) - (fl : Int)
              · have j3 : ¬ 60000 - (T : Int) - (bl : Int) - (fl : Int) < 0 := by omega
                have hw1 : wtA acts (k + 1) = T + bl + fl := by
                  rw [wtA, ← HT.out, ← HL.out, ← HPS.out, ← HN.out, ← HF.out]
                have HW : Hid _ := hw1
                clear hw1
                go_wp2
                go_light
                refine ⟨⟨trivial, k + 1, by omega, by go_num, ?_, ?_, fun j hj => ?_⟩, by simp [intOf]; omega⟩
                · rw [HW.out]; congr 1; omega
                · rw [HW.out]; omega
                · by_cases e : j < k
                  · exact H5.out j e
                  · obtain rfl : j = k := by omega
                    rw [← HN.out]; omega
              · have j3 : 60000 - (T : Int) - (bl : Int) - (fl : Int) < 0 := by omega
                go_wp2
                go_ret
                exact ⟨_, rfl, rfl, fun h => by cases h⟩
      · obtain rfl : k = n := by omega
        have p1 : ¬ (k : Int) < (k : Int) := by omega
        go_wp2
        go_ret
        exact ⟨_, rfl, rfl, fun _ => ⟨by omega, H5.out, hwt⟩⟩
end Go.Proofs.YtmfgfcknhjblgaaDoor

/- Acts that a law makes. -/
namespace Go.Proofs.YtmfgfcknhjblgaaDoor
set_option linter.unusedSimpArgs false
set_option linter.unusedVariables false
open Go.RowKit Go.Deep

theorem i64_and255 (n : Int) : bits .and .i64 n 255 = n % 256 := by
  have h255 : (BitVec.ofInt 64 255).toNat = 2 ^ 8 - 1 := by decide
  have key : (BitVec.ofInt 64 n &&& BitVec.ofInt 64 255).toNat = (n % ((2 ^ 64 : Nat) : Int)).toNat % 2 ^ 8 := by
    rw [BitVec.toNat_and, BitVec.toNat_ofInt, h255, Nat.and_two_pow_sub_one_eq_mod]
  show IntKind.i64.wrap ((BitVec.ofInt 64 n &&& BitVec.ofInt 64 255).toNat : Nat) = n % 256
  rw [key, IntKind.wrap_i64]
  omega
theorem i64_and1 (n : Int) : bits .and .i64 n 1 = n % 2 := by
  have h1 : (BitVec.ofInt 64 1).toNat = 2 ^ 1 - 1 := by decide
  have key : (BitVec.ofInt 64 n &&& BitVec.ofInt 64 1).toNat = (n % ((2 ^ 64 : Nat) : Int)).toNat % 2 ^ 1 := by
    rw [BitVec.toNat_and, BitVec.toNat_ofInt, h1, Nat.and_two_pow_sub_one_eq_mod]
  show IntKind.i64.wrap ((BitVec.ofInt 64 n &&& BitVec.ofInt 64 1).toNat : Nat) = n % 2
  rw [key, IntKind.wrap_i64]
  omega
section
variable {P : Program}
theorem wpList_run {ops : Array Oper} {rest : List Oper} {o : Oper} {a : Act} {w w' : World} {Q : Exit → Act → World → Prop} {v : Value} (hgd : o.guard = none) (hr : (execOp a.eval o).run P w = .ok (.value v) w') (h : wpList P ops Q rest (a.put o.dst v) w') : wpList P ops Q (o :: rest) a w :=
  wpList_plain hgd fun _ hK => wp_of_run hr (hK _ _ h)
theorem exec_build1 {o : Oper} {ev : Operand → Value} {w w' : World} {v : Value} (t : TypeId) (i : Nat) (x : Operand) (a : Value) (ho : o.op = .build t #[(i, x)]) (hx : ev x = a)
    (hr : (Instr.build t #[(i, a)]).run P w = .ok v w') : (execOp ev o).run P w = .ok (.value v) w' := by
  unfold execOp
  simp only [ho, List.map_toArray, List.map_cons, List.map_nil, hx, Sem.run_bind, hr, Result.andThen_ok, Sem.run_pure]
theorem exec_bslice1 {o : Oper} {ev : Operand → Value} {w w' : World} {v : Value} (t : TypeId) (n i : Nat) (x : Operand) (a : Value) (ho : o.op = .buildSlice t n #[(i, x)]) (hx : ev x = a)
    (hr : (Instr.buildSlice t n #[(i, a)]).run P w = .ok v w') : (execOp ev o).run P w = .ok (.value v) w' := by
  unfold execOp
  simp only [ho, List.map_toArray, List.map_cons, List.map_nil, hx, Sem.run_bind, hr, Result.andThen_ok, Sem.run_pure]
theorem exec_bslice2 {o : Oper} {ev : Operand → Value} {w w' : World} {v : Value} (t : TypeId) (n i j : Nat) (x y : Operand) (a b : Value) (ho : o.op = .buildSlice t n #[(i, x), (j, y)]) (hx : ev x = a) (hy : ev y = b)
    (hr : (Instr.buildSlice t n #[(i, a), (j, b)]).run P w = .ok v w') : (execOp ev o).run P w = .ok (.value v) w' := by
  unfold execOp
  simp only [ho, List.map_toArray, List.map_cons, List.map_nil, hx, hy, Sem.run_bind, hr, Result.andThen_ok, Sem.run_pure]
end
def zq : List Int := List.replicate 32 0
theorem zq_sum : isSum zq := zeroN_sum
theorem build_act (a : Option Addr) (n c : Nat) (w : World) : (Instr.build 49 #[(2, .slice a n c)]).run Tryd.prog w = .ok (.agg (rowV 36 (actV 0 0 (.slice a n c) (.slice none 0 0) zq))) w := by
  show (_ : Result Value) = _
  kernel_rfl
theorem build_acts (f g : Nat → Value) (w : World) : (Instr.buildSlice 51 2 #[(0, .agg (rowV 36 f)), (1, .agg (rowV 36 g))]).run Tryd.prog w = .ok (.slice (some ⟨w.heap.size, 0, none⟩) 2 2) (w.alloc (.cells (rowV 72 (fun j => if j < 36 then f j else g (j - 36))) 49)) := by
  show (_ : Result Value) = _
  kernel_rfl
/-- an act of parts alone. -/
def partsA (n : Nat) (ps : Nat → List Int) : AR := ⟨0, 0, n, ps, zq, []⟩
theorem two_acts (w : World) (v u : Value) (n m : Nat) (ps qs : Nat → List Int) (hv : isParts w v n ps) (hu : isParts w u m qs) :
    isActs (w.alloc (.cells (rowV 72 (fun j => if j < 36 then actV 0 0 v (.slice none 0 0) zq j else actV 0 0 u (.slice none 0 0) zq (j - 36))) 49)) (.slice (some ⟨w.heap.size, 0, none⟩) 2 2) 2 (fun i => if i = 0 then partsA n ps else partsA m qs) := by
  have hb : Below w.heap.size w (w.alloc (.cells (rowV 72 (fun j => if j < 36 then actV 0 0 v (.slice none 0 0) zq j else actV 0 0 u (.slice none 0 0) zq (j - 36))) 49)) := (Below.refl _ _).alloc (Nat.le_refl _) _
  have hr := rowIs_box w 49 72 (fun j => if j < 36 then actV 0 0 v (.slice none 0 0) zq j else actV 0 0 u (.slice none 0 0) zq (j - 36))
  refine Or.inr ⟨w.heap.size, 0, 2, rfl, by simp, Nat.le_refl _, by unfold maxLen; omega, fun i hi => ?_⟩
  have : i = 0 ∨ i = 1 := by omega
  rcases this with rfl | rfl
  · refine ⟨v, .slice none 0 0, fun j hj => ?_, (hv.below hb (Nat.le_refl _)).any, Or.inl (Or.inl ⟨rfl, rfl⟩), zq_sum⟩
    rw [show 0 + 0 * 36 + j = j by omega, hr.cell (show j < 72 by omega), if_pos hj]; rfl
  · refine ⟨u, .slice none 0 0, fun j hj => ?_, (hu.below hb (Nat.le_refl _)).any, Or.inl (Or.inl ⟨rfl, rfl⟩), zq_sum⟩
    rw [show 0 + 1 * 36 + j = 36 + j by omega, hr.cell (show 36 + j < 72 by omega), if_neg (by omega), show 36 + j - 36 = j by omega]; rfl
theorem build_act0 (w : World) : (Instr.buildSlice 51 0 #[]).run Tryd.prog w = .ok (.slice (some ⟨w.heap.size, 0, none⟩) 0 0) (w.alloc (.cells #[] 49)) := by
  show (_ : Result Value) = _
  kernel_rfl
theorem exec_bslice0 {P : Program} {o : Oper} {ev : Operand → Value} {w w' : World} {v : Value} (t : TypeId) (n : Nat) (ho : o.op = .buildSlice t n #[])
    (hr : (Instr.buildSlice t n #[]).run P w = .ok v w') : (execOp ev o).run P w = .ok (.value v) w' := by
  unfold execOp
  simp only [ho, List.map_toArray, List.map_cons, List.map_nil, Sem.run_bind, hr, Result.andThen_ok, Sem.run_pure]
theorem build_act1 (f : Nat → Value) (w : World) : (Instr.buildSlice 51 1 #[(0, .agg (rowV 36 f))]).run Tryd.prog w = .ok (.slice (some ⟨w.heap.size, 0, none⟩) 1 1) (w.alloc (.cells (rowV 36 f) 49)) := by
  show (_ : Result Value) = _
  kernel_rfl
end Go.Proofs.YtmfgfcknhjblgaaDoor

/- Texts of bytes are alike just where the bytes are. -/
namespace Go.Proofs.YtmfgfcknhjblgaaDoor
set_option linter.unusedSimpArgs false
set_option linter.unusedVariables false
open Go.RowKit Go.Deep

theorem anyBytes.byte {w : World} {v : Value} {l : List Int} (h : anyBytes w v l) (i : Nat) : 0 ≤ l.getD i 0 ∧ l.getD i 0 ≤ 255 := by
  rcases h with h | ⟨_, rfl⟩
  · exact h.byte i
  · exact ⟨by simp, by simp⟩
theorem strOf_eq {w w' : World} {u v : Value} {l m : List Int} (hu : anyBytes w u l) (hv : anyBytes w' v m) : strOf l = strOf m ↔ l = m := ⟨fun h => strOf_inj hu.byte hv.byte h, fun h => by rw [h]⟩
end Go.Proofs.YtmfgfcknhjblgaaDoor

/- How long preimages are. Plain mathematics. -/
namespace Go.Proofs.YtmfgfcknhjblgaaDoor
set_option linter.unusedSimpArgs false
set_option linter.unusedVariables false
open Go.RowKit Go.Deep

theorem str_beq (s t : ByteArray) : (s.toList == t.toList) = decide (s = t) := by
  rw [Bool.eq_iff_iff, beq_iff_eq, decide_eq_true_iff, ByteArray.toList_eq, ByteArray.toList_eq]
  exact ⟨fun h => ByteArray.ext (Array.toList_inj.1 h), fun h => by rw [h]⟩
theorem numB_le (x : Int) : (numB x).length ≤ 9 := by rw [numB_length]; have := szI_le x; omega
theorem blobs_le (ps : Nat → List Int) : ∀ n, (flatTo (blobsB ps) n).length ≤ 9 * n + (flatTo ps n).length
  | 0 => by simp [flatTo]
  | n + 1 => by
    have := blobs_le ps n
    have h9 := numB_le ((ps n).length : Int)
    rw [flatTo, flatTo, List.length_append, List.length_append, show blobsB ps n = numB (ps n).length ++ ps n from rfl, List.length_append]
    omega
theorem part_le (ps : Nat → List Int) (n j : Nat) (h : j < n) : (ps j).length ≤ (flatTo ps n).length := by
  have := flatTo_mono ps n (j + 1) h
  rw [flatTo, List.length_append] at this; omega
end Go.Proofs.YtmfgfcknhjblgaaDoor
