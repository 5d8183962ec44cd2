import Derived.Test.YthpnenblmkdmcaaDoorOwn1
import Derived.Test.YthpnenblmkdmcaaDoorOwn4
set_option linter.unusedVariables false
set_option linter.unusedSimpArgs false
/- Nodes and roots. -/
namespace Go.Proofs.YthpnenblmkdmcaaDoor
set_option linter.unusedSimpArgs false
set_option linter.unusedVariables false
open Go.RowKit Go.Deep

theorem But.below' {B b : Nat} {w w' : World} (h : But w.heap.size b w w') (hb : B ≤ b) (hB : B ≤ w.heap.size) : Below B w w' := (h.mono hB).below hb
theorem node_nil (L : List (List Int)) (v : Value) (w : World) (h : sumsAt w v L) (hL : L.length ≤ 1000) (ht : tabIs w) :
    Calls Tryd.prog 32 #[.pointer none, v] w fun e w' => e = .returned (sumV (nodeS L)) ∧ Below w.heap.size w w' := by
  refine (node_gen (.pointer none) L v w h hL (fun wz w' => Below wz.heap.size wz w') (fun wz u hb hlt hp => ?_)).mono ?_
  · refine (of_nil 2 L.length u _ wz hp (nodeS_light L hL h.1) (ht.below hb ht.1)).mono ?_
    rintro e w' ⟨rfl, hb'⟩
    exact ⟨rfl, ⟨hb'.size, hb'.block _ hlt⟩, hb'⟩
  · rintro e w' ⟨rfl, wz, wx, h1, h2, h3, h4, h5⟩
    have := h3.size
    exact ⟨rfl, (h1.trans (h3.mono (by omega))).trans (h4.below' (Nat.le_refl _) (by omega))⟩
/-- the text that a node is noted with. -/
def nodeT (L : List (List Int)) : ByteArray := strOf (preB 2 L.length (fun i => L.getD i []))
theorem node_book (F : Nat → Prop) (k : Nat) (N : List Nt) (c : Int) (L : List (List Int)) (v : Value) (w : World) (hk : bookAt w F k N c) (h : sumsAt w v L) (hL : L.length ≤ 1000) (ht : tabIs w) (hF0 : ¬ F 0) (hN : N.length < 1000000) (hc : 0 ≤ c ∧ c < 1000000000) :
    Calls Tryd.prog 32 #[.pointer (some ⟨k, 0, none⟩), v] w fun e w' => e = .returned (sumV (nodeS L)) ∧ bookAt w' (Gr F w w') k (addN N (nodeS L, nodeT L)) (c + 1) ∧ Fr F w w' := by
  have hlt := hk.2.1
  have hFw : ¬ F w.heap.size := fun hf => by have := hlt _ hf; omega
  refine (node_gen (.pointer (some ⟨k, 0, none⟩)) L v w h hL (fun wz w' => bookAt w' (Gr F wz w') k (addN N (nodeS L, nodeT L)) (c + 1) ∧ Fr F wz w') (fun wz u hb hl hp => ?_)).mono ?_
  · refine (of_any F k N c 2 L.length u _ wz (hk.below hb (Nat.le_refl _)) hp (nodeS_light L hL h.1) (ht.below hb ht.1) hF0 hN hc).mono ?_
    rintro e w' ⟨rfl, hbk, hf⟩
    exact ⟨rfl, ⟨hf.size, hf.block _ hl hFw⟩, hbk, hf⟩
  · rintro e w' ⟨rfl, wz, wx, h1, h2, ⟨h3, h3'⟩, h4, h5⟩
    have s3 := h3'.size
    refine ⟨rfl, ?_, ?_⟩
    · refine (h3.far (fun j hj hl => h4.block j hl (fun e => ?_)) (by omega)).grow (fun j hj => ?_) (fun j hj => ?_)
      · rcases hj with hj | hj
        · exact hFw (e ▸ hj)
        · omega
      · rcases hj with hj | hj
        · exact Or.inl hj
        · exact Or.inr ⟨by omega, by omega⟩
      · rcases hj with hj | hj
        · have := hlt j hj; omega
        · exact hj.2
    · refine ((Fr.of_below F h1).trans h3' (fun _ _ h => h)).trans (G := fun j => j = w.heap.size) ⟨h4.os, h4.tape, h4.output, by omega, fun j hj hne => h4.block j hj hne⟩ (fun j hj e => by omega)
/-- the root of a row of sums. -/
def rootF : Nat → List (List Int) → List Int
  | 0, _ => nodeS []
  | fuel + 1, L => if L.length = 0 then nodeS [] else if L.length = 1 then L.getD 0 [] else nodeS [rootF fuel (L.take (halfN L.length)), rootF fuel (L.drop (halfN L.length))]
def rootS (L : List (List Int)) : List Int := rootF L.length L
theorem half_take {L : List (List Int)} (h : 2 ≤ L.length) : (L.take (halfN L.length)).length = halfN L.length ∧ (L.drop (halfN L.length)).length = L.length - halfN L.length ∧ halfN L.length < L.length ∧ 1 ≤ halfN L.length := by
  have := halfN_is h
  simp
  omega
theorem rootF_fuel : ∀ (n m : Nat) (L : List (List Int)), L.length ≤ n → L.length ≤ m → rootF n L = rootF m L
  | 0, 0, L, _, _ => rfl
  | 0, m + 1, L, h, _ => by rw [rootF, rootF, if_pos (by omega)]
  | n + 1, 0, L, _, h => by rw [rootF, rootF, if_pos (by omega)]
  | n + 1, m + 1, L, h1, h2 => by
    rw [rootF, rootF]
    by_cases e0 : L.length = 0
    · rw [if_pos e0, if_pos e0]
    · by_cases e1 : L.length = 1
      · rw [if_neg e0, if_neg e0, if_pos e1, if_pos e1]
      · have := half_take (L := L) (by omega)
        rw [if_neg e0, if_neg e0, if_neg e1, if_neg e1, rootF_fuel n m _ (by omega) (by omega), rootF_fuel n m _ (by omega) (by omega)]
theorem rootS_none {L : List (List Int)} (h : L.length = 0) : rootS L = nodeS [] := by unfold rootS; rw [h]; rfl
theorem rootS_one {L : List (List Int)} (h : L.length = 1) : rootS L = L.getD 0 [] := by unfold rootS; rw [h, rootF, if_neg (by omega), if_pos h]
theorem rootS_more {L : List (List Int)} (h : 2 ≤ L.length) : rootS L = nodeS [rootS (L.take (halfN L.length)), rootS (L.drop (halfN L.length))] := by
  have ht := half_take h
  unfold rootS
  obtain ⟨n, hn⟩ : ∃ n, L.length = n + 1 := ⟨L.length - 1, by omega⟩
  rw [show rootF L.length L = rootF (n + 1) L by rw [hn], rootF, if_neg (by omega), if_neg (by omega)]
  rw [rootF_fuel n _ _ (by omega) (Nat.le_refl _), rootF_fuel n _ (L.drop (halfN L.length)) (by omega) (Nat.le_refl _)]
theorem rootF_sum : ∀ (n : Nat) (L : List (List Int)), (∀ x ∈ L, isSum x) → isSum (rootF n L)
  | 0, _, _ => nodeS_sum _
  | n + 1, L, h => by
    rw [rootF]
    split
    · exact nodeS_sum _
    · split
      · rename_i h1
        rw [List.getD_eq_getElem?_getD, List.getElem?_eq_getElem (by omega)]; exact h _ (List.getElem_mem _)
      · exact nodeS_sum _
theorem rootS_sum {L : List (List Int)} (h : ∀ x ∈ L, isSum x) : isSum (rootS L) := rootF_sum _ L h
/-- the notes behind a root, and how often was hashed. -/
def rootNF : Nat → List Nt → List (List Int) → List Nt
  | 0, N, _ => addN N (nodeS [], nodeT [])
  | fuel + 1, N, L => if L.length = 0 then addN N (nodeS [], nodeT []) else if L.length = 1 then N else
      addN (rootNF fuel (rootNF fuel N (L.take (halfN L.length))) (L.drop (halfN L.length))) (nodeS [rootS (L.take (halfN L.length)), rootS (L.drop (halfN L.length))], nodeT [rootS (L.take (halfN L.length)), rootS (L.drop (halfN L.length))])
def rootN (N : List Nt) (L : List (List Int)) : List Nt := rootNF L.length N L
theorem rootNF_fuel : ∀ (n m : Nat) (N : List Nt) (L : List (List Int)), L.length ≤ n → L.length ≤ m → rootNF n N L = rootNF m N L
  | 0, 0, N, L, _, _ => rfl
  | 0, m + 1, N, L, h, _ => by rw [rootNF, rootNF, if_pos (by omega)]
  | n + 1, 0, N, L, _, h => by rw [rootNF, rootNF, if_pos (by omega)]
  | n + 1, m + 1, N, L, h1, h2 => by
    rw [rootNF, rootNF]
    by_cases e0 : L.length = 0
    · rw [if_pos e0, if_pos e0]
    · by_cases e1 : L.length = 1
      · rw [if_neg e0, if_neg e0, if_pos e1, if_pos e1]
      · have := half_take (L := L) (by omega)
        rw [if_neg e0, if_neg e0, if_neg e1, if_neg e1, rootNF_fuel n m N _ (by omega) (by omega), rootNF_fuel n m _ _ (by omega) (by omega)]
theorem rootN_none {L : List (List Int)} (N : List Nt) (h : L.length = 0) : rootN N L = addN N (nodeS [], nodeT []) := by unfold rootN; rw [h]; rfl
theorem rootN_one {L : List (List Int)} (N : List Nt) (h : L.length = 1) : rootN N L = N := by unfold rootN; rw [h, rootNF, if_neg (by omega), if_pos h]
theorem rootN_more {L : List (List Int)} (N : List Nt) (h : 2 ≤ L.length) : rootN N L = addN (rootN (rootN N (L.take (halfN L.length))) (L.drop (halfN L.length))) (nodeS [rootS (L.take (halfN L.length)), rootS (L.drop (halfN L.length))], nodeT [rootS (L.take (halfN L.length)), rootS (L.drop (halfN L.length))]) := by
  have ht := half_take h
  unfold rootN
  obtain ⟨n, hn⟩ : ∃ n, L.length = n + 1 := ⟨L.length - 1, by omega⟩
  rw [show rootNF L.length N L = rootNF (n + 1) N L by rw [hn], rootNF, if_neg (by omega), if_neg (by omega)]
  rw [rootNF_fuel n _ N _ (by omega) (Nat.le_refl _), rootNF_fuel n _ _ (L.drop (halfN L.length)) (by omega) (Nat.le_refl _)]
def callsR (n : Nat) : Int := if n = 0 then 1 else (n : Int) - 1
/-- two sums in a new row. -/
theorem build_two (f g : Nat → Value) (w : World) : (Instr.buildSlice 22 2 #[(0, .agg (rowV 32 f)), (1, .agg (rowV 32 g))]).run Tryd.prog w = .ok (.slice (some ⟨w.heap.size, 0, none⟩) 2 2) (w.alloc (.cells (rowV 64 (fun j => if j < 32 then f j else g (j - 32))) 29)) := by
  show (_ : Result Value) = _
  kernel_rfl
theorem two_sums (w : World) (p q : List Int) (hp : isSum p) (hq : isSum q) : sumsAt (w.alloc (.cells (rowV 64 (fun j => if j < 32 then arrV p j else arrV q (j - 32))) 29)) (.slice (some ⟨w.heap.size, 0, none⟩) 2 2) [p, q] := by
  refine ⟨fun x hx => ?_, _, 2, rfl, Nat.le_refl _, by unfold maxLen; omega, fun _ => ⟨w.heap.size, 0, rfl, by simp, fun i hi j hj => ?_⟩⟩
  · rcases List.mem_cons.1 hx with rfl | hx
    · exact hp
    · rw [List.mem_singleton.1 hx]; exact hq
  · have hr := rowIs_box w 29 64 (fun j => if j < 32 then arrV p j else arrV q (j - 32))
    have hi' : i = 0 ∨ i = 1 := by simp at hi; omega
    rcases hi' with rfl | rfl
    · rw [show 0 + 0 * 32 + j = j by omega, hr.cell (by omega), if_pos hj]; rfl
    · rw [show 0 + 1 * 32 + j = 32 + j by omega, hr.cell (by omega), if_neg (by omega), show 32 + j - 32 = j by omega]; rfl
theorem exec_bslice2' {P : Program} {o : Oper} {ev : Operand → Value} {w w' : World} {v : Value} (t : TypeId) (n i j : Nat) (x y : Operand) (a b : Value) (ho : o.op = .buildSlice t n #[(i, x), (j, y)]) (hx : ev x = a) (hy : ev y = b)
    (hr : (Instr.buildSlice t n #[(i, a), (j, b)]).run P w = .ok v w') : (execOp ev o).run P w = .ok (.value v) w' := by
  unfold execOp
  simp only [ho, List.map_toArray, List.map_cons, List.map_nil, hx, hy, Sem.run_bind, hr, Result.andThen_ok, Sem.run_pure]
theorem stow32T_run (w : World) (b : Nat) (q : List Int) {t : Nat} {f : Nat → Value} (hr : w.rowIs b t 32 f) : (storeVar 29 ⟨b, 0, none⟩ (.agg (rowV 32 (arrV q)))).run Tryd.prog w = .ok () (w.setCells b 0 (rowV 32 (arrV q)).toList) :=
  run_storeVar_mid (P := Tryd.prog) w b 0 29 (rowV 32 (arrV q)) (by rw [rowV_size]; exact there_of_row hr (by omega)) (by rw [hi32', rowV_size]) (by
    rw [Array.all_eq_true_iff_forall_mem]
    intro v hv
    obtain ⟨i, hi', rfl⟩ := Array.mem_iff_getElem.1 hv
    have hlt : i < 32 := by rw [rowV_size] at hi'; exact hi'
    have := rowV_get 32 (arrV q) i hlt
    rw [Array.getElem?_eq_getElem hi'] at this
    rw [Option.some.inj this]; rfl)
theorem stow32T_row (w : World) (b : Nat) (q : List Int) {t : Nat} {f : Nat → Value} (hr : w.rowIs b t 32 f) : (w.setCells b 0 (rowV 32 (arrV q)).toList).rowIs b t 32 (arrV q) ∧ (w.setCells b 0 (rowV 32 (arrV q)).toList).heap.size = w.heap.size ∧ But w.heap.size b w (w.setCells b 0 (rowV 32 (arrV q)).toList) :=
  ⟨(rowIs_splice hr).congr fun i hi => by rw [if_pos (by omega), Nat.sub_zero], size_setCells _ _ _ _, but_setCells _ _ (But.refl _ _ _)⟩
end Go.Proofs.YthpnenblmkdmcaaDoor

/- Clash. -/
namespace Go.Proofs.YthpnenblmkdmcaaDoor
set_option linter.unusedSimpArgs false
set_option linter.unusedVariables false
open Go.RowKit Go.Deep

/-- which notes clash: behind those of A. -/
def clashGo (A : List Nt) : List Nt → Option (ByteArray × ByteArray)
  | [] => none
  | x :: r => if (firstAt A x.1).isSome = true ∧ foundN A x.1 ≠ x then some ((foundN A x.1).2, x.2) else clashGo (addN A x) r
/-- the notes of the books from place i on. -/
def joinF (ns : Nat → List Nt) (i : Nat) : Nat → List Nt
  | 0 => []
  | k + 1 => ns i ++ joinF ns (i + 1) k
theorem joinF_step (ns : Nat → List Nt) (n i : Nat) (h : i < n) : joinF ns i (n - i) = ns i ++ joinF ns (i + 1) (n - (i + 1)) := by
  rw [show n - i = (n - (i + 1)) + 1 by omega]; rfl
/-- v is a slice of books, nil ones among them. -/
def isBooks (w : World) (v : Value) (n : Nat) (ns : Nat → List Nt) : Prop :=
  (v = .slice none 0 0 ∧ n = 0) ∨ ∃ (qb qo cap : Nat) (pv : Nat → Value), v = .slice (some ⟨qb, qo, none⟩) n cap ∧ qb < w.heap.size ∧ n ≤ maxLen ∧ ∀ i, i < n → w.cell? ⟨qb, qo + i, none⟩ = some (pv i) ∧
    ((pv i = .pointer none ∧ ns i = []) ∨ ∃ (k : Nat) (F : Nat → Prop) (c : Int), pv i = .pointer (some ⟨k, 0, none⟩) ∧ bookAt w F k (ns i) c)
theorem isBooks.open {w : World} {v : Value} {n : Nat} {ns : Nat → List Nt} (h : isBooks w v n ns) :
    ∃ a cap, v = .slice a n cap ∧ n ≤ maxLen ∧ ∀ i, i < n → ∃ qb qo pv, a = some ⟨qb, qo, none⟩ ∧ qb < w.heap.size ∧ w.cell? ⟨qb, qo + i, none⟩ = some pv ∧
    ((pv = .pointer none ∧ ns i = []) ∨ ∃ (k : Nat) (F : Nat → Prop) (c : Int), pv = .pointer (some ⟨k, 0, none⟩) ∧ bookAt w F k (ns i) c) := by
  rcases h with ⟨rfl, rfl⟩ | ⟨qb, qo, cap, pv, rfl, h2, h3, h4⟩
  · exact ⟨_, _, rfl, Nat.zero_le _, fun k hk => by omega⟩
  · exact ⟨_, _, rfl, h3, fun k hk => ⟨qb, qo, pv k, rfl, h2, (h4 k hk).1, (h4 k hk).2⟩⟩
theorem run_neq_notes (w : World) {x y : Nt} (hx : isSum x.1) (hy : isSum y.1) : (binOp .neq 70 (.agg (rowV 33 (noteV x))) (.agg (rowV 33 (noteV y)))).run Tryd.prog w = .ok (.bool (!decide (x = y))) w := by
  have h := run_eq_notes w hx hy
  unfold noteA at h
  have hb : binOp .neq 70 (.agg (rowV 33 (noteV x))) (.agg (rowV 33 (noteV y))) = (do let b ← Op.equalIn 10000 70 (.agg (rowV 33 (noteV x))) (.agg (rowV 33 (noteV y))); pure (.bool (!b))) := rfl
  rw [hb, Sem.run_bind, h]
  rfl
/-- what Clash answers. -/
def clashAnsS (w' : World) (B : Nat) (va vb : Value) (fb : Bool) (r : Option (ByteArray × ByteArray)) : Prop := match r with
  | none => va = .slice none 0 0 ∧ vb = .slice none 0 0 ∧ fb = false
  | some (s, t) => softB w' va (sBytes s) ∧ softB w' vb (sBytes t) ∧ (∀ j, va.ownBlock = some j → B ≤ j) ∧ (∀ j, vb.ownBlock = some j → B ≤ j) ∧ fb = true
def clashAns (w' : World) (B : Nat) (va vb : Value) (fb : Bool) (r : Option (ByteArray × ByteArray)) : Prop := match r with
  | none => va = .slice none 0 0 ∧ vb = .slice none 0 0 ∧ fb = false
  | some (s, t) => isBytes w' va (sBytes s) ∧ isBytes w' vb (sBytes t) ∧ (∀ j, va.ownBlock = some j → B ≤ j) ∧ (∀ j, vb.ownBlock = some j → B ≤ j) ∧ fb = true
theorem addN_mem {N : List Nt} {x y : Nt} (h : y ∈ addN N x) : y ∈ N ∨ y = x := by
  by_cases e : x ∈ N
  · rw [addN_in e] at h; exact Or.inl h
  · rw [addN_out e] at h; simpa using h
theorem foundN_mem {N : List Nt} {q : List Int} {i : Nat} (h : firstAt N q = some i) : foundN N q ∈ N := by
  have := firstAt_lt h
  unfold foundN
  rw [h]
  simp only
  rw [List.getD_eq_getElem?_getD, List.getElem?_eq_getElem this]; exact List.getElem_mem _
theorem exec_convert {P : Program} {o : Oper} {ev : Operand → Value} {w w' : World} {v r : Value} (s t : TypeId) (x : Operand) (ho : o.op = .convert s t x) (hx : ev x = v) (hr : (convert s t v).run P w = .ok r w') : (execOp ev o).run P w = .ok (.value r) w' := by
  unfold execOp
  simp only [ho, hx, Sem.run_bind, hr, Result.andThen_ok, Sem.run_pure]
/-- the notes ahead. -/
def aheadAt (w wr : World) (L : List Nt) (A R : List Nt) : Prop :=
  notesAt wr (fun j => w.heap.size ≤ j ∧ j < wr.heap.size) w.heap.size A 0 ∧ Below w.heap.size w wr ∧ clashGo [] L = clashGo A R ∧ A.length + R.length ≤ L.length ∧ ∀ x ∈ A, x.2.size ≤ 1000000000
theorem isBytes.below' {w w' : World} {v : Value} {l : List Int} (h : isBytes w v l) (hb : Below w.heap.size w w') : isBytes w' v l := h.below hb (Nat.le_refl _)

set_option maxHeartbeats 8000000 in
set_option maxRecDepth 100000 in
theorem clash_soft (n : Nat) (v : Value) (ns : Nat → List Nt) (w : World) (h : isBooks w v n ns) (hN : (joinF ns 0 n).length < 1000000) (hts : ∀ i, i < n → ∀ x ∈ ns i, x.2.size ≤ 1000000000) :
    Calls Tryd.prog 19 #[v] w fun e w' => ∃ va vb fb, e = .returned (.tuple #[va, vb, .bool fb]) ∧ clashAnsS w' w.heap.size va vb fb (clashGo [] (joinF ns 0 n)) ∧ Below w.heap.size w w' := by
  obtain ⟨a, cap, rfl, hm, hcell⟩ := h.open
  unfold maxLen at hm
  have q0 : (n : Int) ≤ 9223372036854775807 := by omega
  obtain ⟨L, hL⟩ : ∃ L, L = joinF ns 0 n := ⟨_, rfl⟩
  rw [← hL] at hN ⊢
  have hz := zero_note
  have A0 : Hid (aheadAt w (w.alloc (.cells #[.slice none 0 0, .map none, .int .i64 0] 65)) L [] (joinF ns 0 (n - 0))) := (show aheadAt w (w.alloc (.cells #[.slice none 0 0, .map none, .int .i64 0] 65)) L [] (joinF ns 0 (n - 0)) from
    ⟨⟨.slice none 0 0, .map none, rowIs_new w _ _ 3 _ rfl (fun i hi => by
        have : i = 0 ∨ i = 1 ∨ i = 2 := by omega
        rcases this with rfl | rfl | rfl <;> rfl), ⟨Nat.le_refl _, by simp⟩, listAt_nil _ _, Or.inl ⟨rfl, rfl⟩, fun x hx => by simp at hx, fun k hk => hk.2⟩,
      (Below.refl _ _).alloc (Nat.le_refl _) _, by rw [hL]; rfl, by rw [hL]; simp, fun x hx => by simp at hx⟩)
  clear h
  go_enter Tryd.func19, Tryd.ntmps19
  go_wp2
  go_loopw [14] (fun i wr => ∃ (k : Nat) (A : List Nt), k ≤ n ∧ i = .int .i64 k ∧ aheadAt w wr L A (joinF ns k (n - k))) (fun i _ => n - (intOf i).toNat)
  case atStart => exact ⟨0, [], by omega, rfl, A0.out⟩
  case round =>
    obtain ⟨k, A, hk, rfl, hA⟩ := hrel
    clear A0
    have HA : Hid _ := hA
    by_cases hlt : k < n
    · obtain ⟨qb, qo, pv, rfl, hqb, hpv, hcase⟩ := hcell k hlt
      have p0 : (0 : Int) ≤ (k : Int) := by omega
      have p1 : (k : Int) < (n : Int) := by omega
      have hc0 : wr.cell? ⟨qb, qo + k, none⟩ = some pv := (hA.2.1.cell (p := ⟨qb, qo + k, none⟩) hqb).trans hpv
      have hj := joinF_step ns n k hlt
      have HJ : Hid _ := hj
      clear hA hj
      rcases hcase with ⟨rfl, hn0⟩ | ⟨kb, F, c, rfl, hbk⟩
      · go_wp2_with fail
        refine (empty_none wr).mono ?_
        rintro e w' ⟨rfl, hw⟩
        obtain rfl := hw.symm
        clear hw
        have hj2 := HJ.out
        rw [hn0, List.nil_append] at hj2
        have HA2 : Hid (aheadAt w wr L A (joinF ns (k + 1) (n - (k + 1)))) := (show aheadAt w wr L A (joinF ns (k + 1) (n - (k + 1))) from by
          rw [← hj2]; exact HA.out)
        clear hj2
        go_wp2
        go_light
        exact ⟨⟨k + 1, A, by omega, by go_num, HA2.out⟩, by simp [intOf]; omega⟩
      · have hbk' := hbk.below HA.out.2.1 (Nat.le_refl _)
        have hsum : ∀ x ∈ ns k, isSum x.1 := by
          obtain ⟨_, _, _, _, ⟨_, h, _⟩ | ⟨_, _, _, _, _, _, _, _, _, h, _⟩⟩ := hbk
          · rw [h]; intro x hx; simp at hx
          · exact h
        obtain ⟨hFk, hltF, pv, hpvk, hcase⟩ := hbk'
        have hkb := hltF kb hFk
        rcases hcase with ⟨rfl, hn0, _⟩ | ⟨nb, rfl, hnk, hnn⟩
        · go_wp2_with fail
          refine (empty_zero kb wr hpvk).mono ?_
          rintro e w' ⟨rfl, hw⟩
          obtain rfl := hw.symm
          clear hw
          have hj2 := HJ.out
          rw [hn0, List.nil_append] at hj2
          have HA2 : Hid (aheadAt w wr L A (joinF ns (k + 1) (n - (k + 1)))) := (show aheadAt w wr L A (joinF ns (k + 1) (n - (k + 1))) from by
            rw [← hj2]; exact HA.out)
          clear hj2
          go_wp2
          go_light
          exact ⟨⟨k + 1, A, by omega, by go_num, HA2.out⟩, by simp [intOf]; omega⟩
        · obtain ⟨lv, mv, h1, h2, h3, h4, h5, h6⟩ := hnn
          have hnbw := h6 nb h2
          obtain ⟨la, lc, rfl, hlc, hlm, hcl⟩ := h3.shape
          have c0 : wr.cell? ⟨kb, 0, none⟩ = some (.pointer (some ⟨nb, 0, none⟩)) := hpvk.cell (i := 0) (by omega)
          have c1 : wr.cell? ⟨nb, 0, none⟩ = some (.slice la (ns k).length lc) := h1.cell (i := 0) (by omega)
          -- the list's cells are old
          have hold : ∀ g, g < wr.heap.size → F g → g < w.heap.size := fun g _ hg => by
            obtain ⟨_, h, _⟩ := hbk
            exact h g hg
          have hcl' : ∀ i x, (ns k)[i]? = some x → ∃ g, la = some ⟨g, 0, none⟩ ∧ g < w.heap.size ∧ ∀ j, j < 33 → w.cell? ⟨g, i * 33 + j, none⟩ = some (noteV x j) := fun i x hx => by
            obtain ⟨g, a1, a2, a3, a4⟩ := hcl i x hx
            have hg := hold g a3 a2.1
            exact ⟨g, a1, hg, fun j hj => by rw [← HA.out.2.1.cell (p := ⟨g, i * 33 + j, none⟩) hg]; exact a4 j hj⟩
          have qn : ((ns k).length : Int) ≤ 9223372036854775807 := by unfold maxLen at hlm; omega
          have HC : Hid _ := hcl'
          have HA2 : Hid (aheadAt w wr L A ((ns k).drop 0 ++ joinF ns (k + 1) (n - (k + 1)))) := (show aheadAt w wr L A ((ns k).drop 0 ++ joinF ns (k + 1) (n - (k + 1))) from by
            have hj2 := HJ.out
            rw [List.drop_zero, ← hj2]; exact HA.out)
          clear hcl hcl' h1 h3 h4 hold h5 h6
          go_wp2_with fail
          refine (empty_some kb nb wr hpvk).mono ?_
          rintro e w' ⟨rfl, hw⟩
          obtain rfl := hw.symm
          clear hw
          go_wp2
          clear HA HJ
          go_loopw [28] (fun i wq => ∃ (j : Nat) (B : List Nt), j ≤ (ns k).length ∧ i = .int .i64 j ∧ aheadAt w wq L B ((ns k).drop j ++ joinF ns (k + 1) (n - (k + 1)))) (fun i _ => (ns k).length - (intOf i).toNat)
          case atStart => exact ⟨0, A, by omega, rfl, HA2.out⟩
          case round =>
            obtain ⟨j, B, hj, rfl, hB⟩ := hrel
            clear HA2 c0 c1
            have HB : Hid _ := hB
            by_cases hlt2 : j < (ns k).length
            · obtain ⟨g, rfl, hgw, hcl⟩ := HC.out j _ (List.getElem?_eq_getElem hlt2)
              have p2 : (0 : Int) ≤ (j : Int) := by omega
              have p3 : (j : Int) < ((ns k).length : Int) := by omega
              obtain ⟨X, hX⟩ : ∃ X, X = (ns k)[j] := ⟨_, rfl⟩
              have hXs : isSum X.1 := hsum X (by rw [hX]; exact List.getElem_mem _)
              have hXt : X.2.size ≤ 1000000000 := hts k hlt X (by rw [hX]; exact List.getElem_mem _)
              have hdrop : (ns k).drop j = X :: (ns k).drop (j + 1) := by rw [hX]; exact List.drop_eq_getElem_cons hlt2
              rw [← hX] at hcl
              have HD : Hid _ := hdrop
              clear hX hdrop
              have hwq := hB.2.1
              have hwqs := hwq.size
              have ldc : ∀ i, i < 33 → wr.cell? ⟨g, j * 33 + i, none⟩ = some (noteV X i) := fun i hi => by
                rw [hwq.cell (p := ⟨g, j * 33 + i, none⟩) hgw]; exact hcl i hi
              have ra := rowIs_box wr 70 33 (noteV zeroN)
              clear hcl hB
              go_upto_region 9 with (first | (refine wpList_load_seg rfl 70 (.tmp 30) rfl g (j * 33) 33 (noteV X) rfl _ Tryd.underlying70 rfl note33 ldc ?_) | (refine wpList_store_row rfl 70 (.tmp 9) (.tmp 31) rfl rfl wr.heap.size 0 33 (noteV X) rfl rfl note33 (fun i _ => noteV_one _ i) _ _ _ ra (by omega) ?_; intro w5 r5 hz5 hb5))
              have hs5 : w5.heap.size = wr.heap.size + 1 := by rw [hz5]; simp
              have hb5' : Below wr.heap.size wr w5 := ((Below.refl wr.heap.size wr).alloc (Nat.le_refl _) _).trans ((hb5.mono (by simp)).below (Nat.le_refl _))
              have r5' : w5.rowIs wr.heap.size 70 33 (noteV X) := r5.congr fun i hi => by rw [if_pos (by omega), Nat.sub_zero]
              have ld5 : ∀ i, i < 32 → w5.cell? ⟨wr.heap.size, 0 + i, none⟩ = some (arrV X.1 i) := fun i hi => by
                rw [Nat.zero_add, r5'.cell (show i < 33 by omega), noteV, if_pos hi]
              have N5 : notesAt w5 (fun j => w.heap.size ≤ j ∧ j < wr.heap.size) w.heap.size B 0 := HB.out.1.below hb5' (Nat.le_refl _)
              have FA := find_any _ w.heap.size B 0 X.1 w5 N5 hXs
              obtain ⟨fx, hfx⟩ : ∃ fx, fx = foundN B X.1 := ⟨_, rfl⟩
              have hfs : isSum fx.1 := by rw [hfx]; exact foundN_sum N5.choose_spec.choose_spec.2.2.2.2.1 X.1
              rw [← hfx] at FA
              have HFX : Hid (fx = foundN B X.1) := (show fx = foundN B X.1 from hfx)
              clear hfx
              unfold noteA sumV at FA
              have NB5 : Hid (notesAt w5 (fun j => w.heap.size ≤ j ∧ j < wr.heap.size) w.heap.size B 0) := (show notesAt w5 (fun j => w.heap.size ≤ j ∧ j < wr.heap.size) w.heap.size B 0 from N5)
              have HB5 : Hid _ := hb5'
              have R5 : Hid _ := r5'
              clear r5 hz5 hb5 hb5' ra ldc N5 r5' HC
              go_wp2_with (first | (refine wpList_load_seg rfl 29 (.tmp 33) rfl wr.heap.size 0 32 (arrV X.1) rfl _ Tryd.underlying29 rfl hi32' ld5 ?_))
              refine FA.mono ?_
              rintro e w6 ⟨rfl, hb6⟩
              have hs6 := hb6.size
              clear FA ld5
              have r6 : w6.rowIs wr.heap.size 70 33 (noteV X) := hb6.row R5.out (by omega)
              have N6 := notesAt.below NB5.out hb6 (Nat.le_refl _)
              have hb06 : Below wr.heap.size wr w6 := HB5.out.trans (hb6.mono (by omega))
              have ra6 := rowIs_box w6 70 33 (noteV zeroN)
              have NB6 : Hid (notesAt w6 (fun j => w.heap.size ≤ j ∧ j < wr.heap.size) w.heap.size B 0) := (show notesAt w6 (fun j => w.heap.size ≤ j ∧ j < wr.heap.size) w.heap.size B 0 from N6)
              have HB6 : Hid _ := hb06
              have R6 : Hid _ := r6
              have S6 : Hid (wr.heap.size + 1 ≤ w6.heap.size) := (show wr.heap.size + 1 ≤ w6.heap.size by omega)
              clear hb6 r6 N6 hb06 NB5 HB5 R5 hs5 hs6
              go_upto_region 10 with (first | (refine wpList_store_row rfl 70 (.tmp 10) (.tmp 36) rfl rfl w6.heap.size 0 33 (noteV fx) rfl rfl note33 (fun i _ => noteV_one _ i) _ _ _ ra6 (by omega) ?_; intro w7 r7 hz7 hb7))
              have s6 := S6.out
              have hs7 : w7.heap.size = w6.heap.size + 1 := by rw [hz7]; simp
              have hb67 : Below w6.heap.size w6 w7 := ((Below.refl w6.heap.size w6).alloc (Nat.le_refl _) _).trans ((hb7.mono (by simp)).below (Nat.le_refl _))
              have r7' : w7.rowIs w6.heap.size 70 33 (noteV fx) := r7.congr fun i hi => by rw [if_pos (by omega), Nat.sub_zero]
              have r7X : w7.rowIs wr.heap.size 70 33 (noteV X) := hb67.row R6.out (by omega)
              have N7 := notesAt.below NB6.out hb67 (Nat.le_refl _)
              have hb07 : Below wr.heap.size wr w7 := HB6.out.trans (hb67.mono (by omega))
              have ldF : ∀ i, i < 33 → w7.cell? ⟨w6.heap.size, 0 + i, none⟩ = some (noteV fx i) := fun i hi => by rw [Nat.zero_add]; exact r7'.cell hi
              have ldX : ∀ i, i < 33 → w7.cell? ⟨wr.heap.size, 0 + i, none⟩ = some (noteV X i) := fun i hi => by rw [Nat.zero_add]; exact r7X.cell hi
              have cF : w7.cell? ⟨w6.heap.size, 32, none⟩ = some (.string fx.2) := by
                have := r7'.cell (i := 32) (by omega)
                rw [noteV, if_neg (by omega)] at this; exact this
              have cX : w7.cell? ⟨wr.heap.size, 32, none⟩ = some (.string X.2) := by
                have := r7X.cell (i := 32) (by omega)
                rw [noteV, if_neg (by omega)] at this; exact this
              have heq : ∀ wz : World, (Op.equalIn 10000 70 (.agg (rowV 33 (noteV fx))) (.agg (rowV 33 (noteV X)))).run Tryd.prog wz = .ok (decide (fx = X)) wz := fun wz => run_eq_notes wz hfs hXs
              have NB7 : Hid (notesAt w7 (fun j => w.heap.size ≤ j ∧ j < wr.heap.size) w.heap.size B 0) := (show notesAt w7 (fun j => w.heap.size ≤ j ∧ j < wr.heap.size) w.heap.size B 0 from N7)
              have HB7 : Hid _ := hb07
              have R7 : Hid _ := r7'
              have RX : Hid _ := r7X
              have HLF : Hid _ := ldF
              have HLX : Hid _ := ldX
              have S7 : Hid (wr.heap.size + 2 ≤ w7.heap.size) := (show wr.heap.size + 2 ≤ w7.heap.size by omega)
              clear r7 hz7 hb7 hs7 hb67 r7' r7X N7 hb07 NB6 HB6 R6 ra6 s6 S6 ldF ldX
              -- what comes behind, where nothing clashes
              have ADD := add_note _ w.heap.size B 0 X w7 NB7.out hXs (by have := HB.out.2.2.2.1; omega)
              unfold noteA at ADD
              have hrest : ¬ ((firstAt B X.1).isSome = true ∧ foundN B X.1 ≠ X) → ∀ w8 : World, notesAt w8 (Gr (fun j => w.heap.size ≤ j ∧ j < wr.heap.size) w7 w8) w.heap.size (addN B X) 0 → Fr (fun j => w.heap.size ≤ j ∧ j < wr.heap.size) w7 w8 → aheadAt w w8 L (addN B X) ((ns k).drop (j + 1) ++ joinF ns (k + 1) (n - (k + 1))) := fun hno w8 hn8 hf8 => by
                obtain ⟨_, hbw, hcl, hln, hsz⟩ := HB.out
                rw [HD.out, List.cons_append] at hcl hln
                have hs8 := hf8.size
                have hs7 := HB7.out.size
                have hlen := addN_len B X
                have s7 := S7.out
                refine ⟨hn8.grow (fun i hi => ?_) (fun i hi => hi.2), ?_, ?_, ?_, fun x hx => ?_⟩
                · rcases hi with h | h
                  · exact ⟨h.1, by omega⟩
                  · exact ⟨by omega, h.2⟩
                · exact (hbw.trans (HB7.out.mono (by omega))).trans (hf8.below (fun i hi => hi.1) (by omega))
                · rw [hcl, clashGo, if_neg hno]
                · simp only [List.length_cons] at hln; omega
                · rcases addN_mem hx with h | h
                  · exact hsz x h
                  · rw [h]; exact hXt
              have HR : Hid _ := hrest
              have HAD : Hid _ := ADD
              clear hrest ADD
              cases hf : firstAt B X.1 with
              | none =>
                have hno := HR.out (fun h => by rw [hf] at h; simp at h)
                have HN : Hid _ := hno
                clear hno HR
                simp only [Option.isSome_none]
                go_upto_region 12 with fail
                clear heq HLF R7 RX HB7 cF cX
                go_wp2_with (first | (refine wpList_load_seg rfl 70 (.tmp 9) rfl wr.heap.size 0 33 (noteV X) rfl _ Tryd.underlying70 rfl note33 HLX.out ?_))
                refine Calls.mono HAD.out ?_
                rintro e w8 ⟨rfl, hn8, hf8⟩
                have HN8 : Hid (aheadAt w w8 L (addN B X) ((ns k).drop (j + 1) ++ joinF ns (k + 1) (n - (k + 1)))) := (show aheadAt w w8 L (addN B X) ((ns k).drop (j + 1) ++ joinF ns (k + 1) (n - (k + 1))) from HN.out _ hn8 hf8)
                clear hn8 hf8 HAD HN NB7 HLX
                go_wp2
                go_light
                exact ⟨⟨j + 1, addN B X, by omega, by go_num, HN8.out⟩, by simp [intOf]; omega⟩
              | some i0 =>
                simp only [Option.isSome_some]
                by_cases hne : fx = X
                · have hno := HR.out (fun h => h.2 (HFX.out ▸ hne))
                  have HN : Hid _ := hno
                  clear hno HR
                  have hd : decide (fx = X) = true := decide_eq_true hne
                  rw [hd] at heq
                  clear hne hd
                  go_upto_region 12 with (first | (refine wpList_load_w 70 (.tmp 10) rfl rfl w6.heap.size 0 33 (noteV fx) rfl _ Tryd.underlying70 rfl note33 HLF.out ?_) | (refine wpList_load_w 70 (.tmp 9) rfl rfl wr.heap.size 0 33 (noteV X) rfl _ Tryd.underlying70 rfl note33 HLX.out ?_))
                  clear heq HLF R7 RX HB7 cF cX
                  go_wp2_with (first | (refine wpList_load_seg rfl 70 (.tmp 9) rfl wr.heap.size 0 33 (noteV X) rfl _ Tryd.underlying70 rfl note33 HLX.out ?_))
                  refine Calls.mono HAD.out ?_
                  rintro e w8 ⟨rfl, hn8, hf8⟩
                  have HN8 : Hid (aheadAt w w8 L (addN B X) ((ns k).drop (j + 1) ++ joinF ns (k + 1) (n - (k + 1)))) := (show aheadAt w w8 L (addN B X) ((ns k).drop (j + 1) ++ joinF ns (k + 1) (n - (k + 1))) from HN.out _ hn8 hf8)
                  clear hn8 hf8 HAD HN NB7 HLX
                  go_wp2
                  go_light
                  exact ⟨⟨j + 1, addN B X, by omega, by go_num, HN8.out⟩, by simp [intOf]; omega⟩
                · have hd : decide (fx = X) = false := decide_eq_false hne
                  rw [hd] at heq
                  have hyes : clashGo [] L = some (fx.2, X.2) := by
                    obtain ⟨_, hbw, hcl, hln, hsz⟩ := HB.out
                    rw [hcl, HD.out, List.cons_append, clashGo, ← HFX.out, if_pos ⟨by rw [hf]; rfl, hne⟩]
                  have HY : Hid _ := hyes
                  have hft : fx.2.size ≤ 1000000000 := by
                    rw [HFX.out]; exact HB.out.2.2.2.2 _ (foundN_mem hf)
                  clear hyes HR HAD HB HD
                  go_upto_region 11 with (first | (refine wpList_load_w 70 (.tmp 10) rfl rfl w6.heap.size 0 33 (noteV fx) rfl _ Tryd.underlying70 rfl note33 HLF.out ?_) | (refine wpList_load_w 70 (.tmp 9) rfl rfl wr.heap.size 0 33 (noteV X) rfl _ Tryd.underlying70 rfl note33 HLX.out ?_))
                  have KF : Hid (w7.cell? ⟨w6.heap.size, 32, none⟩ = some (.string fx.2)) := (show w7.cell? ⟨w6.heap.size, 32, none⟩ = some (.string fx.2) from cF)
                  have KX : Hid (w7.cell? ⟨wr.heap.size, 32, none⟩ = some (.string X.2)) := (show w7.cell? ⟨wr.heap.size, 32, none⟩ = some (.string X.2) from cX)
                  have KS : Hid (w6.heap.size < w7.heap.size) := (show w6.heap.size < w7.heap.size from World.rowIs.lt R7.out)
                  clear cF cX
                  refine wp_region_noPanic ?_
                  refine wp_region_held_drew (S := fun w' => Below w7.heap.size w7 w') (by kernel_rfl) ((Below.refl _ _).drew) (fun hHeld => ?_)
                  refine take_op (i := 0) (v := ?vq0) rfl (by kernel_rfl) (by kernel_rfl) (by kernel_rfl) (fun _ _ _ h => h) rfl hHeld ?yq0 ?rq0
                  case yq0 => (intro wz hz; go_simp; first | done | with_reducible rfl)
                  try simp only [Act.put, List.setIfInBounds_toArray, List.set_cons_zero, List.set_cons_succ]
                  refine take_op (i := 1) (v := ?vq1) rfl (by kernel_rfl) (by kernel_rfl) (by kernel_rfl) (fun _ _ _ h => h) rfl hHeld ?yq1 ?rq1
                  case yq1 => (intro wz hz; have hcz : wz.cell? ⟨w6.heap.size, 32, none⟩ = some (.string fx.2) := (hz.cell (p := ⟨w6.heap.size, 32, none⟩) (show w6.heap.size < w7.heap.size by have := KS.out; omega)).trans KF.out; go_simp; first | done | with_reducible rfl)
                  try simp only [Act.put, List.setIfInBounds_toArray, List.set_cons_zero, List.set_cons_succ]
                  refine take_op (i := 3) (v := ?vq3) rfl (by kernel_rfl) (by kernel_rfl) (by kernel_rfl) (fun _ _ _ h => h) rfl hHeld ?yq3 ?rq3
                  case yq3 => (intro wz hz; go_simp; first | done | with_reducible rfl)
                  try simp only [Act.put, List.setIfInBounds_toArray, List.set_cons_zero, List.set_cons_succ]
                  refine take_op (i := 4) (v := ?vq4) rfl (by kernel_rfl) (by kernel_rfl) (by kernel_rfl) (fun _ _ _ h => h) rfl hHeld ?yq4 ?rq4
                  case yq4 => (intro wz hz; have hcz : wz.cell? ⟨wr.heap.size, 32, none⟩ = some (.string X.2) := (hz.cell (p := ⟨wr.heap.size, 32, none⟩) (show wr.heap.size < w7.heap.size by have := S7.out; omega)).trans KX.out; go_simp; first | done | with_reducible rfl)
                  try simp only [Act.put, List.setIfInBounds_toArray, List.set_cons_zero, List.set_cons_succ]
                  refine take_pair (i := 2) (j := 5) rfl rfl (by kernel_rfl) rfl rfl (fun K hK => ?_) (fun K hK => ?_)
                  · obtain ⟨va, wa, hra, hia, hoa, hba, hsa, hfa⟩ := str_bytes w7.drew fx.2 (by omega)
                    have hsa' : wa.heap.size = w7.heap.size + 1 := hsa
                    have hoa' : ∀ j, va.ownBlock = some j → j = w7.heap.size := hoa
                    obtain ⟨vb, wb, hrb, hib, hob, hbb, hsb, hfb⟩ := str_bytes wa X.2 (by omega)
                    refine wp_convert_run 9 40 (.tmp 45) rfl rfl hra ?_
                    refine hK.out _ _ (hHeld.trans hba) (fun hHeld => ?_)
                    clear hK K
                    try simp only [Act.put, List.setIfInBounds_toArray, List.set_cons_zero, List.set_cons_succ]
                    refine take_op (i := 6) (v := ?vqa6) rfl (by kernel_rfl) (by kernel_rfl) (by kernel_rfl) (fun _ _ _ h => h) rfl hHeld ?yqa6 ?rqa6
                    case yqa6 => (intro wz hz; go_simp; first | done | with_reducible rfl)
                    try simp only [Act.put, List.setIfInBounds_toArray, List.set_cons_zero, List.set_cons_succ]
                    refine take_run (i := 5) rfl (by kernel_rfl) rfl (exec_convert 9 40 (.tmp 48) rfl rfl hrb) (hHeld.trans (hbb.mono (by omega))) ?_
                    try simp only [Act.put, List.setIfInBounds_toArray, List.set_cons_zero, List.set_cons_succ]
                    have hHeld2 : Below w7.heap.size w7 wb := hHeld.trans (hbb.mono (by omega))
                    clear hHeld
                    have hHeld := hHeld2
                    clear hHeld2
                    refine take_op (i := 7) (v := ?vqa7) rfl (by kernel_rfl) (by kernel_rfl) (by kernel_rfl) (fun _ _ _ h => h) rfl hHeld ?yqa7 ?rqa7
                    case yqa7 => (intro wz hz; go_simp; first | done | with_reducible rfl)
                    try simp only [Act.put, List.setIfInBounds_toArray, List.set_cons_zero, List.set_cons_succ]
                    refine take_op (i := 8) (v := ?vqa8) rfl (by kernel_rfl) (by kernel_rfl) (by kernel_rfl) (fun _ _ _ h => h) rfl hHeld ?yqa8 ?rqa8
                    case yqa8 => (intro wz hz; go_simp; first | done | with_reducible rfl)
                    try simp only [Act.put, List.setIfInBounds_toArray, List.set_cons_zero, List.set_cons_succ]
                    clear hsa
                    have hsa := hsa'
                    clear hoa
                    have hoa := hoa'
                    clear hsa' hoa'
                    have s7 := S7.out
                    have IA : Hid (softB wb va (sBytes fx.2)) := (show softB wb va (sBytes fx.2) from softB.below ⟨hia, hfa⟩ hbb (Nat.le_refl _))
                    have IB : Hid (softB wb vb (sBytes X.2)) := (show softB wb vb (sBytes X.2) from ⟨hib, hfb⟩)
                    have OA : Hid (∀ j, va.ownBlock = some j → w.heap.size ≤ j) := (show ∀ j, va.ownBlock = some j → w.heap.size ≤ j from fun j hj => by have := hoa j hj; omega)
                    have OB : Hid (∀ j, vb.ownBlock = some j → w.heap.size ≤ j) := (show ∀ j, vb.ownBlock = some j → w.heap.size ≤ j from fun j hj => by have := hob j hj; omega)
                    clear hia hib hoa hob hba hbb hsa hsb hra hrb s7 hfa hfb
                    refine wpAnyH_done (by kernel_rfl) ?_ _
                    refine NoPanic.normal ?_
                    have HBF : Hid _ := hHeld
                    clear hHeld
                    go_wp2
                    exact bodyPost_ret (results_tmp3 rfl _ _ _) rfl ⟨_, _, _, rfl, by rw [HY.out]; exact ⟨IA.out, IB.out, OA.out, OB.out, rfl⟩, (hwq.trans (HB7.out.mono (by omega))).trans (HBF.out.mono (by have := HB7.out.size; omega))⟩
                  · obtain ⟨vb, wb, hrb, hib, hob, hbb, hsb, hfb⟩ := str_bytes w7.drew X.2 (by omega)
                    have hsb' : wb.heap.size = w7.heap.size + 1 := hsb
                    have hob' : ∀ j, vb.ownBlock = some j → j = w7.heap.size := hob
                    obtain ⟨va, wa, hra, hia, hoa, hba, hsa, hfa⟩ := str_bytes wb fx.2 (by omega)
                    refine wp_convert_run 9 40 (.tmp 48) rfl rfl hrb ?_
                    refine hK.out _ _ (hHeld.trans hbb) (fun hHeld => ?_)
                    clear hK K
                    try simp only [Act.put, List.setIfInBounds_toArray, List.set_cons_zero, List.set_cons_succ]
                    refine take_run (i := 2) rfl (by kernel_rfl) rfl (exec_convert 9 40 (.tmp 45) rfl rfl hra) (hHeld.trans (hba.mono (by omega))) ?_
                    try simp only [Act.put, List.setIfInBounds_toArray, List.set_cons_zero, List.set_cons_succ]
                    have hHeld2 : Below w7.heap.size w7 wa := hHeld.trans (hba.mono (by omega))
                    clear hHeld
                    have hHeld := hHeld2
                    clear hHeld2
                    refine take_op (i := 6) (v := ?vqb6) rfl (by kernel_rfl) (by kernel_rfl) (by kernel_rfl) (fun _ _ _ h => h) rfl hHeld ?yqb6 ?rqb6
                    case yqb6 => (intro wz hz; go_simp; first | done | with_reducible rfl)
                    try simp only [Act.put, List.setIfInBounds_toArray, List.set_cons_zero, List.set_cons_succ]
                    refine take_op (i := 7) (v := ?vqb7) rfl (by kernel_rfl) (by kernel_rfl) (by kernel_rfl) (fun _ _ _ h => h) rfl hHeld ?yqb7 ?rqb7
                    case yqb7 => (intro wz hz; go_simp; first | done | with_reducible rfl)
                    try simp only [Act.put, List.setIfInBounds_toArray, List.set_cons_zero, List.set_cons_succ]
                    refine take_op (i := 8) (v := ?vqb8) rfl (by kernel_rfl) (by kernel_rfl) (by kernel_rfl) (fun _ _ _ h => h) rfl hHeld ?yqb8 ?rqb8
                    case yqb8 => (intro wz hz; go_simp; first | done | with_reducible rfl)
                    try simp only [Act.put, List.setIfInBounds_toArray, List.set_cons_zero, List.set_cons_succ]
                    clear hsb
                    have hsb := hsb'
                    clear hob
                    have hob := hob'
                    clear hsb' hob'
                    have s7 := S7.out
                    have IA : Hid (softB wa va (sBytes fx.2)) := (show softB wa va (sBytes fx.2) from ⟨hia, hfa⟩)
                    have IB : Hid (softB wa vb (sBytes X.2)) := (show softB wa vb (sBytes X.2) from softB.below ⟨hib, hfb⟩ hba (Nat.le_refl _))
                    have OA : Hid (∀ j, va.ownBlock = some j → w.heap.size ≤ j) := (show ∀ j, va.ownBlock = some j → w.heap.size ≤ j from fun j hj => by have := hoa j hj; omega)
                    have OB : Hid (∀ j, vb.ownBlock = some j → w.heap.size ≤ j) := (show ∀ j, vb.ownBlock = some j → w.heap.size ≤ j from fun j hj => by have := hob j hj; omega)
                    clear hia hib hoa hob hba hbb hsa hsb hra hrb s7 hfa hfb
                    refine wpAnyH_done (by kernel_rfl) ?_ _
                    refine NoPanic.normal ?_
                    have HBF : Hid _ := hHeld
                    clear hHeld
                    go_wp2
                    exact bodyPost_ret (results_tmp3 rfl _ _ _) rfl ⟨_, _, _, rfl, by rw [HY.out]; exact ⟨IA.out, IB.out, OA.out, OB.out, rfl⟩, (hwq.trans (HB7.out.mono (by omega))).trans (HBF.out.mono (by have := HB7.out.size; omega))⟩
            · obtain rfl : j = (ns k).length := by omega
              have HB2 : Hid (aheadAt w wr L B (joinF ns (k + 1) (n - (k + 1)))) := (show aheadAt w wr L B (joinF ns (k + 1) (n - (k + 1))) from by
                have := HB.out
                rw [List.drop_length, List.nil_append] at this; exact this)
              clear hB HB
              go_wp2
              go_light
              exact ⟨⟨k + 1, B, by omega, by go_num, HB2.out⟩, by simp [intOf]; omega⟩
    · obtain rfl : k = n := by omega
      have hnone : clashGo [] L = none := by
        have := HA.out.2.2.1
        rw [Nat.sub_self] at this; exact this
      have HBL : Hid _ := hA.2.1
      clear HA hA
      go_wp2
      exact bodyPost_ret (results_tmp3 rfl _ _ _) rfl ⟨_, _, _, rfl, by rw [hnone]; exact ⟨rfl, rfl, rfl⟩, HBL.out⟩
theorem clash_any (n : Nat) (v : Value) (ns : Nat → List Nt) (w : World) (h : isBooks w v n ns) (hN : (joinF ns 0 n).length < 1000000) (hts : ∀ i, i < n → ∀ x ∈ ns i, x.2.size ≤ 1000000000) :
    Calls Tryd.prog 19 #[v] w fun e w' => ∃ va vb fb, e = .returned (.tuple #[va, vb, .bool fb]) ∧ clashAns w' w.heap.size va vb fb (clashGo [] (joinF ns 0 n)) ∧ Below w.heap.size w w' :=
  (clash_soft n v ns w h hN hts).mono fun e w' ⟨va, vb, fb, h1, h2, h3⟩ => ⟨va, vb, fb, h1, by
    revert h2
    cases clashGo [] (joinF ns 0 n) with
    | none => exact id
    | some p => exact fun h => ⟨h.1.1, h.2.1.1, h.2.2⟩, h3⟩
end Go.Proofs.YthpnenblmkdmcaaDoor

/- Where a clash is told, and where none is. Plain mathematics (of any seat). -/
namespace Go.Proofs.YthpnenblmkdmcaaDoor
set_option linter.unusedSimpArgs false
set_option linter.unusedVariables false
open Go.RowKit Go.Deep

theorem foundN_first {A : List Nt} {q : List Int} {i : Nat} (h : firstAt A q = some i) : (foundN A q).1 = q := by
  obtain ⟨s, hs⟩ := firstAt_get h
  unfold foundN
  rw [h]
  simp only
  rw [List.getD_eq_getElem?_getD, hs]; rfl
theorem firstAt_mem {A : List Nt} {x : Nt} (h : x ∈ A) : ∃ i, firstAt A x.1 = some i := by
  cases hf : firstAt A x.1 with
  | some i => exact ⟨i, rfl⟩
  | none =>
    unfold firstAt at hf
    rw [List.findIdx?_eq_none_iff] at hf
    have := hf x h
    simp at this
/-- WHAT Clash TELLS are two unlike ones of one sum. -/
theorem clashGo_some : ∀ (L A : List Nt) (s t : ByteArray), clashGo A L = some (s, t) → s ≠ t ∧ ∃ q : List Int, ((q, s) ∈ A ∨ (q, s) ∈ L) ∧ ((q, t) ∈ A ∨ (q, t) ∈ L)
  | [], A, s, t, h => by cases h
  | x :: r, A, s, t, h => by
    rw [clashGo] at h
    by_cases hc : (firstAt A x.1).isSome = true ∧ foundN A x.1 ≠ x
    · rw [if_pos hc] at h
      obtain ⟨i, hi⟩ := Option.isSome_iff_exists.1 hc.1
      have hs : (foundN A x.1).2 = s ∧ x.2 = t := by simpa using h
      have h1 := foundN_first hi
      have hm := foundN_mem hi
      refine ⟨fun e => hc.2 (Prod.ext h1 (by rw [hs.1, hs.2, e])), x.1, Or.inl ?_, Or.inr ?_⟩
      · rw [← hs.1, ← h1]; rw [h1]; exact (show ((foundN A x.1).1, (foundN A x.1).2) ∈ A from hm) |> fun h => by rw [h1] at h; exact h
      · rw [← hs.2]; exact List.mem_cons_self
    · rw [if_neg hc] at h
      obtain ⟨h1, q, h2, h3⟩ := clashGo_some r (addN A x) s t h
      refine ⟨h1, q, ?_, ?_⟩
      · rcases h2 with h2 | h2
        · rcases addN_mem h2 with h | h
          · exact Or.inl h
          · exact Or.inr (by rw [h]; exact List.mem_cons_self)
        · exact Or.inr (List.mem_cons_of_mem _ h2)
      · rcases h3 with h2 | h2
        · rcases addN_mem h2 with h | h
          · exact Or.inl h
          · exact Or.inr (by rw [h]; exact List.mem_cons_self)
        · exact Or.inr (List.mem_cons_of_mem _ h2)
theorem addN_has (A : List Nt) (x y : Nt) (h : y ∈ A ∨ y = x) : y ∈ addN A x := by
  by_cases e : x ∈ A
  · rw [addN_in e]
    rcases h with h | h
    · exact h
    · rw [h]; exact e
  · rw [addN_out e]
    rcases h with h | h <;> simp [h]
/-- WHERE IT TELLS NONE each sum has one text. -/
theorem clashGo_none : ∀ (L A : List Nt), (∀ x y, x ∈ A → y ∈ A → x.1 = y.1 → x = y) → clashGo A L = none → ∀ x y, (x ∈ A ∨ x ∈ L) → (y ∈ A ∨ y ∈ L) → x.1 = y.1 → x = y
  | [], A, hA, _, x, y, hx, hy, e => hA x y (by simpa using hx) (by simpa using hy) e
  | z :: r, A, hA, h, x, y, hx, hy, e => by
    rw [clashGo] at h
    by_cases hc : (firstAt A z.1).isSome = true ∧ foundN A z.1 ≠ z
    · rw [if_pos hc] at h; cases h
    · rw [if_neg hc] at h
      have hz : ∀ y, y ∈ A → y.1 = z.1 → y = z := fun y hy e => by
        obtain ⟨i, hi⟩ := firstAt_mem hy
        rw [e] at hi
        have h1 := foundN_first hi
        have hm := foundN_mem hi
        have h2 : foundN A z.1 = z := by
          by_cases h3 : foundN A z.1 = z
          · exact h3
          · exact absurd ⟨by rw [hi]; rfl, h3⟩ hc
        rw [← h2]
        exact hA y _ hy hm (by rw [h1, e])
      refine clashGo_none r (addN A z) (fun x y hx hy e => ?_) h x y ?_ ?_ e
      · rcases addN_mem hx with h1 | h1 <;> rcases addN_mem hy with h2 | h2
        · exact hA x y h1 h2 e
        · rw [h2]; exact hz x h1 (by rw [e, h2])
        · rw [h1]; exact (hz y h2 (by rw [← e, h1])).symm
        · rw [h1, h2]
      · rcases hx with h1 | h1
        · exact Or.inl (addN_has _ _ _ (Or.inl h1))
        · rcases List.mem_cons.1 h1 with h1 | h1
          · exact Or.inl (addN_has _ _ _ (Or.inr h1))
          · exact Or.inr h1
      · rcases hy with h1 | h1
        · exact Or.inl (addN_has _ _ _ (Or.inl h1))
        · rcases List.mem_cons.1 h1 with h1 | h1
          · exact Or.inl (addN_has _ _ _ (Or.inr h1))
          · exact Or.inr h1
end Go.Proofs.YthpnenblmkdmcaaDoor

/- Preimages are told apart. Plain mathematics. -/
namespace Go.Proofs.YthpnenblmkdmcaaDoor
set_option linter.unusedSimpArgs false
set_option linter.unusedVariables false
open Go.RowKit Go.Deep

theorem numB_apart {x y : Int} {r s : List Int} (hx : 0 ≤ x ∧ x < 18446744073709551616) (hy : 0 ≤ y ∧ y < 18446744073709551616) (h : numB x ++ r = numB y ++ s) : x = y ∧ r = s := by
  have hp : ∀ z : Int, 0 ≤ z → z < 18446744073709551616 → z < 256 ^ szI z := fun z h0 h1 => by
    unfold szI
    repeat' split
    all_goals (simp only [Int.reducePow]; omega)
  unfold numB at h
  rw [List.cons_append, List.cons_append] at h
  injection h with h1 h2
  have hs : szI x = szI y := by omega
  have h3 := List.append_inj h2 (by simp [digsI, hs])
  refine ⟨?_, h3.2⟩
  have ex := horn_digsI (szI x) x hx.1 (hp x hx.1 hx.2)
  have ey := horn_digsI (szI y) y hy.1 (hp y hy.1 hy.2)
  rw [← ex, ← ey, h3.1]
theorem blobB_apart {p q r s : List Int} (hp : p.length < 1000000000) (hq : q.length < 1000000000) (h : blobB p ++ r = blobB q ++ s) : p = q ∧ r = s := by
  unfold blobB at h
  rw [List.append_assoc, List.append_assoc] at h
  obtain ⟨h1, h2⟩ := numB_apart ⟨by omega, by omega⟩ ⟨by omega, by omega⟩ h
  exact List.append_inj h2 (by omega)
theorem blobB_ne (p r : List Int) : blobB p ++ r ≠ [] := by unfold blobB numB; simp
/-- the parts from place i on. -/
def flatF (ps : Nat → List Int) (i : Nat) : Nat → List Int
  | 0 => []
  | k + 1 => blobB (ps i) ++ flatF ps (i + 1) k
theorem flatF_snoc (ps : Nat → List Int) : ∀ k i, flatF ps i (k + 1) = flatF ps i k ++ blobB (ps (i + k))
  | 0, i => by simp [flatF]
  | k + 1, i => by rw [flatF, flatF_snoc ps k (i + 1), flatF, List.append_assoc, show i + 1 + k = i + (k + 1) by omega]
theorem flatF_to (ps : Nat → List Int) : ∀ n, flatTo (blobsB ps) n = flatF ps 0 n
  | 0 => rfl
  | n + 1 => by rw [flatTo, flatF_to ps n, flatF_snoc, Nat.zero_add]; rfl
theorem flatF_apart (ps qs : Nat → List Int) : ∀ (n m i : Nat), (∀ j, (ps (i + j)).length < 1000000000 ∨ n ≤ j) → (∀ j, (qs (i + j)).length < 1000000000 ∨ m ≤ j) → flatF ps i n = flatF qs i m → n = m ∧ ∀ j, j < n → ps (i + j) = qs (i + j)
  | 0, 0, i, _, _, _ => ⟨rfl, fun j hj => by omega⟩
  | 0, m + 1, i, _, _, h => absurd h.symm (blobB_ne _ _)
  | n + 1, 0, i, _, _, h => absurd h (blobB_ne _ _)
  | n + 1, m + 1, i, h1, h2, h => by
    rw [flatF, flatF] at h
    obtain ⟨e1, e2⟩ := blobB_apart (by rcases h1 0 with h | h; exact h; omega) (by rcases h2 0 with h | h; exact h; omega) h
    obtain ⟨e3, e4⟩ := flatF_apart ps qs n m (i + 1) (fun j => by rcases h1 (j + 1) with h | h; exact Or.inl (by rw [show i + 1 + j = i + (j + 1) by omega]; exact h); exact Or.inr (by omega)) (fun j => by rcases h2 (j + 1) with h | h; exact Or.inl (by rw [show i + 1 + j = i + (j + 1) by omega]; exact h); exact Or.inr (by omega)) e2
    refine ⟨by omega, fun j hj => ?_⟩
    match j with
    | 0 => exact e1
    | j + 1 => rw [show i + (j + 1) = i + 1 + j by omega]; exact e4 j (by omega)
theorem flatF_congr (ps qs : Nat → List Int) : ∀ n i, (∀ j, j < n → ps (i + j) = qs (i + j)) → flatF ps i n = flatF qs i n
  | 0, i, _ => rfl
  | n + 1, i, h => by rw [flatF, flatF, show ps i = qs i from h 0 (by omega), flatF_congr ps qs n (i + 1) (fun j hj => by rw [show i + 1 + j = i + (j + 1) by omega]; exact h (j + 1) (by omega))]
/-- PREIMAGES ARE THE SAME JUST WHERE KINDS AND PARTS ARE. -/
theorem preB_apart {k l : Int} {n m : Nat} {ps qs : Nat → List Int} (h1 : ∀ j, j < n → (ps j).length < 1000000000) (h2 : ∀ j, j < m → (qs j).length < 1000000000) : preB k n ps = preB l m qs ↔ k % 256 = l % 256 ∧ n = m ∧ ∀ j, j < n → ps j = qs j := by
  unfold preB
  rw [flatF_to, flatF_to]
  constructor
  · intro h
    simp only [List.cons_append, List.nil_append] at h
    injection h with e1 e2
    obtain ⟨e3, e4⟩ := flatF_apart ps qs n m 0 (fun j => by
      by_cases hj : j < n
      · exact Or.inl (by rw [Nat.zero_add]; exact h1 j hj)
      · exact Or.inr (by omega)) (fun j => by
      by_cases hj : j < m
      · exact Or.inl (by rw [Nat.zero_add]; exact h2 j hj)
      · exact Or.inr (by omega)) e2
    exact ⟨e1, e3, fun j hj => by have := e4 j hj; rw [Nat.zero_add] at this; exact this⟩
  · rintro ⟨e1, rfl, e3⟩
    rw [e1, flatF_congr ps qs n 0 (fun j hj => by rw [Nat.zero_add]; exact e3 j hj)]
end Go.Proofs.YthpnenblmkdmcaaDoor

/- What a root binds. Plain mathematics. -/
namespace Go.Proofs.YthpnenblmkdmcaaDoor
set_option linter.unusedSimpArgs false
set_option linter.unusedVariables false
open Go.RowKit Go.Deep

def ntOf (L : List (List Int)) : Nt := (nodeS L, nodeT L)
theorem addN_le (N : List Nt) (x : Nt) : N.length ≤ (addN N x).length ∧ (addN N x).length ≤ N.length + 1 := by
  by_cases e : x ∈ N
  · rw [addN_in e]; omega
  · rw [addN_out e]; simp
/-- two nodes that have one note. -/
theorem flatF_byte (ps : Nat → List Int) (h : ∀ i j, 0 ≤ (ps i).getD j 0 ∧ (ps i).getD j 0 ≤ 255) : ∀ (n i j : Nat), 0 ≤ (flatF ps i n).getD j 0 ∧ (flatF ps i n).getD j 0 ≤ 255
  | 0, i, j => by simp [flatF]
  | n + 1, i, j => by
    rw [flatF, blobB, List.getD_eq_getElem?_getD]
    rw [List.append_assoc]
    by_cases h1 : j < (numB (ps i).length).length
    · rw [List.getElem?_append_left h1, ← List.getD_eq_getElem?_getD]; exact numB_byte _ _
    · rw [List.getElem?_append_right (by omega)]
      by_cases h2 : j - (numB (ps i).length).length < (ps i).length
      · rw [List.getElem?_append_left h2, ← List.getD_eq_getElem?_getD]; exact h i _
      · rw [List.getElem?_append_right (by omega), ← List.getD_eq_getElem?_getD]; exact flatF_byte ps h n (i + 1) _
theorem pre_byte (L : List (List Int)) (h : ∀ x ∈ L, isSum x) (k : Int) : ∀ j, 0 ≤ (preB k L.length (fun i => L.getD i [])).getD j 0 ∧ (preB k L.length (fun i => L.getD i [])).getD j 0 ≤ 255 := by
  intro j
  unfold preB
  rw [flatF_to]
  cases j with
  | zero => simp; omega
  | succ j =>
    rw [List.singleton_append, List.getD_cons_succ]
    refine flatF_byte _ (fun i j => ?_) _ _ _
    by_cases hi : i < L.length
    · have : L.getD i [] = L[i] := by rw [List.getD_eq_getElem?_getD, List.getElem?_eq_getElem hi]; rfl
      rw [this]; exact (h _ (List.getElem_mem _)).2 j
    · have : L.getD i [] = [] := by rw [List.getD_eq_getElem?_getD, List.getElem?_eq_none (by omega)]; rfl
      rw [this]; simp
theorem nodeT_inj {K L : List (List Int)} (hK : ∀ x ∈ K, isSum x) (hL : ∀ x ∈ L, isSum x) (h : nodeT K = nodeT L) : K = L := by
  have e := strOf_inj (pre_byte K hK 2) (pre_byte L hL 2) h
  have lenK : ∀ j, j < K.length → (K.getD j []).length < 1000000000 := fun j hj => by
    have : K.getD j [] = K[j] := by rw [List.getD_eq_getElem?_getD, List.getElem?_eq_getElem hj]; rfl
    rw [this, (hK _ (List.getElem_mem _)).1]; omega
  have lenL : ∀ j, j < L.length → (L.getD j []).length < 1000000000 := fun j hj => by
    have : L.getD j [] = L[j] := by rw [List.getD_eq_getElem?_getD, List.getElem?_eq_getElem hj]; rfl
    rw [this, (hL _ (List.getElem_mem _)).1]; omega
  obtain ⟨_, h2, h3⟩ := (preB_apart lenK lenL).1 e
  refine List.ext_getElem h2 fun i h4 h5 => ?_
  have := h3 i h4
  rw [List.getD_eq_getElem?_getD, List.getElem?_eq_getElem h4, List.getD_eq_getElem?_getD, List.getElem?_eq_getElem h5] at this
  exact this
theorem two_apart {a b c d : List Int} (ha : isSum a) (hb : isSum b) (hc : isSum c) (hd : isSum d) (h : nodeT [a, b] = nodeT [c, d]) : a = c ∧ b = d := by
  have := nodeT_inj (K := [a, b]) (L := [c, d]) (fun x hx => by rcases List.mem_cons.1 hx with rfl | hx; exact ha; rw [List.mem_singleton.1 hx]; exact hb) (fun x hx => by rcases List.mem_cons.1 hx with rfl | hx; exact hc; rw [List.mem_singleton.1 hx]; exact hd) h
  simpa using this
theorem rootNF_has : ∀ (n : Nat) (N : List Nt) (L : List (List Int)) (x : Nt), x ∈ N → x ∈ rootNF n N L
  | 0, N, L, x, h => by rw [rootNF]; exact addN_has _ _ _ (Or.inl h)
  | n + 1, N, L, x, h => by
    rw [rootNF]
    split
    · exact addN_has _ _ _ (Or.inl h)
    · split
      · exact h
      · exact addN_has _ _ _ (Or.inl (rootNF_has n _ _ x (rootNF_has n N _ x h)))
theorem rootN_has {N : List Nt} {L : List (List Int)} {x : Nt} (h : x ∈ N) : x ∈ rootN N L := rootNF_has _ _ _ _ h
/-- no sum has unlike texts here and there. -/
def noClash (A B : Nt → Prop) : Prop := ∀ x y, A x → B y → x.1 = y.1 → x = y
theorem same_two {A B : Nt → Prop} (h : noClash A B) {a b c d : List Int} (ha : isSum a) (hb : isSum b) (hc : isSum c) (hd : isSum d) (hA : A (ntOf [a, b])) (hB : B (ntOf [c, d])) (e : nodeS [a, b] = nodeS [c, d]) : a = c ∧ b = d :=
  two_apart ha hb hc hd (congrArg Prod.snd (h _ _ hA hB e))
/-- two lists of one length with one root. -/
theorem bind_root (A B : Nt → Prop) (hAB : noClash A B) : ∀ (m : Nat) (L K : List (List Int)) (N M : List Nt), L.length ≤ m → K.length = L.length → (∀ x ∈ L, isSum x) → (∀ x ∈ K, isSum x) →
    (∀ x ∈ rootN N L, A x) → (∀ x ∈ rootN M K, B x) → rootS L = rootS K → L = K
  | 0, L, K, N, M, h, hk, hL, hK, hA, hB, e => by
    rw [List.eq_nil_of_length_eq_zero (by omega : L.length = 0), List.eq_nil_of_length_eq_zero (by omega : K.length = 0)]
  | m + 1, L, K, N, M, h, hk, hL, hK, hA, hB, e => by
    by_cases h0 : L.length = 0
    · rw [List.eq_nil_of_length_eq_zero h0, List.eq_nil_of_length_eq_zero (by omega : K.length = 0)]
    by_cases h1 : L.length = 1
    · rw [rootS_one h1, rootS_one (by omega)] at e
      refine List.ext_getElem (by omega) fun i hi hj => ?_
      obtain rfl : i = 0 := by omega
      rw [List.getD_eq_getElem?_getD, List.getElem?_eq_getElem hi, List.getD_eq_getElem?_getD, List.getElem?_eq_getElem hj] at e
      exact e
    · have h2 : 2 ≤ L.length := by omega
      have hk2 : 2 ≤ K.length := by omega
      have ht := half_take h2
      have hkt := half_take hk2
      rw [rootS_more h2, rootS_more hk2] at e
      rw [rootN_more N h2] at hA
      rw [rootN_more M hk2] at hB
      have sT : ∀ x ∈ L.take (halfN L.length), isSum x := fun x hx => hL x (List.mem_of_mem_take hx)
      have sD : ∀ x ∈ L.drop (halfN L.length), isSum x := fun x hx => hL x (List.mem_of_mem_drop hx)
      have kT : ∀ x ∈ K.take (halfN K.length), isSum x := fun x hx => hK x (List.mem_of_mem_take hx)
      have kD : ∀ x ∈ K.drop (halfN K.length), isSum x := fun x hx => hK x (List.mem_of_mem_drop hx)
      obtain ⟨e1, e2⟩ := same_two hAB (rootS_sum sT) (rootS_sum sD) (rootS_sum kT) (rootS_sum kD) (hA _ (addN_has _ _ _ (Or.inr rfl))) (hB _ (addN_has _ _ _ (Or.inr rfl))) e
      have i1 := bind_root A B hAB m (L.take (halfN L.length)) (K.take (halfN K.length)) N M (by omega) (by rw [hkt.1, ht.1, hk]) sT kT (fun x hx => hA x (addN_has _ _ _ (Or.inl (rootN_has hx)))) (fun x hx => hB x (addN_has _ _ _ (Or.inl (rootN_has hx)))) e1
      have i2 := bind_root A B hAB m (L.drop (halfN L.length)) (K.drop (halfN K.length)) _ _ (by omega) (by rw [hkt.2.1, ht.2.1, hk]) sD kD (fun x hx => hA x (addN_has _ _ _ (Or.inl hx))) (fun x hx => hB x (addN_has _ _ _ (Or.inl hx))) e2
      rw [← List.take_append_drop (halfN L.length) L, i1, i2, List.take_append_drop]
end Go.Proofs.YthpnenblmkdmcaaDoor

/- The way to an edge: plain mathematics. -/
namespace Go.Proofs.YthpnenblmkdmcaaDoor
set_option linter.unusedSimpArgs false
set_option linter.unusedVariables false
open Go.RowKit Go.Deep

theorem ghalf_pow {n k : Nat} (h : 2 ≤ n) (hk : n ≤ 2 ^ (k + 1)) : halfN n ≤ 2 ^ k ∧ n - halfN n ≤ 2 ^ k := by
  have hh := halfN_is h
  have h1 : halfN n ≤ 2 ^ k := by
    rw [halfN_pow h]
    refine Nat.pow_le_pow_right (by omega) ?_
    have h2 : n - 1 < 2 ^ (k + 1) := by omega
    have := (Nat.log2_lt (show n - 1 ≠ 0 by omega)).2 h2
    omega
  omega
/-- the steps to the edge behind m of n leaves, 1 ≤ m: of each the half, and whether it leaves those behind it aside. -/
def gF : Nat → Nat → Nat → List (Nat × Bool)
  | 0, _, _ => []
  | fuel + 1, m, n => if m < n then (halfN n, decide (m ≤ halfN n)) :: (if m ≤ halfN n then gF fuel m (halfN n) else gF fuel (m - halfN n) (n - halfN n)) else []
def gL (m n : Nat) : List (Nat × Bool) := gF n m n
theorem gF_fuel : ∀ (f g m n : Nat), 1 ≤ m → n ≤ f → n ≤ g → gF f m n = gF g m n
  | 0, 0, m, n, _, _, _ => rfl
  | 0, g + 1, m, n, hm, h, _ => by rw [gF, gF, if_neg (by omega)]
  | f + 1, 0, m, n, hm, _, h => by rw [gF, gF, if_neg (by omega)]
  | f + 1, g + 1, m, n, hm, h1, h2 => by
    rw [gF, gF]
    by_cases e : m < n
    · have := halfN_is (n := n) (by omega)
      rw [if_pos e, if_pos e]
      by_cases hl : m ≤ halfN n
      · rw [if_pos hl, if_pos hl, gF_fuel f g m (halfN n) hm (by omega) (by omega)]
      · rw [if_neg hl, if_neg hl, gF_fuel f g (m - halfN n) (n - halfN n) (by omega) (by omega) (by omega)]
    · rw [if_neg e, if_neg e]
theorem gL_end {m n : Nat} (h : n ≤ m) : gL m n = [] := by
  unfold gL
  match n with
  | 0 => rfl
  | n + 1 => rw [gF, if_neg (by omega)]
theorem gL_right {m n : Nat} (hm : 1 ≤ m) (h : m < n) (hl : m ≤ halfN n) : gL m n = (halfN n, true) :: gL m (halfN n) := by
  have hh := halfN_is (n := n) (by omega)
  unfold gL
  obtain ⟨k, hk⟩ : ∃ k, n = k + 1 := ⟨n - 1, by omega⟩
  rw [show gF n m n = gF (k + 1) m n by rw [hk], gF, if_pos h, if_pos hl, gF_fuel k (halfN n) m (halfN n) hm (by omega) (Nat.le_refl _), decide_eq_true hl]
theorem gL_left {m n : Nat} (hm : 1 ≤ m) (h : m < n) (hl : ¬ m ≤ halfN n) : gL m n = (halfN n, false) :: gL (m - halfN n) (n - halfN n) := by
  have hh := halfN_is (n := n) (by omega)
  unfold gL
  obtain ⟨k, hk⟩ : ∃ k, n = k + 1 := ⟨n - 1, by omega⟩
  rw [show gF n m n = gF (k + 1) m n by rw [hk], gF, if_pos h, if_neg hl, gF_fuel k (n - halfN n) (m - halfN n) (n - halfN n) (by omega) (by omega) (Nat.le_refl _), decide_eq_false hl]
/-- the steps of any two numbers. -/
def gI (m n : Int) : List (Nat × Bool) := if 1 ≤ m then gL m.toNat n.toNat else []
theorem gI_nat {m n : Nat} (h : 1 ≤ m) : gI m n = gL m n := by unfold gI; rw [if_pos (by omega)]; simp
theorem gI_no {m n : Int} (h : ¬ (1 ≤ m ∧ m < n)) : gI m n = [] := by
  unfold gI
  split
  · exact gL_end (by omega)
  · rfl
theorem gI_right {m n : Int} (hm : 1 ≤ m) (h : m < n) (hl : m ≤ halfI n) : gI m n = ((halfI n).toNat, true) :: gI m (halfI n) := by
  have hI : halfI n = (halfN n.toNat : Int) := rfl
  rw [hI] at hl ⊢
  unfold gI
  rw [if_pos hm, if_pos hm, gL_right (by omega) (by omega) (by omega), Int.toNat_natCast]
theorem gI_left {m n : Int} (hm : 1 ≤ m) (h : m < n) (hl : ¬ m ≤ halfI n) : gI m n = ((halfI n).toNat, false) :: gI (m - halfI n) (n - halfI n) := by
  have hI : halfI n = (halfN n.toNat : Int) := rfl
  have hh := halfN_is (n := n.toNat) (by omega)
  rw [hI] at hl ⊢
  unfold gI
  rw [if_pos hm, if_pos (by omega), gL_left (by omega) (by omega) (by omega), Int.toNat_natCast, show (m - (halfN n.toNat : Int)).toNat = m.toNat - halfN n.toNat by omega, show (n - (halfN n.toNat : Int)).toNat = n.toNat - halfN n.toNat by omega]
theorem gL_len : ∀ (k m n : Nat), 1 ≤ m → n ≤ 2 ^ k → (gL m n).length ≤ k
  | 0, m, n, hm, h => by rw [gL_end (by omega)]; simp
  | k + 1, m, n, hm, h => by
    by_cases h2 : m < n
    · have hh := halfN_is (n := n) (by omega)
      have := ghalf_pow (by omega : 2 ≤ n) h
      by_cases hl : m ≤ halfN n
      · rw [gL_right hm h2 hl, List.length_cons]; have := gL_len k m (halfN n) hm this.1; omega
      · rw [gL_left hm h2 hl, List.length_cons]; have := gL_len k (m - halfN n) (n - halfN n) (by omega) this.2; omega
    · rw [gL_end (by omega)]; simp
theorem gI_len (m n : Int) (h : n ≤ 9223372036854775807) : (gI m n).length ≤ 63 := by
  unfold gI
  split
  · exact gL_len 63 _ _ (by omega) (by have : (2 : Nat) ^ 63 = 9223372036854775808 := rfl; omega)
  · simp
/-- is something left aside to the left? -/
def gIn (l : List (Nat × Bool)) : Bool := l.any fun x => !x.2
def gSteps (m n : Int) : Int := ((gI m n).length : Int) + if gIn (gI m n) = true then 1 else 0
/-- what is kept, what is left aside, on the way down. -/
def gKept (x : Nat × Bool) (L : List (List Int)) : List (List Int) := if x.2 = true then L.take x.1 else L.drop x.1
def gOther (x : Nat × Bool) (L : List (List Int)) : List (List Int) := if x.2 = true then L.drop x.1 else L.take x.1
def gKeptF (w : List (Nat × Bool)) (L : List (List Int)) : List (List Int) := w.foldl (fun L x => gKept x L) L
def gDown : List (Nat × Bool) → List (List Int) → List (List (List Int))
  | [], _ => []
  | x :: r, L => gOther x L :: gDown r (gKept x L)
theorem gKeptF_snoc (w : List (Nat × Bool)) (x : Nat × Bool) (L : List (List Int)) : gKeptF (w ++ [x]) L = gKept x (gKeptF w L) := by unfold gKeptF; rw [List.foldl_append]; rfl
theorem gKeptF_cons (x : Nat × Bool) (w : List (Nat × Bool)) (L : List (List Int)) : gKeptF (x :: w) L = gKeptF w (gKept x L) := rfl
theorem gDown_snoc : ∀ (w : List (Nat × Bool)) (x : Nat × Bool) (L : List (List Int)), gDown (w ++ [x]) L = gDown w L ++ [gOther x (gKeptF w L)]
  | [], x, L => rfl
  | y :: r, x, L => by rw [List.cons_append, gDown, gDown, List.cons_append, gDown_snoc r x (gKept y L), gKeptF_cons]
theorem gDown_len : ∀ (w : List (Nat × Bool)) (L : List (List Int)), (gDown w L).length = w.length
  | [], _ => rfl
  | x :: r, L => by rw [gDown, List.length_cons, List.length_cons, gDown_len r]
theorem gKept_le (x : Nat × Bool) (L : List (List Int)) : (gKept x L).length ≤ L.length := by unfold gKept; split <;> simp <;> omega
theorem gOther_le (x : Nat × Bool) (L : List (List Int)) : (gOther x L).length ≤ L.length := by unfold gOther; split <;> simp <;> omega
theorem gDown_le : ∀ (w : List (Nat × Bool)) (L : List (List Int)), ∀ K ∈ gDown w L, K.length ≤ L.length
  | [], L, K, h => by simp [gDown] at h
  | x :: r, L, K, h => by
    rw [gDown] at h
    rcases List.mem_cons.1 h with rfl | h
    · exact gOther_le x L
    · have := gDown_le r (gKept x L) K h
      have := gKept_le x L
      omega
theorem gKept_sum {x : Nat × Bool} {L : List (List Int)} (h : ∀ y ∈ L, isSum y) : ∀ y ∈ gKept x L, isSum y := fun y hy => by
  unfold gKept at hy; split at hy
  · exact h y (List.mem_of_mem_take hy)
  · exact h y (List.mem_of_mem_drop hy)
theorem gOther_sum {x : Nat × Bool} {L : List (List Int)} (h : ∀ y ∈ L, isSum y) : ∀ y ∈ gOther x L, isSum y := fun y hy => by
  unfold gOther at hy; split at hy
  · exact h y (List.mem_of_mem_drop hy)
  · exact h y (List.mem_of_mem_take hy)
theorem gI_take_len (m : Int) (K : List (List Int)) (Y : List (Nat × Bool)) (k : Nat) (hk : k < Y.length) (h : Y.drop k = gI m K.length) :
    2 ≤ K.length ∧ (Y[k]).1 = halfN K.length ∧ ∃ m', Y.drop (k + 1) = gI m' (gKept Y[k] K).length := by
  have hc := List.drop_eq_getElem_cons hk
  by_cases h1 : 1 ≤ m ∧ m < (K.length : Int)
  · have hh := halfN_is (n := K.length) (by omega)
    have hI : halfI (K.length : Int) = (halfN K.length : Int) := by unfold halfI; rw [Int.toNat_natCast]
    have ht := half_take (L := K) (by omega)
    by_cases hl : m ≤ halfI K.length
    · rw [gI_right h1.1 h1.2 hl, hc] at h
      obtain ⟨e1, e2⟩ := List.cons.inj h
      rw [e1]
      refine ⟨by omega, by rw [hI]; simp, m, ?_⟩
      rw [e2]; unfold gKept; rw [if_pos rfl, hI]; simp only [Int.toNat_natCast]; rw [ht.1]
    · rw [gI_left h1.1 h1.2 hl, hc] at h
      obtain ⟨e1, e2⟩ := List.cons.inj h
      rw [e1]
      refine ⟨by omega, by rw [hI]; simp, m - halfI K.length, ?_⟩
      rw [e2]; unfold gKept; rw [if_neg (by simp), hI]; simp only [Int.toNat_natCast]; rw [ht.2.1, Int.ofNat_sub (by omega)]
  · rw [gI_no h1, hc] at h; cases h
/-- all lists of which the path is the roots, from the first step down. -/
def gShown (L : List (List Int)) (m : Int) : List (List (List Int)) := gDown (gI m L.length) L ++ if gIn (gI m L.length) = true then [gKeptF (gI m L.length) L] else []
/-- Between. -/
def gPath (L : List (List Int)) (m : Int) : List (List Int) := (gShown L m).reverse.map rootS
theorem gPath_len (L : List (List Int)) (m : Int) : ((gPath L m).length : Int) = gSteps m L.length := by
  unfold gPath gShown gSteps
  rw [List.length_map, List.length_reverse, List.length_append, gDown_len]
  split <;> simp
/-- what a path tells, from the last step to the first: the old one, the fresh one. -/
def gUp (s : List Int × List Int) (x : Bool × List Int) : List Int × List Int := if x.1 = true then (s.1, nodeS [s.2, x.2]) else (nodeS [x.2, s.1], nodeS [x.2, s.2])
def gUps (w : List (Nat × Bool)) (path : List (List Int)) : List (Bool × List Int) := (w.map (·.2)).reverse.zip path
def gTell (w : List (Nat × Bool)) (old : List Int) (path : List (List Int)) : List Int × List Int :=
  if gIn w = true then (gUps w (path.drop 1)).foldl gUp (path.getD 0 [], path.getD 0 []) else (gUps w path).foldl gUp (old, old)
/-- its notes. -/
def gUpN (y : List Nt × (List Int × List Int)) (x : Bool × List Int) : List Nt × (List Int × List Int) :=
  (if x.1 = true then addN y.1 (ntOf [y.2.2, x.2]) else addN (addN y.1 (ntOf [x.2, y.2.1])) (ntOf [x.2, y.2.2]), gUp y.2 x)
theorem gUpN_snd : ∀ (U : List (Bool × List Int)) (N : List Nt) (s : List Int × List Int), (U.foldl gUpN (N, s)).2 = U.foldl gUp s
  | [], _, _ => rfl
  | x :: r, N, s => by
    rw [List.foldl_cons, List.foldl_cons]
    exact gUpN_snd r _ _
/-- what is taken off the path, what both begin with. -/
def gRest (Y : List (Nat × Bool)) (path : List (List Int)) : List (List Int) := if gIn Y = true then path.drop 1 else path
def gSeed (Y : List (Nat × Bool)) (old : List Int) (path : List (List Int)) : List Int := if gIn Y = true then path.getD 0 [] else old
theorem gTell_is (Y : List (Nat × Bool)) (old : List Int) (path : List (List Int)) : gTell Y old path = (gUps Y (gRest Y path)).foldl gUp (gSeed Y old path, gSeed Y old path) := by
  unfold gTell gRest gSeed
  split <;> rfl
def gTellN (N : List Nt) (Y : List (Nat × Bool)) (old : List Int) (path : List (List Int)) : List Nt := ((gUps Y (gRest Y path)).foldl gUpN (N, (gSeed Y old path, gSeed Y old path))).1
def gOne (x : Bool × List Int) : Int := if x.1 = true then 1 else 2
def gCnt (U : List (Bool × List Int)) : Int := (U.map gOne).sum
theorem gCnt_snoc (U : List (Bool × List Int)) (x : Bool × List Int) : gCnt (U ++ [x]) = gCnt U + gOne x := by unfold gCnt; rw [List.map_append, List.sum_append]; simp
theorem gCnt_le : ∀ U : List (Bool × List Int), 0 ≤ gCnt U ∧ gCnt U ≤ 2 * (U.length : Int)
  | [] => by simp [gCnt]
  | x :: r => by
    have h := gCnt_le r
    have e : gCnt (x :: r) = gOne x + gCnt r := by unfold gCnt; rw [List.map_cons, List.sum_cons]
    have : 1 ≤ gOne x ∧ gOne x ≤ 2 := by unfold gOne; split <;> omega
    rw [e, List.length_cons]; omega
theorem gUpN_len : ∀ (U : List (Bool × List Int)) (N : List Nt) (s : List Int × List Int), (U.foldl gUpN (N, s)).1.length ≤ N.length + 2 * U.length
  | [], N, s => by simp
  | x :: r, N, s => by
    rw [List.foldl_cons]
    have h : (r.foldl gUpN (gUpN (N, s) x)).1.length ≤ (gUpN (N, s) x).1.length + 2 * r.length := gUpN_len r (gUpN (N, s) x).1 (gUpN (N, s) x).2
    have h2 : (gUpN (N, s) x).1.length ≤ N.length + 2 := by
      unfold gUpN
      simp only
      split
      · have := addN_le N (ntOf [s.2, x.2]); omega
      · have h1 := addN_le N (ntOf [x.2, s.1])
        have h3 := addN_le (addN N (ntOf [x.2, s.1])) (ntOf [x.2, s.2])
        omega
    rw [List.length_cons]; omega
theorem gUp_sum {s : List Int × List Int} {x : Bool × List Int} (h1 : isSum s.1) (h2 : isSum s.2) : isSum (gUp s x).1 ∧ isSum (gUp s x).2 := by
  unfold gUp; split
  · exact ⟨h1, nodeS_sum _⟩
  · exact ⟨nodeS_sum _, nodeS_sum _⟩
theorem gUps_sum : ∀ (U : List (Bool × List Int)) (s : List Int × List Int), isSum s.1 → isSum s.2 → isSum (U.foldl gUp s).1 ∧ isSum (U.foldl gUp s).2
  | [], s, h1, h2 => ⟨h1, h2⟩
  | x :: r, s, h1, h2 => by
    rw [List.foldl_cons]
    have h := gUp_sum (x := x) h1 h2
    exact gUps_sum r _ h.1 h.2
theorem gUps_len {w : List (Nat × Bool)} {path : List (List Int)} (h : path.length = w.length) : (gUps w path).length = w.length := by
  unfold gUps; rw [List.length_zip, List.length_reverse, List.length_map]; omega
theorem gIn_cons (x : Nat × Bool) (r : List (Nat × Bool)) : gIn (x :: r) = (!x.2 || gIn r) := by unfold gIn; rw [List.any_cons]
theorem gIn_nil : gIn [] = false := rfl
theorem gUps_snoc {x : Nat × Bool} {w : List (Nat × Bool)} {q : List (List Int)} {y : List Int} (h : q.length = w.length) : gUps (x :: w) (q ++ [y]) = gUps w q ++ [(x.2, y)] := by
  unfold gUps
  rw [List.map_cons, List.reverse_cons, List.zip_append (by rw [List.length_reverse, List.length_map]; omega)]; rfl
end Go.Proofs.YthpnenblmkdmcaaDoor

/- A load, a store of a whole row, by what its run comes to; slices of sums of the call's own. -/
namespace Go.Proofs.YthpnenblmkdmcaaDoor
set_option linter.unusedSimpArgs false
set_option linter.unusedVariables false
open Go.RowKit Go.Deep

section
variable {P : Program}
theorem exec_load_row {o : Oper} {ev : Operand → Value} {w : World} (ty : TypeId) (x : Operand) (ho : o.op = .load ty x) (b s m : Nat) (g : Nat → Value) (hx : ev x = .pointer (some ⟨b, s, none⟩)) (d : TypeDesc)
    (hu : P.underlying ty = some d) (hd : d.isRow = true) (hi : (P.info? ty).map (·.size) = some m) (hc : ∀ i, i < m → w.cell? ⟨b, s + i, none⟩ = some (g i)) : (execOp ev o).run P w = .ok (.value (.agg (rowV m g))) w := by
  have e : (rowV m g) = (rowV m g).toList.toArray := by rw [Array.toArray_toList]
  rw [e]
  unfold execOp
  simp only [ho, hx, Instr.loadAt, Instr.sureAddr, Sem.run_bind, Sem.run_pure, Result.andThen_ok, run_loadVar_mid w b s ty (rowV m g).toList d (range_of_cells hc) hu hd (by rw [hi, Array.length_toList, rowV_size])]
/-- a store of a whole row. -/
theorem stowR_run (w : World) (ty : TypeId) (b s m : Nat) (g : Nat → Value) (hi : (P.info? ty).map (·.size) = some m) (h1 : ∀ i, i < m → (g i).oneCell' = true) (ht : w.there b s m) : (storeVar ty ⟨b, s, none⟩ (.agg (rowV m g))).run P w = .ok () (w.setCells b s (rowV m g).toList) := by
  have h2 : (rowV m g).all (·.oneCell') = true := by
    rw [Array.all_eq_true_iff_forall_mem]
    intro v hv
    obtain ⟨i, hi', rfl⟩ := Array.mem_iff_getElem.1 hv
    have hlt : i < m := by rw [rowV_size] at hi'; exact hi'
    have := rowV_get m g i hlt
    rw [Array.getElem?_eq_getElem hi'] at this
    rw [Option.some.inj this]; exact h1 i hlt
  exact run_storeVar_mid (P := P) w b s ty (rowV m g) (by rw [rowV_size]; exact ht) (by rw [hi, rowV_size]) h2
end
/-- the cells of sums, one behind the other. -/
def sumC (q : List Int) : List Value := (rowV 32 (arrV q)).toList
theorem sumC_len (q : List Int) : (sumC q).length = 32 := by simp [sumC, rowV_size]
theorem sumC_get (q : List Int) (j : Nat) (h : j < 32) : (sumC q)[j]? = some (arrV q j) := by rw [sumC, Array.getElem?_toList]; exact rowV_get _ _ _ h
theorem sumsC_len : ∀ L : List (List Int), (L.flatMap sumC).length = L.length * 32
  | [] => rfl
  | x :: N => by rw [List.flatMap_cons, List.length_append, sumC_len, sumsC_len N, List.length_cons]; omega
theorem sumsC_get : ∀ (L : List (List Int)) (i j : Nat) (x : List Int), L[i]? = some x → j < 32 → (L.flatMap sumC)[i * 32 + j]? = some (arrV x j)
  | [], i, j, x, h, _ => by simp at h
  | y :: N, 0, j, x, h, hj => by
    have e : y = x := by simpa using h
    subst e
    rw [List.flatMap_cons, Nat.zero_mul, Nat.zero_add, List.getElem?_append_left (by rw [sumC_len]; exact hj)]
    exact sumC_get _ _ hj
  | y :: N, i + 1, j, x, h, hj => by
    rw [List.flatMap_cons, List.getElem?_append_right (by rw [sumC_len]; omega), sumC_len, show (i + 1) * 32 + j - 32 = i * 32 + j by omega]
    exact sumsC_get N i j x (by simpa using h) hj
theorem sumC_one (q : List Int) : ∀ u ∈ sumC q, u.oneCell' = true := by
  intro u hu
  rw [sumC, Array.mem_toList_iff] at hu
  obtain ⟨k, hk, rfl⟩ := Array.mem_iff_getElem.1 hu
  have hk' : k < 32 := by rw [rowV_size] at hk; exact hk
  have := rowV_get 32 (arrV q) k hk'
  rw [Array.getElem?_eq_getElem hk] at this
  rw [Option.some.inj this]; rfl
/-- v is a slice of these sums, in a block of its own from B on. -/
def newSums (w : World) (B : Nat) (v : Value) (L : List (List Int)) : Prop := (∀ x ∈ L, isSum x) ∧ w.ownsRow B 29 32 v L.length (L.flatMap sumC)
theorem newSums.is {w : World} {B : Nat} {v : Value} {L : List (List Int)} (h : newSums w B v L) : sumsAt w v L := by
  obtain ⟨hs, ho⟩ := h
  obtain ⟨a, c, rfl, hc, hm, hg⟩ := ownsRow_slice ho
  refine ⟨hs, a, c, rfl, hc, hm, fun h0 => ?_⟩
  obtain ⟨g, rfl, hlt, _, hcell⟩ := hg h0
  refine ⟨g, 0, rfl, hlt, fun i hi j hj => ?_⟩
  rw [Nat.zero_add]
  exact hcell _ _ (sumsC_get L i j _ (List.getElem?_eq_getElem hi) hj)
theorem newSums.nil (w : World) (B : Nat) : newSums w B (.slice none 0 0) [] := ⟨fun x hx => by simp at hx, rfl, Or.inl ⟨rfl, rfl⟩⟩
theorem newSums.far {w w' : World} {B : Nat} {v : Value} {L : List (List Int)} (h : newSums w B v L) (hb : ∀ k, v.ownBlock = some k → w'.heap[k]? = w.heap[k]?) : newSums w' B v L := ⟨h.1, ownsRow_far h.2 hb⟩
theorem newSums.block {w : World} {B : Nat} {v : Value} {L : List (List Int)} (h : newSums w B v L) (k : Nat) (hk : v.ownBlock = some k) : B ≤ k ∧ k < w.heap.size := ownsRow_block h.2 k hk
theorem newSums.below {w w' : World} {B C : Nat} {v : Value} {L : List (List Int)} (h : newSums w B v L) (hb : Below C w w') (hC : w.heap.size ≤ C) : newSums w' B v L :=
  h.far fun k hk => hb.block k (Nat.lt_of_lt_of_le (h.block k hk).2 hC)
theorem newSums.lower {w : World} {B C : Nat} {v : Value} {L : List (List Int)} (h : newSums w B v L) (hC : C ≤ B) : newSums w C v L := ⟨h.1, ownsRow_lower h.2 hC⟩
theorem infoS32 : (Tryd.prog.info? 29).map (fun i => (i.zero, i.size, i.bytes)) = some (some (.agg (rowV 32 (fun _ => .int .u8 0))), 32, 32) := by kernel_rfl
/-- append of sums to sums of the call's own. -/
theorem sums_append (w : World) (B : Nat) (v : Value) (L : List (List Int)) (hv : newSums w B v L) (sv : Value) (K : List (List Int)) (hK : sumsAt w sv K) (hn : L.length + K.length < 1000000) (hB : B ≤ w.heap.size) :
    ∃ a c w', (Builtin.append_ #[22, 22] 22 #[v, sv]).run Tryd.prog w = .ok (.slice a (L.length + K.length) c) w' ∧ newSums w' B (.slice a (L.length + K.length) c) (L ++ K) ∧ w.grownBy w' v.ownBlock ∧
      ((Value.slice a (L.length + K.length) c).ownBlock = v.ownBlock ∨ (Value.slice a (L.length + K.length) c).ownBlock = some w.heap.size) := by
  obtain ⟨hs, hv⟩ := hv
  obtain ⟨hs2, a, cap, rfl, hc, hm, hcl⟩ := hK
  obtain ⟨a', c', w', hr, ho, hg, hat⟩ := row_append (P := Tryd.prog) w 22 22 29 _ 32 32 Tryd.underlying22 infoS32 (by simp [Value.cells, rowV_size]) (by omega)
    B v L.length _ hv (.slice a K.length cap) K.length (K.flatMap sumC) (sumsC_len K)
    ⟨_, _, rfl, fun h0 => by
      obtain ⟨g, o, rfl, hg, hcell⟩ := hcl h0
      refine ⟨g, o, rfl, fun j u hj => ?_⟩
      have hjl : j < K.length * 32 := by rw [← sumsC_len K]; exact (List.getElem?_eq_some_iff.1 hj).1
      have h1 := hcell (j / 32) (by omega) (j % 32) (by omega)
      have h2 := sumsC_get K (j / 32) (j % 32) _ (List.getElem?_eq_getElem (by omega : j / 32 < K.length)) (by omega)
      rw [show j / 32 * 32 + j % 32 = j by omega, hj] at h2
      rw [show o + j / 32 * 32 + j % 32 = o + j by omega, ← Option.some.inj h2] at h1
      exact h1⟩
    (fun u hu => by
      obtain ⟨q, _, hq⟩ := List.mem_flatMap.1 hu
      exact sumC_one q u hq) (by unfold maxLen; omega) (by omega) hB
  refine ⟨a', c', w', hr, ⟨fun x hx => ?_, ?_⟩, hg, hat⟩
  · rcases List.mem_append.1 hx with h | h
    · exact hs x h
    · exact hs2 x h
  · rw [List.flatMap_append, List.length_append]; exact ho
end Go.Proofs.YthpnenblmkdmcaaDoor

/- One sum more; small tools. -/
namespace Go.Proofs.YthpnenblmkdmcaaDoor
set_option linter.unusedSimpArgs false
set_option linter.unusedVariables false
open Go.RowKit Go.Deep Go.Shelf

theorem rowIs_one (w : World) (v : Value) (t : TypeId) : (w.alloc (.cells #[v] t)).rowIs w.heap.size t 1 (fun _ => v) :=
  rowIs_new w _ _ 1 _ rfl (fun i hi => by
    obtain rfl : i = 0 := by omega
    rfl)
theorem take_snoc {α : Type} (U : List α) (k : Nat) (h : k < U.length) : U.take (k + 1) = U.take k ++ [U[k]] := by rw [List.take_add_one, List.getElem?_eq_getElem h]; rfl
theorem putObj_block (W : World) (b : Nat) (o : Obj) {j : Nat} (h : j ≠ b) : (W.putObj b o).heap[j]? = W.heap[j]? := World.putObj_heap_other h
theorem Calm.normal {Q : Exit → Act → World → Prop} {a : Act} {w : World} (h : Q .normal a w) : Calm Q .normal a w := h
theorem one_sum (w : World) (q : List Int) (hq : isSum q) : sumsAt (w.alloc (.cells (rowV 32 (arrV q)) 29)) (.slice (some ⟨w.heap.size, 0, none⟩) 1 1) [q] := by
  refine ⟨fun x hx => by rw [List.mem_singleton.1 hx]; exact hq, _, 1, rfl, Nat.le_refl _, by unfold maxLen; omega, fun _ => ⟨w.heap.size, 0, rfl, by simp, fun i hi j hj => ?_⟩⟩
  have hi0 : i = 0 := by simpa using hi
  subst hi0
  rw [show 0 + 0 * 32 + j = j by omega, (rowIs_box w 29 32 (arrV q)).cell (by omega)]; rfl
theorem build_one (f : Nat → Value) (w : World) : (Instr.buildSlice 22 1 #[(0, .agg (rowV 32 f))]).run Tryd.prog w = .ok (.slice (some ⟨w.heap.size, 0, none⟩) 1 1) (w.alloc (.cells (rowV 32 f) 29)) := by
  show (_ : Result Value) = _
  kernel_rfl
theorem exec_bslice1' {P : Program} {o : Oper} {ev : Operand → Value} {w w' : World} {v : Value} (t : TypeId) (n i : Nat) (x : Operand) (a : Value) (ho : o.op = .buildSlice t n #[(i, x)]) (hx : ev x = a)
    (hr : (Instr.buildSlice t n #[(i, a)]).run P w = .ok v w') : (execOp ev o).run P w = .ok (.value v) w' := by
  unfold execOp
  simp only [ho, List.map_toArray, List.map_cons, List.map_nil, hx, Sem.run_bind, hr, Result.andThen_ok, Sem.run_pure]
theorem path_more (w0 w : World) (u : Value) (P : List (List Int)) (q : List Int) (hq : isSum q) (hu : newSums w w0.heap.size u P) (hb : Below w0.heap.size w0 w) (hl : P.length ≤ 100) :
    ∃ a c w', (Builtin.append_ #[22, 22] 22 #[u, .slice (some ⟨w.heap.size, 0, none⟩) 1 1]).run Tryd.prog (w.alloc (.cells (rowV 32 (arrV q)) 29)) = .ok (.slice a (P.length + 1) c) w' ∧ newSums w' w0.heap.size (.slice a (P.length + 1) c) (P ++ [q]) ∧ Below w0.heap.size w0 w' := by
  have ba : Below w.heap.size w (w.alloc (.cells (rowV 32 (arrV q)) 29)) := (Below.refl _ _).alloc (Nat.le_refl _) _
  have sz := hb.size
  obtain ⟨a, c, w', hr, hn, hg, _⟩ := sums_append _ w0.heap.size _ _ (hu.below ba (Nat.le_refl _)) _ _ (one_sum w q hq) (by simp; omega) (by simp; omega)
  exact ⟨a, c, w', hr, hn, (hb.trans (ba.mono sz)).trans (below_grown hg (fun j hj => (hu.block j hj).1) (by simp; omega))⟩
end Go.Proofs.YthpnenblmkdmcaaDoor

/- grow's way, inside, Steps. -/
namespace Go.Proofs.YthpnenblmkdmcaaDoor
set_option linter.unusedSimpArgs false
set_option linter.unusedVariables false
open Go.RowKit Go.Deep

theorem gRow_lt {w : World} {b t n : Nat} {f : Nat → Value} (h : w.rowIs b t n f) : b < w.heap.size := by
  obtain ⟨c, h, _⟩ := h; exact (Array.getElem?_eq_some_iff.1 h).1
theorem gRow_set0 {w : World} {b t : Nat} {f : Nat → Value} (h : w.rowIs b t 1 f) (v : Value) : (w.setCell ⟨b, 0, none⟩ v).rowIs b t 1 (fun _ => v) := (h.set 0 v).congr fun i hi => by
  have : i = 0 := by omega
  simp [this]
def stepC (x : Nat × Bool) : List Value := [.int .i64 (x.1 : Int), .bool x.2]
theorem stepC_len (x : Nat × Bool) : (stepC x).length = 2 := rfl
theorem stepsC_len : ∀ L : List (Nat × Bool), (L.flatMap stepC).length = L.length * 2
  | [] => rfl
  | x :: N => by rw [List.flatMap_cons, List.length_append, stepC_len, stepsC_len N, List.length_cons]; omega
theorem stepsC_get : ∀ (L : List (Nat × Bool)) (i : Nat) (x : Nat × Bool), L[i]? = some x → (L.flatMap stepC)[i * 2]? = some (.int .i64 (x.1 : Int)) ∧ (L.flatMap stepC)[i * 2 + 1]? = some (.bool x.2)
  | [], i, x, h => by simp at h
  | y :: N, 0, x, h => by
    have e : y = x := by simpa using h
    subst e
    rw [List.flatMap_cons]
    exact ⟨rfl, rfl⟩
  | y :: N, i + 1, x, h => by
    have := stepsC_get N i x (by simpa using h)
    rw [List.flatMap_cons, List.getElem?_append_right (by rw [stepC_len]; omega), List.getElem?_append_right (by rw [stepC_len]; omega), stepC_len, show (i + 1) * 2 - 2 = i * 2 by omega, show (i + 1) * 2 + 1 - 2 = i * 2 + 1 by omega]
    exact this
/-- v is a slice of these steps, in a block of its own from B on. -/
def newSteps (w : World) (B : Nat) (v : Value) (L : List (Nat × Bool)) : Prop := w.ownsRow B 51 2 v L.length (L.flatMap stepC)
theorem newSteps.nil (w : World) (B : Nat) : newSteps w B (.slice none 0 0) [] := ⟨rfl, Or.inl ⟨rfl, rfl⟩⟩
theorem newSteps.below {w w' : World} {B C : Nat} {v : Value} {L : List (Nat × Bool)} (h : newSteps w B v L) (hb : Below C w w') (hC : w.heap.size ≤ C) : newSteps w' B v L :=
  ownsRow_far h fun k hk => hb.block k (Nat.lt_of_lt_of_le (ownsRow_block h k hk).2 hC)
theorem newSteps.slice {w : World} {B : Nat} {v : Value} {L : List (Nat × Bool)} (h : newSteps w B v L) : ∃ a c, v = .slice a L.length c ∧ L.length ≤ c ∧ c ≤ maxLen ∧
    (0 < L.length → ∃ g, a = some ⟨g, 0, none⟩ ∧ g < w.heap.size ∧ B ≤ g ∧ ∀ (i : Nat) (x : Nat × Bool), L[i]? = some x → w.cell? ⟨g, i * 2, none⟩ = some (.int .i64 (x.1 : Int)) ∧ w.cell? ⟨g, i * 2 + 1, none⟩ = some (.bool x.2)) := by
  obtain ⟨a, c, rfl, h1, h2, h3⟩ := ownsRow_slice h
  refine ⟨a, c, rfl, h1, h2, fun h0 => ?_⟩
  obtain ⟨g, rfl, h4, h5, h6⟩ := h3 h0
  exact ⟨g, rfl, h4, h5, fun i x hx => ⟨h6 _ _ (stepsC_get L i x hx).1, h6 _ _ (stepsC_get L i x hx).2⟩⟩
theorem infoStep : (Tryd.prog.info? 51).map (fun i => (i.zero, i.size, i.bytes)) = some (some (.agg #[.int .i64 0, .bool false]), 2, 16) := by kernel_rfl
theorem step_append (w0 w : World) (v : Value) (L : List (Nat × Bool)) (x : Nat × Bool) (hv : newSteps w w0.heap.size v L) (hb : Below w0.heap.size w0 w) (hn : L.length < 100) :
    ∃ a c w', (Builtin.append_ #[47, 47] 47 #[v, .slice (some ⟨w.heap.size, 0, none⟩) 1 1]).run Tryd.prog (w.alloc (.cells #[.int .i64 (x.1 : Int), .bool x.2] 51)) = .ok (.slice a (L.length + 1) c) w' ∧
      newSteps w' w0.heap.size (.slice a (L.length + 1) c) (L ++ [x]) ∧ Below w0.heap.size w0 w' := by
  have ba : Below w.heap.size w (w.alloc (.cells #[.int .i64 (x.1 : Int), .bool x.2] 51)) := (Below.refl _ _).alloc (Nat.le_refl _) _
  have sz := hb.size
  have hr0 : (w.alloc (.cells #[.int .i64 (x.1 : Int), .bool x.2] 51)).rowIs w.heap.size 51 2 (fun i => if i = 0 then .int .i64 (x.1 : Int) else .bool x.2) :=
    rowIs_new w _ _ 2 _ rfl (fun i hi => by
      match i, hi with
      | 0, _ => rfl
      | 1, _ => rfl)
  obtain ⟨a', c', w', hr, ho, hg, hat⟩ := row_append (P := Tryd.prog) _ 47 47 51 _ 2 16 Tryd.underlying47 infoStep rfl (by omega)
    w0.heap.size v L.length _ (hv.below ba (Nat.le_refl _)) (.slice (some ⟨w.heap.size, 0, none⟩) 1 1) 1 (stepC x) rfl
    ⟨_, _, rfl, fun _ => ⟨w.heap.size, 0, rfl, fun j u hj => by
      have hjl : j < 2 := (List.getElem?_eq_some_iff.1 hj).1
      rw [Nat.zero_add, hr0.cell hjl]
      match j, hjl with
      | 0, _ => exact hj
      | 1, _ => exact hj⟩⟩
    (fun u hu => by
      rcases List.mem_cons.1 hu with rfl | hu
      · rfl
      · rw [List.mem_singleton.1 hu]; rfl) (by unfold maxLen; omega) (by omega) (by simp; omega)
  have hv2 : ∀ j, v.ownBlock = some j → w0.heap.size ≤ j := fun j hj => (ownsRow_block hv j hj).1
  exact ⟨a', c', w', hr, by unfold newSteps; rw [List.flatMap_append, List.flatMap_singleton, List.length_append, List.length_singleton]; exact ho, (hb.trans (ba.mono sz)).trans (below_grown hg hv2 (by simp; omega))⟩
set_option maxRecDepth 100000 in
set_option maxHeartbeats 1000000 in
theorem gway_any (m n : Int) (hm : -9223372036854775808 ≤ m ∧ m ≤ 9223372036854775807) (hn : -9223372036854775808 ≤ n ∧ n ≤ 9223372036854775807) (w : World) :
    Calls Tryd.prog 21 #[.int .i64 m, .int .i64 n] w fun e w' => ∃ v, e = .returned v ∧ newSteps w' w.heap.size v (gI m n) ∧ Below w.heap.size w w' := by
  by_cases h1 : m < 1
  · have E : Hid (gI m n = []) := (show _ from gI_no (by omega))
    go_enter Tryd.func21, Tryd.ntmps21
    go_wp2
    go_ret
    exact ⟨_, rfl, by rw [E.out]; exact newSteps.nil _ _, Below.refl _ _⟩
  · obtain ⟨Y, hY⟩ : ∃ Y, Y = gI m n := ⟨_, rfl⟩
    have hYl : Y.length ≤ 63 := by rw [hY]; exact gI_len m n hn.2
    have HY : Hid _ := hY
    have HYL : Hid _ := hYl
    have m0 : ¬ m < 1 := h1
    clear hY hYl
    go_enter Tryd.func21, Tryd.ntmps21
    go_wp2
    go_loopw [0, 1, 5] (fun x y v wr => ∃ (k : Nat) (a b : Int) (u : Value), x = .int .i64 a ∧ y = .int .i64 b ∧ u = v ∧ 1 ≤ a ∧ a ≤ 9223372036854775807 ∧ -9223372036854775808 ≤ b ∧ b ≤ 9223372036854775807 ∧ k ≤ Y.length ∧ Y.drop k = gI a b ∧ newSteps wr w.heap.size u (Y.take k) ∧ Below w.heap.size w wr) (fun _ y _ _ => (intOf y).toNat)
    case atStart =>
      exact ⟨0, m, n, _, rfl, rfl, rfl, by omega, by omega, by omega, by omega, Nat.zero_le _, by rw [List.drop_zero]; exact HY.out, by rw [List.take_zero]; exact newSteps.nil _ _, Below.refl _ _⟩
    case round =>
      obtain ⟨k, a, b, v, rfl, rfl, rfl, ha, ha2, hb1, hb2, hk, hdr, hv, hB⟩ := hrel
      by_cases hab : a < b
      · have hh := halfI_is (n := b) (by omega)
        have X := half_any b hb1 hb2 wr
        have hlt : k < Y.length := by
          by_cases e : k < Y.length
          · exact e
          · rw [List.drop_eq_nil_of_le (by omega)] at hdr
            by_cases hl : a ≤ halfI b
            · rw [gI_right ha hab hl] at hdr; cases hdr
            · rw [gI_left ha hab hl] at hdr; cases hdr
        have hcons := List.drop_eq_getElem_cons hlt
        obtain ⟨va, vc, hve, hvc, _, _⟩ := newSteps.slice hv
        rw [List.length_take, Nat.min_eq_left hk] at hve
        have hky : k < 100 := by have := HYL.out; omega
        have STEP := fun (x : Nat × Bool) (hx : Y[k] = x) => step_append w wr v (Y.take k) x hv hB (by rw [List.length_take]; omega)
        have TK := take_snoc Y k hlt
        subst hve
        rw [List.length_take, Nat.min_eq_left hk] at STEP
        have HTK : Hid _ := TK
        have HB2 : Hid _ := hB
        have HST : Hid _ := STEP
        have HCO : Hid _ := hcons
        by_cases hl : a ≤ halfI b
        · have E : Hid (Y[k] = ((halfI b).toNat, true) ∧ Y.drop (k + 1) = gI a (halfI b)) := (show _ from by
            rw [hdr, gI_right ha hab hl] at hcons
            exact ⟨(List.cons.inj hcons).1.symm, (List.cons.inj hcons).2.symm⟩)
          obtain ⟨h, hhe⟩ : ∃ h, h = halfI b := ⟨_, rfl⟩
          rw [← hhe] at E X hh hl
          obtain ⟨a9, c9, w9, hr9, n9, b9⟩ := HST.out _ E.out.1
          simp only [show ((h.toNat : Nat) : Int) = h from by omega] at hr9
          rw [← E.out.1, ← HTK.out] at n9
          have N9 : Hid _ := n9
          have B9 : Hid _ := b9
          have E2 : Hid _ := E.out.2
          clear hdr hcons TK STEP HST HCO HTK HB2 hv hB E hhe n9 b9
          go_wp2_with fail
          refine X.mono ?_
          rintro e w' ⟨rfl, hw⟩
          obtain rfl := hw.symm
          clear X hw
          go_wp2_with (first | (at_builtin; refine wpList_append_run rfl (.tmp 18) (.tmp 22) _ rfl rfl rfl hr9 ?_))
          go_roundw
          case rel => exact ⟨k + 1, a, h, _, rfl, rfl, rfl, ha, ha2, by omega, by omega, by omega, E2.out, N9.out, B9.out⟩
          case measure => simp [intOf]; omega
        · have E : Hid (Y[k] = ((halfI b).toNat, false) ∧ Y.drop (k + 1) = gI (a - halfI b) (b - halfI b)) := (show _ from by
            rw [hdr, gI_left ha hab hl] at hcons
            exact ⟨(List.cons.inj hcons).1.symm, (List.cons.inj hcons).2.symm⟩)
          obtain ⟨h, hhe⟩ : ∃ h, h = halfI b := ⟨_, rfl⟩
          rw [← hhe] at E X hh hl
          obtain ⟨a9, c9, w9, hr9, n9, b9⟩ := HST.out _ E.out.1
          simp only [show ((h.toNat : Nat) : Int) = h from by omega] at hr9
          have hdc : decide (a ≤ h) = false := decide_eq_false hl
          rw [← E.out.1, ← HTK.out] at n9
          have N9 : Hid _ := n9
          have B9 : Hid _ := b9
          have E2 : Hid _ := E.out.2
          clear hdr hcons TK STEP HST HCO HTK HB2 hv hB E hhe n9 b9
          go_wp2_with fail
          refine X.mono ?_
          rintro e w' ⟨rfl, hw⟩
          obtain rfl := hw.symm
          clear X hw
          go_wp2_with (first | (at_builtin; refine wpList_append_run rfl (.tmp 18) (.tmp 22) _ rfl rfl rfl hr9 ?_))
          go_roundw
          case rel => exact ⟨k + 1, a - h, b - h, _, rfl, rfl, rfl, by omega, by omega, by omega, by omega, by omega, E2.out, N9.out, B9.out⟩
          case measure => simp [intOf]; omega
      · have E : Hid (k = Y.length) := (show k = Y.length from by
          rw [gI_no (by omega)] at hdr
          have := List.drop_eq_nil_iff.1 hdr
          omega)
        rw [E.out, List.take_length] at hv
        have HV : Hid _ := hv
        have HB2 : Hid _ := hB
        obtain ⟨va, vc, rfl, _⟩ := newSteps.slice hv
        clear hdr hv hB
        go_wp2
        go_ret
        exact ⟨_, rfl, by rw [← HY.out]; exact HV.out, HB2.out⟩
theorem inside1_any (x : Nat × Bool) (w : World) : Calls Tryd.prog 37 #[.agg #[.int .i64 (x.1 : Int), .bool x.2]] w fun e w' => e = .returned (.bool (!x.2)) ∧ Below w.heap.size w w' := by
  have hB : Hid (Below w.heap.size w (w.alloc (.cells #[.int .i64 (x.1 : Int), .bool x.2] 51))) := (show Below w.heap.size w (w.alloc (.cells #[.int .i64 (x.1 : Int), .bool x.2] 51)) from (Below.refl _ _).alloc (Nat.le_refl _) _)
  obtain ⟨a, b⟩ := x
  go_enter Tryd.func37, Tryd.ntmps37
  go_wp2
  go_ret
  exact ⟨rfl, hB.out⟩
theorem any_take (L : List (Nat × Bool)) (i : Nat) (h : i < L.length) : gIn (L.take (i + 1)) = (gIn (L.take i) || !L[i].2) := by
  unfold gIn; rw [take_snoc L i h, List.any_append, List.any_cons, List.any_nil, Bool.or_false]
theorem any_at (L : List (Nat × Bool)) (i : Nat) (h : i < L.length) (h2 : (!L[i].2) = true) : gIn L = true := by
  unfold gIn; rw [List.any_eq_true]; exact ⟨L[i], List.getElem_mem _, h2⟩
set_option maxRecDepth 100000 in
set_option maxHeartbeats 1000000 in
theorem indexFunc_any (L : List (Nat × Bool)) (B : Nat) (v : Value) (w : World) (hv : newSteps w B v L) (hL : L.length ≤ 1000) :
    Calls Tryd.prog 49 #[v, .func (.func 37) #[] #[]] w fun e w' => ∃ z : Int, e = .returned (.int .i64 z) ∧ -1 ≤ z ∧ z ≤ 1000 ∧ (decide (z ≥ 0) = gIn L) ∧ Below w.heap.size w w' := by
  obtain ⟨va, vc, rfl, h1, h2, h3⟩ := newSteps.slice hv
  have HV : Hid _ := hv
  have H3 : Hid _ := h3
  have q0 : (L.length : Int) ≤ 1000 := by omega
  clear hv h3
  go_enter Tryd.func49, Tryd.ntmps49
  go_wp2
  go_loopw [8] (fun x wr => ∃ i : Nat, i ≤ L.length ∧ x = .int .i64 (i : Int) ∧ gIn (L.take i) = false ∧ Below w.heap.size w wr) (fun x _ => L.length - (intOf x).toNat)
  case atStart => exact ⟨0, Nat.zero_le _, rfl, by rw [List.take_zero]; rfl, Below.refl _ _⟩
  case round =>
    obtain ⟨i, hi, rfl, hin, hb⟩ := hrel
    by_cases hlt : i < L.length
    · obtain ⟨g, rfl, hg, _, hc⟩ := H3.out (by omega)
      obtain ⟨c1, c2⟩ := hc i L[i] (List.getElem?_eq_getElem hlt)
      have d1 := (hb.cell (p := ⟨g, i * 2, none⟩) hg).trans c1
      have d2 := (hb.cell (p := ⟨g, i * 2 + 1, none⟩) hg).trans c2
      have X := inside1_any L[i] wr
      have AT := any_take L i hlt
      have AN := any_at L i hlt
      rw [hin, Bool.false_or] at AT
      obtain ⟨y, hy⟩ : ∃ y, y = L[i] := ⟨_, rfl⟩
      rw [← hy] at X AT AN d1 d2
      obtain ⟨yn, yb⟩ := y
      have i0 : (0 : Int) ≤ (i : Int) := by omega
      have i1 : (i : Int) < (L.length : Int) := by omega
      have HB : Hid _ := hb
      have HAT : Hid _ := AT
      have HAN : Hid _ := AN
      simp only at d1 d2 X
      clear hc c1 c2 hin hb hy AT AN H3
      go_wp2_with fail
      refine X.mono ?_
      rintro e w' ⟨rfl, hb2⟩
      have HB2 : Hid (Below w.heap.size w w') := (show Below w.heap.size w w' from HB.out.trans (hb2.mono HB.out.size))
      clear X hb2 d1 d2
      cases yb with
      | true =>
        go_wp2
        go_roundw
        case rel => exact ⟨i + 1, by omega, by go_num, by rw [HAT.out]; rfl, HB2.out⟩
        case measure => simp [intOf]; omega
      | false =>
        go_wp2
        go_ret
        exact ⟨_, rfl, by omega, by omega, by rw [HAN.out rfl]; simp, HB2.out⟩
    · have E : Hid (gIn L = false) := (show gIn L = false from by rw [← hin, List.take_of_length_le (by omega)])
      have HB : Hid _ := hb
      obtain rfl : i = L.length := by omega
      clear hin hb
      go_wp2
      go_ret
      exact ⟨_, rfl, by omega, by omega, by rw [E.out]; rfl, HB.out⟩
theorem inside_any (L : List (Nat × Bool)) (B : Nat) (v : Value) (w : World) (hv : newSteps w B v L) (hL : L.length ≤ 1000) :
    Calls Tryd.prog 22 #[v] w fun e w' => e = .returned (.bool (gIn L)) ∧ Below w.heap.size w w' := by
  have X := indexFunc_any L B v w hv hL
  have Y : Calls Tryd.prog 36 #[v, .func (.func 37) #[] #[]] w fun e w' => e = .returned (.bool (gIn L)) ∧ Below w.heap.size w w' := by
    clear hv
    go_enter Tryd.func36, Tryd.ntmps36
    go_wp2_with fail
    refine X.mono ?_
    rintro e w' ⟨z, rfl, _, _, hz, hb⟩
    have HB : Hid _ := hb
    have HZ : Hid _ := hz
    clear X hb hz
    go_wp2
    go_ret
    exact ⟨by rw [← HZ.out]; rfl, HB.out⟩
  clear X hv
  go_enter Tryd.func22, Tryd.ntmps22
  go_wp2_with fail
  refine Y.mono ?_
  rintro e w' ⟨rfl, hb⟩
  have HB : Hid _ := hb
  clear Y hb
  go_wp2
  go_ret
  exact ⟨rfl, HB.out⟩
theorem steps_any (m n : Int) (hm : -9223372036854775808 ≤ m ∧ m ≤ 9223372036854775807) (hn : -9223372036854775808 ≤ n ∧ n ≤ 9223372036854775807) (w : World) :
    Calls Tryd.prog 13 #[.int .i64 m, .int .i64 n] w fun e w' => e = .returned (.int .i64 (gSteps m n)) ∧ Below w.heap.size w w' := by
  have X := gway_any m n hm hn w
  have hl := gI_len m n hn.2
  have E : Hid (gSteps m n = ((gI m n).length : Int) + if gIn (gI m n) = true then 1 else 0) := (show gSteps m n = ((gI m n).length : Int) + if gIn (gI m n) = true then 1 else 0 from rfl)
  generalize gI m n = L at X hl E
  have q0 : (L.length : Int) ≤ 63 := by omega
  go_enter Tryd.func13, Tryd.ntmps13
  go_wp2_with fail
  refine X.mono ?_
  rintro e w1 ⟨v, rfl, hv, hb⟩
  have Y := inside_any L _ v w1 hv (by omega)
  obtain ⟨va, vc, rfl, _⟩ := newSteps.slice hv
  have HB : Hid _ := hb
  clear X hv hb
  cases hin : gIn L with
  | true =>
    rw [hin] at Y
    have E2 : Hid (gSteps m n = (L.length : Int) + 1) := (show gSteps m n = (L.length : Int) + 1 from by rw [E.out, hin]; rfl)
    clear hin E
    go_wp2_with fail
    refine Y.mono ?_
    rintro e w2 ⟨rfl, hb2⟩
    have HB2 : Hid (Below w.heap.size w w2) := (show Below w.heap.size w w2 from HB.out.trans (hb2.mono HB.out.size))
    clear Y hb2
    go_wp2
    go_ret
    exact ⟨by rw [E2.out]; rfl, HB2.out⟩
  | false =>
    rw [hin] at Y
    have E2 : Hid (gSteps m n = (L.length : Int)) := (show gSteps m n = (L.length : Int) from by rw [E.out, hin]; simp)
    clear hin E
    go_wp2_with fail
    refine Y.mono ?_
    rintro e w2 ⟨rfl, hb2⟩
    have HB2 : Hid (Below w.heap.size w w2) := (show Below w.heap.size w w2 from HB.out.trans (hb2.mono HB.out.size))
    clear Y hb2
    go_wp2
    go_ret
    exact ⟨by rw [E2.out]; rfl, HB2.out⟩
end Go.Proofs.YthpnenblmkdmcaaDoor

/- slices.Backward, over steps and over rows of sums. -/
namespace Go.Proofs.YthpnenblmkdmcaaDoor
open Go.RowKit Go.Shelf
set_option linter.unusedSimpArgs false
set_option linter.unusedVariables false
attribute [local go_sem] Oper.semAt_some

theorem zipRev_len {α : Type} (L : List α) : L.zipIdx.reverse.length = L.length := by simp
theorem zipRev_get {α : Type} (L : List α) (k : Nat) (hk : k < L.zipIdx.reverse.length) : L[L.length - 1 - k]? = some (L.zipIdx.reverse[k]).1 ∧ (L.zipIdx.reverse[k]).2 = L.length - 1 - k := by
  have h1 := zipRev_len L
  rw [List.getElem_reverse, List.getElem_zipIdx]
  simp only [List.length_zipIdx]
  refine ⟨List.getElem?_eq_getElem (by omega), by omega⟩
/-- a box of a slice of steps, and these. -/
def stepsIn (bx : Nat) (a : Option Addr) (c : Nat) (L : List (Nat × Bool)) (W : World) : Prop := W.cell? ⟨bx, 0, none⟩ = some (.slice a L.length c) ∧
  (0 < L.length → ∃ g, a = some ⟨g, 0, none⟩ ∧ ∀ (i : Nat) (x : Nat × Bool), L[i]? = some x → W.cell? ⟨g, i * 2, none⟩ = some (.int .i64 (x.1 : Int)) ∧ W.cell? ⟨g, i * 2 + 1, none⟩ = some (.bool x.2))
def backSV (y : (Nat × Bool) × Nat) : Array Value := #[.int .i64 (y.2 : Int), .agg #[.int .i64 (y.1.1 : Int), .bool y.1.2]]
set_option maxRecDepth 100000 in
set_option maxHeartbeats 2000000 in
theorem backS_hands (n bx : Nat) (a : Option Addr) (c : Nat) (L : List (Nat × Bool)) (w : World) (hL : L.length ≤ 1000) (hc : L.length ≤ c) :
    handsR n Tryd.prog 50 #[.pointer (some ⟨bx, 0, none⟩)] backSV L.zipIdx.reverse w (stepsIn bx a c L) := by
  intro l J W hW hd hR h0 hY
  obtain ⟨cB, _⟩ := hR 0 W h0
  have h1 := zipRev_len L
  have hG := zipRev_get L
  revert hY h1 hG
  generalize L.zipIdx.reverse = Y
  intro hY h1 hG
  have HY : Hid _ := hY
  have HR : Hid _ := hR
  have HG : Hid _ := hG
  have J0 : Hid _ := h0
  have H1 : Hid _ := h1
  have q0 : (L.length : Int) ≤ 1000 := by omega
  have q1 : IntKind.wrap .i64 ((L.length : Int) - 1) = (L.length : Int) - 1 := IntWalk.i64_in _ ⟨by omega, by omega⟩
  clear hY hR h0 hG h1
  refine callsIn_of_wp Tryd.func50 rfl trivial ?_ rfl
  simp only [Tryd.ntmps50, List.size_toArray, List.length_cons, List.length_nil, Nat.reduceAdd, Nat.reduceSub, Array.replicate_succ, Array.replicate_zero, List.push_toArray, List.append_toArray, List.nil_append, List.cons_append]
  gi_wp2
  gi_loopw [3] (fun x wr => ∃ k : Nat, k ≤ L.length ∧ x = .int .i64 ((L.length : Int) - 1 - (k : Int)) ∧ J k wr) (fun x _ => (intOf x + 1).toNat)
  case atStart => exact ⟨0, Nat.zero_le _, by simp, J0.out⟩
  case round =>
    obtain ⟨k, hk, rfl, hJ⟩ := hrel
    clear J0 cB
    by_cases h2 : k < L.length
    · obtain ⟨cB, hcl0⟩ := HR.out k wr hJ
      obtain ⟨g, rfl, hcl⟩ := hcl0 (by omega)
      have hlt : k < Y.length := by have := H1.out; omega
      obtain ⟨gx, gi⟩ := HG.out k hlt
      obtain ⟨d1, d2⟩ := hcl (L.length - 1 - k) _ gx
      obtain ⟨fn, tmps, assign, body, hy, hRo⟩ := HY.out k hlt wr hJ
      generalize Y[k] = y at hy d1 d2 gx gi
      obtain ⟨⟨xn, xb⟩, i⟩ := y
      simp only at gi d1 d2
      rw [← gi] at d1 d2
      have hie : ((L.length : Int) - 1 - (k : Int)) = (i : Int) := by omega
      rw [hie]
      have hy' : (Instr.yield l #[.int .i64 (i : Int), .agg #[.int .i64 (xn : Int), .bool xb]]).run Tryd.prog wr = .ok (.round l fn tmps assign body) wr := hy
      have i0 : (0 : Int) ≤ (i : Int) := by omega
      have i1 : (i : Int) < (L.length : Int) := by omega
      have q2 : IntKind.wrap .i64 ((i : Int) - 1) = (i : Int) - 1 := IntWalk.i64_in _ ⟨by omega, by omega⟩
      have HIE : Hid _ := hie
      clear gx gi hie hy hcl hcl0
      gi_wp2
      refine ⟨fun h => absurd h (by simp [Fence.wide]), hRo.mono ?_⟩
      rintro e W3 ⟨rfl, hJ3⟩
      gi_wp2
      go_roundw
      case rel => exact ⟨k + 1, by omega, by have := HIE.out; congr 1; omega, hJ3⟩
      case measure => first | (simp [intOf]; done) | (simp [intOf]; omega)
    · obtain rfl : k = L.length := by omega
      have HJ : Hid (J Y.length wr) := (show J Y.length wr from H1.out ▸ hJ)
      have hie : ((L.length : Int) - 1 - (L.length : Int)) = -1 := by omega
      rw [hie]
      clear hJ
      gi_wp2
      go_end0
      exact ⟨⟨_, rfl⟩, HJ.out⟩
/-- a box of a slice of slices, and these. -/
def slsIn (bx : Nat) (a : Option Addr) (c : Nat) (L : List Value) (W : World) : Prop := W.cell? ⟨bx, 0, none⟩ = some (.slice a L.length c) ∧
  (0 < L.length → ∃ g, a = some ⟨g, 0, none⟩ ∧ ∀ (i : Nat) (x : Value), L[i]? = some x → W.cell? ⟨g, i, none⟩ = some x)
def backLV (y : Value × Nat) : Array Value := #[.int .i64 (y.2 : Int), y.1]
set_option maxRecDepth 100000 in
set_option maxHeartbeats 2000000 in
theorem backL_hands (n bx : Nat) (a : Option Addr) (c : Nat) (L : List Value) (w : World) (hL : L.length ≤ 1000) (hc : L.length ≤ c) :
    handsR n Tryd.prog 38 #[.pointer (some ⟨bx, 0, none⟩)] backLV L.zipIdx.reverse w (slsIn bx a c L) := by
  intro l J W hW hd hR h0 hY
  obtain ⟨cB, _⟩ := hR 0 W h0
  have h1 := zipRev_len L
  have hG := zipRev_get L
  revert hY h1 hG
  generalize L.zipIdx.reverse = Y
  intro hY h1 hG
  have HY : Hid _ := hY
  have HR : Hid _ := hR
  have HG : Hid _ := hG
  have J0 : Hid _ := h0
  have H1 : Hid _ := h1
  have q0 : (L.length : Int) ≤ 1000 := by omega
  have q1 : IntKind.wrap .i64 ((L.length : Int) - 1) = (L.length : Int) - 1 := IntWalk.i64_in _ ⟨by omega, by omega⟩
  clear hY hR h0 hG h1
  refine callsIn_of_wp Tryd.func38 rfl trivial ?_ rfl
  simp only [Tryd.ntmps38, List.size_toArray, List.length_cons, List.length_nil, Nat.reduceAdd, Nat.reduceSub, Array.replicate_succ, Array.replicate_zero, List.push_toArray, List.append_toArray, List.nil_append, List.cons_append]
  gi_wp2
  gi_loopw [3] (fun x wr => ∃ k : Nat, k ≤ L.length ∧ x = .int .i64 ((L.length : Int) - 1 - (k : Int)) ∧ J k wr) (fun x _ => (intOf x + 1).toNat)
  case atStart => exact ⟨0, Nat.zero_le _, by simp, J0.out⟩
  case round =>
    obtain ⟨k, hk, rfl, hJ⟩ := hrel
    clear J0 cB
    by_cases h2 : k < L.length
    · obtain ⟨cB, hcl0⟩ := HR.out k wr hJ
      obtain ⟨g, rfl, hcl⟩ := hcl0 (by omega)
      have hlt : k < Y.length := by have := H1.out; omega
      obtain ⟨gx, gi⟩ := HG.out k hlt
      have d1 := hcl (L.length - 1 - k) _ gx
      obtain ⟨fn, tmps, assign, body, hy, hRo⟩ := HY.out k hlt wr hJ
      generalize Y[k] = y at hy d1 gx gi
      obtain ⟨x, i⟩ := y
      simp only at gi d1
      rw [← gi] at d1
      have hie : ((L.length : Int) - 1 - (k : Int)) = (i : Int) := by omega
      rw [hie]
      have hy' : (Instr.yield l #[.int .i64 (i : Int), x]).run Tryd.prog wr = .ok (.round l fn tmps assign body) wr := hy
      have i0 : (0 : Int) ≤ (i : Int) := by omega
      have i1 : (i : Int) < (L.length : Int) := by omega
      have q2 : IntKind.wrap .i64 ((i : Int) - 1) = (i : Int) - 1 := IntWalk.i64_in _ ⟨by omega, by omega⟩
      have HIE : Hid _ := hie
      clear gx gi hie hy hcl hcl0
      gi_wp2
      refine ⟨fun h => absurd h (by simp [Fence.wide]), hRo.mono ?_⟩
      rintro e W3 ⟨rfl, hJ3⟩
      gi_wp2
      go_roundw
      case rel => exact ⟨k + 1, by omega, by have := HIE.out; congr 1; omega, hJ3⟩
      case measure => first | (simp [intOf]; done) | (simp [intOf]; omega)
    · obtain rfl : k = L.length := by omega
      have HJ : Hid (J Y.length wr) := (show J Y.length wr from H1.out ▸ hJ)
      have hie : ((L.length : Int) - 1 - (L.length : Int)) = -1 := by omega
      rw [hie]
      clear hJ
      gi_wp2
      go_end0
      exact ⟨⟨_, rfl⟩, HJ.out⟩
end Go.Proofs.YthpnenblmkdmcaaDoor

/- tree.Root: by no book, by a book. -/
namespace Go.Proofs.YthpnenblmkdmcaaDoor
set_option linter.unusedSimpArgs false
set_option linter.unusedVariables false
open Go.RowKit Go.Deep

theorem callsR_more {n h : Nat} (h0 : 1 ≤ h) (h1 : h < n) : callsR n = callsR h + callsR (n - h) + 1 := by unfold callsR; rw [if_neg (by omega), if_neg (by omega), if_neg (by omega)]; omega
theorem rootNF_length : ∀ (n : Nat) (N : List Nt) (L : List (List Int)), L.length ≤ n → (rootNF n N L).length ≤ N.length + L.length + 1 ∧ (1 ≤ L.length → (rootNF n N L).length + 1 ≤ N.length + L.length)
  | 0, N, L, h => by
    rw [rootNF]; have := addN_len N (nodeS [], nodeT []); omega
  | n + 1, N, L, h => by
    rw [rootNF]
    by_cases e0 : L.length = 0
    · rw [if_pos e0]; have := addN_len N (nodeS [], nodeT []); omega
    · by_cases e1 : L.length = 1
      · rw [if_neg e0, if_pos e1]; omega
      · have ht := half_take (L := L) (by omega)
        rw [if_neg e0, if_neg e1]
        have h1 := rootNF_length n N (L.take (halfN L.length)) (by omega)
        have h2 := rootNF_length n (rootNF n N (L.take (halfN L.length))) (L.drop (halfN L.length)) (by omega)
        have h3 := addN_len (rootNF n (rootNF n N (L.take (halfN L.length))) (L.drop (halfN L.length))) (nodeS [rootS (L.take (halfN L.length)), rootS (L.drop (halfN L.length))], nodeT [rootS (L.take (halfN L.length)), rootS (L.drop (halfN L.length))])
        omega
theorem rootN_length (N : List Nt) (L : List (List Int)) : (rootN N L).length ≤ N.length + L.length + 1 := (rootNF_length _ N L (Nat.le_refl _)).1
theorem tabIs.far {w w' : World} (h : tabIs w) (hb : w'.heap[0]? = w.heap[0]?) (hs : w.heap.size ≤ w'.heap.size) : tabIs w' := ⟨Nat.lt_of_lt_of_le h.1 hs, fun i hi => (World.cell?_of_block (a := ⟨0, i, none⟩) hb).trans (h.2 i hi)⟩
theorem sumsAt.far {w w' : World} {v : Value} {L : List (List Int)} (h : sumsAt w v L) (hb : 0 < L.length → ∀ k, v.ownBlock = some k → k < w.heap.size → w'.heap[k]? = w.heap[k]?) (hs : w.heap.size ≤ w'.heap.size) : sumsAt w' v L := by
  obtain ⟨h1, a, cap, rfl, h3, h4, h5⟩ := h
  refine ⟨h1, a, cap, rfl, h3, h4, fun h0 => ?_⟩
  obtain ⟨g, o, rfl, hg, hc⟩ := h5 h0
  exact ⟨g, o, rfl, Nat.lt_of_lt_of_le hg hs, fun i hi j hj => (World.cell?_of_block (a := ⟨g, o + i * 32 + j, none⟩) (hb h0 g rfl hg)).trans (hc i hi j hj)⟩
theorem sumsAt.to' {w : World} {v : Value} {L : List (List Int)} (h : sumsAt w v L) (n : Nat) (hn : n < L.length) :
    ∃ u, (∀ wz : World, (Instr.slice 22 v none (some (.int .i64 n)) none).run Tryd.prog wz = .ok u wz) ∧ sumsAt w u (L.take n) ∧ u.ownBlock = v.ownBlock ∧ ∃ x y, u = .slice x n y := by
  obtain ⟨h1, a, cap, rfl, h3, h4, h5⟩ := h
  obtain ⟨g, o, rfl, hg, hc⟩ := h5 (by omega)
  have hl : (L.take n).length = n := by simp; omega
  refine ⟨_, fun wz => run_slice_to32 22 29 g o L.length cap n Tryd.underlying22 (by kernel_rfl) (by omega) wz, ⟨fun x hx => h1 x (List.mem_of_mem_take hx), _, cap, by rw [hl], by omega, h4, fun _ => ⟨g, o, rfl, hg, fun i hi j hj => ?_⟩⟩, rfl, _, _, rfl⟩
  rw [List.getElem_take]; exact hc i (by omega) j hj
theorem sumsAt.from' {w : World} {v : Value} {L : List (List Int)} (h : sumsAt w v L) (n : Nat) (hn : n < L.length) :
    ∃ u, (∀ wz : World, (Instr.slice 22 v (some (.int .i64 n)) none none).run Tryd.prog wz = .ok u wz) ∧ sumsAt w u (L.drop n) ∧ u.ownBlock = v.ownBlock ∧ ∃ x y, u = .slice x (L.length - n) y := by
  obtain ⟨h1, a, cap, rfl, h3, h4, h5⟩ := h
  obtain ⟨g, o, rfl, hg, hc⟩ := h5 (by omega)
  have hl : (L.drop n).length = L.length - n := by simp
  refine ⟨_, fun wz => run_slice_from32 22 29 g o L.length cap n Tryd.underlying22 (by kernel_rfl) (by omega) (by omega) wz, ⟨fun x hx => h1 x (List.mem_of_mem_drop hx), _, cap - n, by rw [hl], by omega, by omega, fun _ => ⟨g, o + n * 32, rfl, hg, fun i hi j hj => ?_⟩⟩, rfl, _, _, rfl⟩
  rw [List.getElem_drop, show o + n * 32 + i * 32 + j = o + (n + i) * 32 + j by omega]
  exact hc (n + i) (by omega) j hj
set_option maxHeartbeats 2000000 in
set_option maxRecDepth 100000 in
theorem root_nil_small (L : List (List Int)) (v : Value) (w : World) (hn : L.length ≤ 1) (h : sumsAt w v L) (ht : tabIs w) :
    Calls Tryd.prog 18 #[.pointer none, v] w fun e w' => e = .returned (sumV (rootS L)) ∧ Below w.heap.size w w' := by
  have hz32 := zero_s32
  obtain ⟨w1, hw1⟩ : ∃ w1, w1 = w.alloc (.cells (rowV 32 (fun _ => .int .u8 0)) 29) := ⟨_, rfl⟩
  have r1 : w1.rowIs w.heap.size 29 32 (fun _ => .int .u8 0) := by rw [hw1]; exact rowIs_box w _ _ _
  have b1 : Below w.heap.size w w1 := by rw [hw1]; exact (Below.refl _ _).alloc (Nat.le_refl _) _
  have s1 : w1.heap.size = w.heap.size + 1 := by rw [hw1]; simp
  by_cases h0 : L.length = 0
  · have X := node_nil [] (.slice none 0 0) w1 (sumsAt.nil w1) (by simp) (ht.below b1 ht.1)
    have ES := rootS_none h0
    rw [← ES] at X
    unfold sumV at X ⊢
    have HES : Hid _ := ES
    clear ES
    obtain ⟨_, a, cap, rfl, _, _, _⟩ := h
    rw [h0]
    go_enter Tryd.func18, Tryd.ntmps18
    go_upto_region 1 with fail
    rw [← hw1]
    have S1 : Hid _ := s1
    clear hw1 hz32 s1
    go_wp2_with fail
    refine X.mono ?_
    rintro e wx ⟨rfl, bx⟩
    clear X
    have s1 := S1.out
    have sx := bx.size
    have rx := bx.row r1 (by omega)
    have BX : Hid _ := b1.trans (bx.mono (by omega))
    clear bx s1 r1
    go_wp2_with (first | (refine wpList_store_row rfl 29 _ _ rfl rfl w.heap.size 0 32 (arrV (rootS L)) rfl rfl hi32' (fun _ _ => rfl) _ _ _ rx (by omega) ?_; intro w6 r6 hz6 hb6))
    exact bodyPost_ret (results_cell_seg rfl _ _ w.heap.size 29 32 (arrV (rootS L)) _ rfl Tryd.underlying29 rfl hi32' (r6.congr fun i hi => by rw [if_pos (by omega), Nat.sub_zero])) rfl ⟨rfl, BX.out.trans (hb6.below' (Nat.le_refl _) (Below.size BX.out))⟩
  · have h1 : L.length = 1 := by omega
    have ES : rootS L = L[0] := by rw [rootS_one h1, List.getD_eq_getElem?_getD, List.getElem?_eq_getElem (by omega)]; rfl
    obtain ⟨hs, a, cap, rfl, hc1, hm1, hcl⟩ := h
    obtain ⟨g, o, rfl, hg, hcell⟩ := hcl (by omega)
    have ld : ∀ j, j < 32 → w1.cell? ⟨g, o + j, none⟩ = some (arrV (rootS L) j) := fun j hj => by
      have := hcell 0 (by omega) j hj
      rw [show o + 0 * 32 + j = o + j by omega] at this
      rw [b1.cell (p := ⟨g, o + j, none⟩) hg, this, ES]
    have LD : Hid _ := ld
    clear ld hcell hcl hs ES
    rw [h1]
    unfold sumV
    go_enter Tryd.func18, Tryd.ntmps18
    go_upto_region 1 with fail
    rw [← hw1]
    have S1 : Hid _ := s1
    clear hw1 hz32 s1
    go_wp2_with (first | (refine wpList_load_seg rfl 29 _ rfl g o 32 (arrV (rootS L)) rfl _ Tryd.underlying29 rfl hi32' LD.out ?_) | (refine wpList_store_row rfl 29 _ _ rfl rfl w.heap.size 0 32 (arrV (rootS L)) rfl rfl hi32' (fun _ _ => rfl) _ _ _ r1 (by omega) ?_; intro w6 r6 hz6 hb6))
    have s1 := S1.out
    exact bodyPost_ret (results_cell_seg rfl _ _ w.heap.size 29 32 (arrV (rootS L)) _ rfl Tryd.underlying29 rfl hi32' (r6.congr fun i hi => by rw [if_pos (by omega), Nat.sub_zero])) rfl ⟨rfl, b1.trans (hb6.below' (Nat.le_refl _) (by omega))⟩
set_option maxHeartbeats 2000000 in
set_option maxRecDepth 100000 in
theorem root_book_small (F : Nat → Prop) (k : Nat) (N : List Nt) (c : Int) (L : List (List Int)) (v : Value) (w : World) (hn : L.length ≤ 1) (hk : bookAt w F k N c) (h : sumsAt w v L) (ht : tabIs w) (hF0 : ¬ F 0) (hN : N.length + L.length < 100000) (hc : 0 ≤ c ∧ c + (L.length : Int) < 100000000) :
    Calls Tryd.prog 18 #[.pointer (some ⟨k, 0, none⟩), v] w fun e w' => e = .returned (sumV (rootS L)) ∧ bookAt w' (Gr F w w') k (rootN N L) (c + callsR L.length) ∧ Fr F w w' := by
  have hz32 := zero_s32
  obtain ⟨w1, hw1⟩ : ∃ w1, w1 = w.alloc (.cells (rowV 32 (fun _ => .int .u8 0)) 29) := ⟨_, rfl⟩
  have r1 : w1.rowIs w.heap.size 29 32 (fun _ => .int .u8 0) := by rw [hw1]; exact rowIs_box w _ _ _
  have b1 : Below w.heap.size w w1 := by rw [hw1]; exact (Below.refl _ _).alloc (Nat.le_refl _) _
  have s1 : w1.heap.size = w.heap.size + 1 := by rw [hw1]; simp
  have hlt := hk.2.1
  have hFw : ¬ F w.heap.size := fun hf => by have := hlt _ hf; omega
  have K1 := hk.below b1 (Nat.le_refl _)
  by_cases h0 : L.length = 0
  · have X := node_book F k N c [] (.slice none 0 0) w1 K1 (sumsAt.nil w1) (by simp) (ht.below b1 ht.1) hF0 (by omega) ⟨hc.1, by omega⟩
    have ES := rootS_none h0
    rw [← ES] at X
    unfold sumV at X ⊢
    have HES : Hid _ := ES
    have EN : Hid _ := rootN_none N h0
    have EC : Hid (callsR L.length = 1) := (show callsR L.length = 1 from by unfold callsR; rw [if_pos h0])
    clear ES
    obtain ⟨_, a, cap, rfl, _, _, _⟩ := h
    rw [h0]
    go_enter Tryd.func18, Tryd.ntmps18
    go_upto_region 1 with fail
    rw [← hw1]
    have S1 : Hid _ := s1
    clear hw1 hz32 s1
    go_wp2_with fail
    refine X.mono ?_
    rintro e wx ⟨rfl, kx, fx⟩
    clear X
    have s1 := S1.out
    have sx := fx.size
    have rx : wx.rowIs w.heap.size 29 32 (fun _ => .int .u8 0) := World.rowIs.of_block r1 (fx.block _ (by omega) hFw)
    have KX : Hid _ := kx
    have FX : Hid _ := fx
    clear kx fx s1 r1
    go_wp2_with (first | (refine wpList_store_row rfl 29 _ _ rfl rfl w.heap.size 0 32 (arrV (rootS L)) rfl rfl hi32' (fun _ _ => rfl) _ _ _ rx (by omega) ?_; intro w6 r6 hz6 hb6))
    have s1 := S1.out
    refine bodyPost_ret (results_cell_seg rfl _ _ w.heap.size 29 32 (arrV (rootS L)) _ rfl Tryd.underlying29 rfl hi32' (r6.congr fun i hi => by rw [if_pos (by omega), Nat.sub_zero])) rfl ⟨rfl, ?_, ?_⟩
    · rw [EN.out, show callsR 0 = 1 from rfl, ← HES.out]
      refine (bookAt.far KX.out (fun j hj hl => hb6.block j hl (fun e => ?_)) (by omega)).grow (fun j hj => ?_) (fun j hj => ?_)
      · rcases hj with hj | hj
        · exact hFw (e ▸ hj)
        · omega
      · rcases hj with hj | hj
        · exact Or.inl hj
        · exact Or.inr ⟨by omega, by omega⟩
      · rcases hj with hj | hj
        · have := hlt j hj; omega
        · exact hj.2
    · exact ((Fr.of_below F b1).trans FX.out (fun _ _ h => h)).trans (G := fun j => j = w.heap.size) ⟨hb6.os, hb6.tape, hb6.output, by omega, fun j hj hne => hb6.block j hj hne⟩ (fun j hj e => by omega)
  · have h1 : L.length = 1 := by omega
    have ES : rootS L = L[0] := by rw [rootS_one h1, List.getD_eq_getElem?_getD, List.getElem?_eq_getElem (by omega)]; rfl
    obtain ⟨hs, a, cap, rfl, hc1, hm1, hcl⟩ := h
    obtain ⟨g, o, rfl, hg, hcell⟩ := hcl (by omega)
    have ld : ∀ j, j < 32 → w1.cell? ⟨g, o + j, none⟩ = some (arrV (rootS L) j) := fun j hj => by
      have := hcell 0 (by omega) j hj
      rw [show o + 0 * 32 + j = o + j by omega] at this
      rw [b1.cell (p := ⟨g, o + j, none⟩) hg, this, ES]
    have LD : Hid _ := ld
    have EN : Hid _ := rootN_one N h1
    have EC : Hid (callsR L.length = 0) := (show callsR L.length = 0 from by unfold callsR; rw [h1]; rfl)
    clear ld hcell hcl hs ES
    rw [h1]
    unfold sumV
    go_enter Tryd.func18, Tryd.ntmps18
    go_upto_region 1 with fail
    rw [← hw1]
    have S1 : Hid _ := s1
    clear hw1 hz32 s1
    go_wp2_with (first | (refine wpList_load_seg rfl 29 _ rfl g o 32 (arrV (rootS L)) rfl _ Tryd.underlying29 rfl hi32' LD.out ?_) | (refine wpList_store_row rfl 29 _ _ rfl rfl w.heap.size 0 32 (arrV (rootS L)) rfl rfl hi32' (fun _ _ => rfl) _ _ _ r1 (by omega) ?_; intro w6 r6 hz6 hb6))
    have s1 := S1.out
    refine bodyPost_ret (results_cell_seg rfl _ _ w.heap.size 29 32 (arrV (rootS L)) _ rfl Tryd.underlying29 rfl hi32' (r6.congr fun i hi => by rw [if_pos (by omega), Nat.sub_zero])) rfl ⟨rfl, ?_, ?_⟩
    · rw [EN.out, show callsR 1 = 0 from rfl, Int.add_zero]
      refine (bookAt.far K1 (fun j hj hl => hb6.block j hl (fun e => hFw (e ▸ hj))) (by omega)).grow (fun j hj => Or.inl hj) (fun j hj => ?_)
      rcases hj with hj | hj
      · have := hlt j hj; omega
      · exact hj.2
    · exact (Fr.of_below F b1).trans (G := fun j => j = w.heap.size) ⟨hb6.os, hb6.tape, hb6.output, by omega, fun j hj hne => hb6.block j hj hne⟩ (fun j hj e => by omega)
end Go.Proofs.YthpnenblmkdmcaaDoor

/- tree.Root: of two leaves and more. -/
namespace Go.Proofs.YthpnenblmkdmcaaDoor
set_option linter.unusedSimpArgs false
set_option linter.unusedVariables false
open Go.RowKit Go.Deep

set_option maxHeartbeats 4000000 in
set_option maxRecDepth 100000 in
theorem root_book : ∀ (n : Nat) (F : Nat → Prop) (k : Nat) (N : List Nt) (c : Int) (L : List (List Int)) (v : Value) (w : World), L.length ≤ n → n ≤ 1000 → bookAt w F k N c → sumsAt w v L → (0 < L.length → ∀ j, v.ownBlock = some j → ¬ F j) → tabIs w → ¬ F 0 → N.length + L.length < 100000 → (0 ≤ c ∧ c + (L.length : Int) < 100000000) →
    Calls Tryd.prog 18 #[.pointer (some ⟨k, 0, none⟩), v] w fun e w' => e = .returned (sumV (rootS L)) ∧ bookAt w' (Gr F w w') k (rootN N L) (c + callsR L.length) ∧ Fr F w w' := by
  intro n
  induction n with
  | zero =>
    intro F k N c L v w hn h1000 hk h hvF ht hF0 hN hc
    exact root_book_small F k N c L v w (by omega) hk h ht hF0 hN hc
  | succ n ih =>
  intro F k N c L v w hn h1000 hk h hvF ht hF0 hN hc
  by_cases hsm : L.length ≤ 1
  · exact root_book_small F k N c L v w hsm hk h ht hF0 hN hc
  have h2 : 2 ≤ L.length := by omega
  have hh := half_take h2
  have hz32 := zero_s32
  obtain ⟨w1, hw1⟩ : ∃ w1, w1 = w.alloc (.cells (rowV 32 (fun _ => .int .u8 0)) 29) := ⟨_, rfl⟩
  have r1 : w1.rowIs w.heap.size 29 32 (fun _ => .int .u8 0) := by rw [hw1]; exact rowIs_box w _ _ _
  have b1 : Below w.heap.size w w1 := by rw [hw1]; exact (Below.refl _ _).alloc (Nat.le_refl _) _
  have s1 : w1.heap.size = w.heap.size + 1 := by rw [hw1]; simp
  have X1 := half_any (L.length : Int) (by omega) (by omega) w1
  obtain ⟨ua, ra, sa, oa, xa, ya, rfl⟩ := h.to' (halfN L.length) (by omega)
  obtain ⟨ub, rb, sb, ob, xb, yb, rfl⟩ := h.from' (halfN L.length) (by omega)
  have hvl : ∀ j, v.ownBlock = some j → j < w.heap.size := by
    obtain ⟨_, a, cap, rfl, _, _, h5⟩ := h
    obtain ⟨g, o, rfl, hg, _⟩ := h5 (by omega)
    intro j hj
    have : g = j := by simpa [Value.ownBlock] using hj
    omega
  obtain ⟨TL, hTL⟩ : ∃ TL, TL = L.take (halfN L.length) := ⟨_, rfl⟩
  obtain ⟨DL, hDL⟩ : ∃ DL, DL = L.drop (halfN L.length) := ⟨_, rfl⟩
  have ES : rootS L = nodeS [rootS TL, rootS DL] := by rw [hTL, hDL]; exact rootS_more h2
  have hsT : isSum (rootS TL) := rootS_sum (by rw [hTL]; exact sa.1)
  have hsD : isSum (rootS DL) := rootS_sum (by rw [hDL]; exact sb.1)
  have lT : TL.length = halfN L.length := by rw [hTL]; exact hh.1
  have lD : DL.length = L.length - halfN L.length := by rw [hDL]; exact hh.2.1
  rw [← hTL] at sa
  rw [← hDL] at sb
  have EN : rootN N L = addN (rootN (rootN N TL) DL) (nodeS [rootS TL, rootS DL], nodeT [rootS TL, rootS DL]) := by rw [hTL, hDL]; exact rootN_more N h2
  have EC : callsR L.length = callsR TL.length + callsR DL.length + 1 := by rw [lT, lD]; exact callsR_more hh.2.2.2 hh.2.2.1
  have hlt := hk.2.1
  have hFw : ¬ F w.heap.size := fun hf => by have := hlt _ hf; omega
  have K1 := hk.below b1 (Nat.le_refl _)
  have hcT : 0 ≤ callsR TL.length ∧ callsR TL.length ≤ (TL.length : Int) := by unfold callsR; rw [if_neg (by omega)]; omega
  have hcD : 0 ≤ callsR DL.length ∧ callsR DL.length ≤ (DL.length : Int) := by unfold callsR; rw [if_neg (by omega)]; omega
  have lN1 := (rootNF_length TL.length N TL (Nat.le_refl _)).2 (by omega)
  have lN2 := (rootNF_length DL.length (rootN N TL) DL (Nat.le_refl _)).2 (by omega)
  have XA := ih F k N c TL _ w1.drew (by omega) (by omega) (K1.below ((Below.refl _ _).drew) (Nat.le_refl _)) ((sa.below b1 (Nat.le_refl _)).below ((Below.refl _ _).drew) (Nat.le_refl _)) (fun _ j hj => hvF (by omega) j (oa ▸ hj)) ((ht.below b1 ht.1).below ((Below.refl _ _).drew) (by have := ht.1; omega)) hF0 (by omega) ⟨hc.1, by omega⟩
  have HFW : Hid _ := hFw
  have HLT : Hid _ := hlt
  have HEN : Hid _ := EN
  have HEC : Hid _ := EC
  have HLN : Hid ((rootN N TL).length + 1 ≤ N.length + TL.length ∧ (rootN (rootN N TL) DL).length + 1 ≤ (rootN N TL).length + DL.length) := (show (rootN N TL).length + 1 ≤ N.length + TL.length ∧ (rootN (rootN N TL) DL).length + 1 ≤ (rootN N TL).length + DL.length from ⟨lN1, lN2⟩)
  clear lN1 lN2 EN EC
  unfold sumV at XA ⊢
  have HES : Hid _ := ES
  have hsl : ∃ a cap, v = .slice a L.length cap := by
    obtain ⟨_, a, cap, e, _⟩ := h; exact ⟨a, cap, e⟩
  obtain ⟨va, vc, rfl⟩ := hsl
  have q0 : (2 : Int) ≤ (L.length : Int) := by omega
  have q1 : (L.length : Int) ≤ 1001 := by omega
  have n0 : ¬ (L.length : Int) = 0 := by omega
  have n1 : ¬ (L.length : Int) = 1 := by omega
  have hI : halfI (L.length : Int) = (halfN L.length : Int) := by unfold halfI; rw [Int.toNat_natCast]
  rw [hI] at X1
  have hh2 := hh.2.2
  clear hI ES hTL hDL hh hsm
  go_enter Tryd.func18, Tryd.ntmps18
  go_upto_region 1 with fail
  rw [← hw1]
  have S1 : Hid _ := s1
  have R1 : Hid _ := r1
  have B1 : Hid _ := b1
  have SB : Hid _ := sb
  have HT : Hid _ := ht
  have HVL : Hid _ := hvl
  have HOB : Hid _ := ob
  clear hw1 hz32 s1 r1 b1 sa sb h ht hvl oa ob
  go_wp2_with fail
  refine X1.mono ?_
  rintro e w' ⟨rfl, hw⟩
  obtain rfl := hw.symm
  clear X1 hw
  go_upto_region 7 with fail
  refine wp_region_noPanic ?_
  refine wp_region_held_drew (S := fun w' => True) (by kernel_rfl) trivial (fun hHeld => ?_)
  refine take_op (i := 0) (v := ?va0) rfl (by kernel_rfl) (by kernel_rfl) (by kernel_rfl) (fun _ _ _ h => h) rfl hHeld ?ya0 ?ra0
  case ya0 => (intro wz hz; go_simp; first | done | with_reducible rfl)
  try simp only [Act.put, List.setIfInBounds_toArray, List.set_cons_zero, List.set_cons_succ]
  refine take_op (i := 1) (v := ?va1) rfl (by kernel_rfl) (by kernel_rfl) (by kernel_rfl) (fun _ _ _ h => h) rfl hHeld ?ya1 ?ra1
  case ya1 => (intro wz hz; go_simp; first | done | with_reducible rfl)
  try simp only [Act.put, List.setIfInBounds_toArray, List.set_cons_zero, List.set_cons_succ]
  refine take_op (i := 2) (v := ?va2) rfl (by kernel_rfl) (by kernel_rfl) (by kernel_rfl) (fun _ _ _ h => h) rfl hHeld ?ya2 ?ra2
  case ya2 => (intro wz hz; go_simp; first | done | with_reducible rfl)
  try simp only [Act.put, List.setIfInBounds_toArray, List.set_cons_zero, List.set_cons_succ]
  refine take_op (i := 3) (v := ?va3) rfl (by kernel_rfl) (by kernel_rfl) (by kernel_rfl) (fun _ _ _ h => h) rfl hHeld ?ya3 ?ra3
  case ya3 => (intro wz hz; go_simp; first | done | with_reducible rfl)
  try simp only [Act.put, List.setIfInBounds_toArray, List.set_cons_zero, List.set_cons_succ]
  refine take_op (i := 4) (v := ?va4) rfl (by kernel_rfl) (by kernel_rfl) (by kernel_rfl) (fun _ _ _ h => h) rfl hHeld ?ya4 ?ra4
  case ya4 => (intro wz hz; have hcz := ra wz; go_simp; first | done | with_reducible rfl)
  try simp only [Act.put, List.setIfInBounds_toArray, List.set_cons_zero, List.set_cons_succ]
  refine take_op (i := 6) (v := ?va6) rfl (by kernel_rfl) (by kernel_rfl) (by kernel_rfl) (fun _ _ _ h => h) rfl hHeld ?ya6 ?ra6
  case ya6 => (intro wz hz; go_simp; first | done | with_reducible rfl)
  try simp only [Act.put, List.setIfInBounds_toArray, List.set_cons_zero, List.set_cons_succ]
  refine take_op (i := 7) (v := ?va7) rfl (by kernel_rfl) (by kernel_rfl) (by kernel_rfl) (fun _ _ _ h => h) rfl hHeld ?ya7 ?ra7
  case ya7 => (intro wz hz; go_simp; first | done | with_reducible rfl)
  try simp only [Act.put, List.setIfInBounds_toArray, List.set_cons_zero, List.set_cons_succ]
  refine take_op (i := 8) (v := ?va8) rfl (by kernel_rfl) (by kernel_rfl) (by kernel_rfl) (fun _ _ _ h => h) rfl hHeld ?ya8 ?ra8
  case ya8 => (intro wz hz; go_simp; first | done | with_reducible rfl)
  try simp only [Act.put, List.setIfInBounds_toArray, List.set_cons_zero, List.set_cons_succ]
  refine take_op (i := 9) (v := ?va9) rfl (by kernel_rfl) (by kernel_rfl) (by kernel_rfl) (fun _ _ _ h => h) rfl hHeld ?ya9 ?ra9
  case ya9 => (intro wz hz; have hcz := rb wz; go_simp; first | done | with_reducible rfl)
  try simp only [Act.put, List.setIfInBounds_toArray, List.set_cons_zero, List.set_cons_succ]
  refine take_one (i := 5) rfl (by kernel_rfl) rfl (fun K hK => ?_)
  go_simp
  refine Calls.mono XA ?_
  rintro e w5 ⟨rfl, k5, f5⟩
  clear XA
  have s1 := S1.out
  have s5 : w1.heap.size ≤ w5.heap.size := f5.size
  have f5' : Fr F w1 w5 := ((Fr.refl F w1).drew).trans f5 (fun _ _ h => h)
  have hvF' : ∀ j, (Value.slice va L.length vc).ownBlock = some j → ¬ F j := hvF (by omega)
  have sb5 : sumsAt w5 _ DL := sumsAt.far SB.out (fun _ j hj hl => (f5'.block j (by omega) (hvF' j (HOB.out ▸ hj))).trans (B1.out.block j hl)) (by omega)
  have t5 : tabIs w5 := tabIs.far HT.out ((f5'.block 0 (by have := HT.out.1; omega) hF0).trans (B1.out.block 0 HT.out.1)) (by omega)
  have r5 : w5.rowIs w.heap.size 29 32 (fun _ => .int .u8 0) := World.rowIs.of_block R1.out (f5'.block _ (by omega) HFW.out)
  have XB := ih (Gr F w1.drew w5) k (rootN N TL) (c + callsR TL.length) DL _ w5 (by omega) (by omega) k5 sb5 (fun _ j hj hg => by
    rcases hg with hg | hg
    · exact hvF' j (HOB.out ▸ hj) hg
    · have h1 : w1.heap.size ≤ j := hg.1
      have := HVL.out j (HOB.out ▸ hj); omega) t5 (fun hg => by
    rcases hg with hg | hg
    · exact hF0 hg
    · have h1 : w1.heap.size ≤ 0 := hg.1
      omega) (by have := HLN.out.1; omega) ⟨by omega, by omega⟩
  unfold sumV at XB
  refine hK.out _ _ trivial (fun hHeld => ?_)
  clear hK K
  try simp only [Act.put, List.setIfInBounds_toArray, List.set_cons_zero, List.set_cons_succ]
  refine take_one (i := 10) rfl (by kernel_rfl) rfl (fun K hK => ?_)
  go_simp
  refine Calls.mono XB ?_
  rintro e w10 ⟨rfl, k10, f10⟩
  clear XB
  have s10 := f10.size
  have hnw : ¬ Gr F w1.drew w5 w.heap.size := fun hg => by
    rcases hg with hg | hg
    · exact HFW.out hg
    · have h1 : w1.heap.size ≤ w.heap.size := hg.1
      omega
  have n010 : ¬ Gr (Gr F w1.drew w5) w5 w10 0 := fun hg => by
    rcases hg with (hg | hg) | hg
    · exact hF0 hg
    · have h1 : w1.heap.size ≤ 0 := hg.1
      omega
    · have := hg.1; omega
  have t10 : tabIs w10 := tabIs.far t5 (f10.block 0 t5.1 (fun hg => n010 (Or.inl hg))) s10
  have r10 : w10.rowIs w.heap.size 29 32 (fun _ => .int .u8 0) := World.rowIs.of_block r5 (f10.block _ (by omega) hnw)
  have f10' : Fr F w1 w10 := f5'.trans f10 (fun j hj hg => by
    rcases hg with hg | hg
    · exact hg
    · have h1 : w1.heap.size ≤ j := hg.1
      omega)
  refine hK.out _ _ trivial (fun hHeld => ?_)
  clear hK K
  try simp only [Act.put, List.setIfInBounds_toArray, List.set_cons_zero, List.set_cons_succ]
  refine take_one (i := 11) rfl (by kernel_rfl) rfl (fun K hK => ?_)
  refine wp_of_run (exec_bslice2' 22 2 0 1 (.tmp 25) (.tmp 30) _ _ rfl rfl rfl (build_two (arrV (rootS TL)) (arrV (rootS DL)) w10)) ?_
  refine hK.out _ _ trivial (fun hHeld => ?_)
  clear hK K
  try simp only [Act.put, List.setIfInBounds_toArray, List.set_cons_zero, List.set_cons_succ]
  have b11 : Below w10.heap.size w10 (w10.alloc (.cells (rowV 64 (fun j => if j < 32 then arrV (rootS TL) j else arrV (rootS DL) (j - 32))) 29)) := (Below.refl _ _).alloc (Nat.le_refl _) _
  have XC := node_book (Gr (Gr F w1.drew w5) w5 w10) k (rootN (rootN N TL) DL) (c + callsR TL.length + callsR DL.length) [rootS TL, rootS DL] _ _ (k10.below b11 (Nat.le_refl _)) (two_sums w10 _ _ hsT hsD) (by simp) (t10.below b11 t10.1) n010 (by have := HLN.out; omega) ⟨by omega, by omega⟩
  unfold sumV at XC
  refine take_one (i := 12) rfl (by kernel_rfl) rfl (fun K hK => ?_)
  go_simp
  refine Calls.mono XC ?_
  rintro e w12 ⟨rfl, k12, f12⟩
  clear XC
  have s11 := b11.size
  have s12 := f12.size
  have r12 : w12.rowIs w.heap.size 29 32 (fun _ => .int .u8 0) := World.rowIs.of_block r10 ((f12.block _ (by omega) (fun hg => by
    rcases hg with hg | hg
    · exact hnw hg
    · have := hg.1; omega)).trans (b11.block _ (by omega)))
  have f12' : Fr F w1 w12 := (f10'.trans (Fr.of_below F b11) (fun _ _ h => h)).trans f12 (fun j hj hg => by
    rcases hg with (hg | hg) | hg
    · exact hg
    · have h1 : w1.heap.size ≤ j := hg.1
      omega
    · have := hg.1; omega)
  rw [← HES.out] at k12 ⊢
  refine hK.out _ _ trivial (fun hHeld => ?_)
  clear hK K
  try simp only [Act.put, List.setIfInBounds_toArray, List.set_cons_zero, List.set_cons_succ]
  refine take_one (i := 13) rfl (by kernel_rfl) rfl (fun K hK => ?_)
  have hst := stow32T_run w12 w.heap.size (rootS L) r12
  have h9 := stow32T_row w12 w.heap.size (rootS L) r12
  have r9 := h9.1
  have hz9 := h9.2.1
  have hb9 := h9.2.2
  clear h9
  unfold Oper.wp execOp
  simp only [Instr.storeAt, Instr.sureAddr, Sem.run_bind, Sem.run_pure, Result.andThen_ok]
  simp [Act.eval, hst, Oper.upon]
  clear hst
  generalize w12.setCells w.heap.size 0 (rowV 32 (arrV (rootS L))).toList = w9 at r9 hz9 hb9 ⊢
  refine hK.out _ _ trivial (fun hHeld => ?_)
  clear hK K hHeld
  try simp only [Act.put, List.setIfInBounds_toArray, List.set_cons_zero, List.set_cons_succ]
  refine wpAnyH_done (by kernel_rfl) ?_ _
  refine NoPanic.normal ?_
  have RES : Hid (bookAt w9 (Gr F w w9) k (rootN N L) (c + callsR L.length) ∧ Fr F w w9) := (show bookAt w9 (Gr F w w9) k (rootN N L) (c + callsR L.length) ∧ Fr F w w9 from by
    constructor
    · rw [HEN.out, HEC.out, ← HES.out, show c + (callsR TL.length + callsR DL.length + 1) = c + callsR TL.length + callsR DL.length + 1 by omega]
      refine (bookAt.far k12 (fun j hj hl => hb9.block j hl (fun e => ?_)) (by omega)).grow (fun j hj => ?_) (fun j hj => ?_)
      · subst e
        rcases hj with hj | hj
        · rcases hj with hj | hj
          · exact hnw hj
          · have := hj.1; omega
        · have := hj.1; omega
      · rcases hj with ((hj | hj) | hj) | hj
        · exact Or.inl hj
        · have h1 : w1.heap.size ≤ j := hj.1
          exact Or.inr ⟨by omega, by have := hj.2; omega⟩
        · exact Or.inr ⟨by have := hj.1; omega, by have := hj.2; omega⟩
        · exact Or.inr ⟨by have := hj.1; omega, by have := hj.2; omega⟩
      · rcases hj with hj | hj
        · have := HLT.out j hj; omega
        · exact hj.2
    · exact ((Fr.of_below F B1.out).trans f12' (fun _ _ h => h)).trans (G := fun j => j = w.heap.size) ⟨hb9.os, hb9.tape, hb9.output, by omega, fun j hj hne => hb9.block j hj hne⟩ (fun j hj e => by omega))
  clear k12 f12 f12' f10 f10' f5 f5' k10 k5 hb9 r12 r10 r5 t5 t10 b11
  go_wp2
  exact bodyPost_ret (results_cell_seg rfl _ _ w.heap.size 29 32 (arrV (rootS L)) _ rfl Tryd.underlying29 rfl hi32' r9) rfl ⟨rfl, RES.out.1, RES.out.2⟩
end Go.Proofs.YthpnenblmkdmcaaDoor
