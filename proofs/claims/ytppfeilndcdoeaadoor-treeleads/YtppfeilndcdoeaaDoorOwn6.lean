import Derived.OrdersIn
import Derived.Deep.RegionHeld3
import Derived.Test.YtppfeilndcdoeaaDoorOwn5
set_option linter.unusedVariables false
set_option linter.unusedSimpArgs false
/- Paths, where they lead, and what they bind. Plain mathematics. -/
namespace Go.Proofs.YtppfeilndcdoeaaDoor
set_option linter.unusedSimpArgs false
set_option linter.unusedVariables false
open Go.RowKit Go.Deep

/-- the sums of one step up, and its note. -/
def upL (s : List Int) (x : Bool × List Int) : List (List Int) := if x.1 = true then [s, x.2] else [x.2, s]
def ntOf (L : List (List Int)) : Nt := (nodeS L, nodeT L)
def leadF (l : List (Bool × List Int)) (s : List Int) : List Int := l.foldl (fun s x => nodeS (upL s x)) s
def upStep (y : List Nt × List Int) (x : Bool × List Int) : List Nt × List Int := (addN y.1 (ntOf (upL y.2 x)), nodeS (upL y.2 x))
def leadFN (N : List Nt) (l : List (Bool × List Int)) (s : List Int) : List Nt := (l.foldl upStep (N, s)).1
theorem leadF_nil (s : List Int) : leadF [] s = s := rfl
theorem leadFN_nil (N : List Nt) (s : List Int) : leadFN N [] s = N := rfl
theorem leadF_snoc (l : List (Bool × List Int)) (x : Bool × List Int) (s : List Int) : leadF (l ++ [x]) s = nodeS (upL (leadF l s) x) := by
  unfold leadF; rw [List.foldl_append]; rfl
theorem upStep_snd : ∀ (l : List (Bool × List Int)) (N : List Nt) (s : List Int), (l.foldl upStep (N, s)).2 = leadF l s
  | [], _, _ => rfl
  | x :: r, N, s => by rw [List.foldl_cons]; unfold leadF; rw [List.foldl_cons]; exact upStep_snd r _ _
theorem leadFN_snoc (N : List Nt) (l : List (Bool × List Int)) (x : Bool × List Int) (s : List Int) : leadFN N (l ++ [x]) s = addN (leadFN N l s) (ntOf (upL (leadF l s) x)) := by
  unfold leadFN; rw [List.foldl_append, List.foldl_cons, List.foldl_nil, ← upStep_snd l N s]; rfl
theorem leadF_sum : ∀ (l : List (Bool × List Int)) (s : List Int), isSum s → isSum (leadF l s)
  | [], s, h => h
  | x :: r, s, h => by unfold leadF; rw [List.foldl_cons]; exact leadF_sum r _ (nodeS_sum _)
theorem upL_sums {s : List Int} {x : Bool × List Int} (hs : isSum s) (hx : isSum x.2) : ∀ y ∈ upL s x, isSum y := by
  intro y hy
  unfold upL at hy
  split at hy <;> · rcases List.mem_cons.1 hy with rfl | hy
                    · assumption
                    · rw [List.mem_singleton.1 hy]; assumption
theorem addN_le (N : List Nt) (x : Nt) : N.length ≤ (addN N x).length ∧ (addN N x).length ≤ N.length + 1 := by
  by_cases e : x ∈ N
  · rw [addN_in e]; omega
  · rw [addN_out e]; simp
theorem leadFN_len : ∀ (l : List (Bool × List Int)) (N : List Nt) (s : List Int), (leadFN N l s).length ≤ N.length + l.length
  | [], N, s => by rw [leadFN_nil]; simp
  | x :: r, N, s => by
    have h := leadFN_len r (addN N (ntOf (upL s x))) (nodeS (upL s x))
    have h2 := addN_le N (ntOf (upL s x))
    have e : leadFN N (x :: r) s = leadFN (addN N (ntOf (upL s x))) r (nodeS (upL s x)) := by unfold leadFN; rw [List.foldl_cons]; rfl
    rw [e, List.length_cons]; omega
/-- the steps up that a path makes. -/
def ups (w : List (Nat × Bool)) (path : List (List Int)) : List (Bool × List Int) := ((w.map (·.2)).reverse).zip path
theorem ups_len {w : List (Nat × Bool)} {path : List (List Int)} (h : path.length = w.length) : (ups w path).length = w.length := by
  unfold ups; rw [List.length_zip, List.length_reverse, List.length_map]; omega
theorem ups_snoc {x : Nat × Bool} {w : List (Nat × Bool)} {q : List (List Int)} {y : List Int} (h : q.length = w.length) : ups (x :: w) (q ++ [y]) = ups w q ++ [(x.2, y)] := by
  unfold ups
  rw [List.map_cons, List.reverse_cons, List.zip_append (by rw [List.length_reverse, List.length_map]; omega)]; rfl
/-- where a leaf leads. -/
def leadS (n p : Nat) (s : List Int) (path : List (List Int)) : List Int := leadF (ups (wayL n p) path) s
/-- what is left aside on the way down. -/
def downF : List (Nat × Bool) → List (List Int) → List (List Int)
  | [], _ => []
  | x :: r, L => rootS (if x.2 = true then L.drop x.1 else L.take x.1) :: downF r (if x.2 = true then L.take x.1 else L.drop x.1)
def pathS (L : List (List Int)) (p : Nat) : List (List Int) := (downF (wayL L.length p) L).reverse
theorem downF_len : ∀ (w : List (Nat × Bool)) (L : List (List Int)), (downF w L).length = w.length
  | [], _ => rfl
  | x :: r, L => by rw [downF, List.length_cons, List.length_cons, downF_len r]
theorem pathS_len (L : List (List Int)) (p : Nat) : (pathS L p).length = (wayL L.length p).length := by unfold pathS; rw [List.length_reverse, downF_len]
theorem downF_sum : ∀ (w : List (Nat × Bool)) (L : List (List Int)), (∀ x ∈ L, isSum x) → ∀ y ∈ downF w L, isSum y
  | [], _, _, y, h => by simp [downF] at h
  | x :: r, L, hL, y, h => by
    rw [downF] at h
    have ht : ∀ z ∈ L.take x.1, isSum z := fun z hz => hL z (List.mem_of_mem_take hz)
    have hd : ∀ z ∈ L.drop x.1, isSum z := fun z hz => hL z (List.mem_of_mem_drop hz)
    rcases List.mem_cons.1 h with rfl | h
    · refine rootS_sum fun z hz => ?_
      split at hz
      · exact hd z hz
      · exact ht z hz
    · refine downF_sum r _ (fun z hz => ?_) y h
      split at hz
      · exact ht z hz
      · exact hd z hz
theorem pathS_sum {L : List (List Int)} (h : ∀ x ∈ L, isSum x) (p : Nat) : ∀ y ∈ pathS L p, isSum y := fun y hy => downF_sum _ L h y (List.mem_reverse.1 hy)
theorem pathS_end {L : List (List Int)} {p : Nat} (h : L.length ≤ 1) : pathS L p = [] := by unfold pathS; rw [wayL_end h]; rfl
theorem pathS_left {L : List (List Int)} {p : Nat} (h : 2 ≤ L.length) (hp : p < halfN L.length) : pathS L p = pathS (L.take (halfN L.length)) p ++ [rootS (L.drop (halfN L.length))] := by
  have ht := half_take h
  unfold pathS
  rw [wayL_step h, downF, List.reverse_cons, if_pos hp]
  simp only [hp, decide_true, if_true]
  rw [ht.1]
theorem pathS_right {L : List (List Int)} {p : Nat} (h : 2 ≤ L.length) (hp : ¬ p < halfN L.length) : pathS L p = pathS (L.drop (halfN L.length)) (p - halfN L.length) ++ [rootS (L.take (halfN L.length))] := by
  have ht := half_take h
  unfold pathS
  rw [wayL_step h, downF, List.reverse_cons, if_neg hp]
  simp only [hp, decide_false, Bool.false_eq_true, if_false]
  rw [ht.2.1]
theorem leadS_end {n p : Nat} {s : List Int} {path : List (List Int)} (h : n ≤ 1) : leadS n p s path = s := by unfold leadS ups; rw [wayL_end h]; rfl
theorem leadS_left {n p : Nat} {s y : List Int} {q : List (List Int)} (h : 2 ≤ n) (hp : p < halfN n) (hq : q.length = (wayL (halfN n) p).length) : leadS n p s (q ++ [y]) = nodeS [leadS (halfN n) p s q, y] := by
  unfold leadS
  rw [wayL_step h, if_pos hp, ups_snoc hq, leadF_snoc]
  simp only [hp, decide_true, upL, if_true]
theorem leadS_right {n p : Nat} {s y : List Int} {q : List (List Int)} (h : 2 ≤ n) (hp : ¬ p < halfN n) (hq : q.length = (wayL (n - halfN n) (p - halfN n)).length) : leadS n p s (q ++ [y]) = nodeS [y, leadS (n - halfN n) (p - halfN n) s q] := by
  unfold leadS
  rw [wayL_step h, if_neg hp, ups_snoc hq, leadF_snoc]
  simp only [hp, decide_false, upL, Bool.false_eq_true, if_false]
/-- P4.5. -/
theorem lead_path : ∀ (m : Nat) (L : List (List Int)) (p : Nat), L.length ≤ m → p < L.length → leadS L.length p (L.getD p []) (pathS L p) = rootS L
  | 0, L, p, h, hp => by omega
  | m + 1, L, p, h, hp => by
    by_cases h1 : L.length ≤ 1
    · have h2 : L.length = 1 := by omega
      obtain rfl : p = 0 := by omega
      rw [leadS_end h1, rootS_one h2]
    · have h2 : 2 ≤ L.length := by omega
      have ht := half_take h2
      rw [rootS_more h2]
      by_cases hl : p < halfN L.length
      · rw [pathS_left h2 hl, leadS_left h2 hl (by rw [pathS_len, ht.1])]
        have ih := lead_path m (L.take (halfN L.length)) p (by omega) (by omega)
        rw [ht.1] at ih
        have eg : L.getD p [] = (L.take (halfN L.length)).getD p [] := by
          rw [List.getD_eq_getElem?_getD, List.getD_eq_getElem?_getD, List.getElem?_take, if_pos hl]
        rw [← ih, eg]
      · rw [pathS_right h2 hl, leadS_right h2 hl (by rw [pathS_len, ht.2.1])]
        have ih := lead_path m (L.drop (halfN L.length)) (p - halfN L.length) (by omega) (by omega)
        rw [ht.2.1] at ih
        have eg : L.getD p [] = (L.drop (halfN L.length)).getD (p - halfN L.length) [] := by
          rw [List.getD_eq_getElem?_getD, List.getD_eq_getElem?_getD, List.getElem?_drop]
          congr 2; omega
        rw [← ih, eg]
/-- two nodes that have one note. -/
theorem flatF_byte (ps : Nat → List Int) (h : ∀ i j, 0 ≤ (ps i).getD j 0 ∧ (ps i).getD j 0 ≤ 255) : ∀ (n i j : Nat), 0 ≤ (flatF ps i n).getD j 0 ∧ (flatF ps i n).getD j 0 ≤ 255
  | 0, i, j => by simp [flatF]
  | n + 1, i, j => by
    rw [flatF, blobB, List.getD_eq_getElem?_getD]
    rw [List.append_assoc]
    by_cases h1 : j < (numB (ps i).length).length
    · rw [List.getElem?_append_left h1, ← List.getD_eq_getElem?_getD]; exact numB_byte _ _
    · rw [List.getElem?_append_right (by omega)]
      by_cases h2 : j - (numB (ps i).length).length < (ps i).length
      · rw [List.getElem?_append_left h2, ← List.getD_eq_getElem?_getD]; exact h i _
      · rw [List.getElem?_append_right (by omega), ← List.getD_eq_getElem?_getD]; exact flatF_byte ps h n (i + 1) _
theorem pre_byte (L : List (List Int)) (h : ∀ x ∈ L, isSum x) (k : Int) : ∀ j, 0 ≤ (preB k L.length (fun i => L.getD i [])).getD j 0 ∧ (preB k L.length (fun i => L.getD i [])).getD j 0 ≤ 255 := by
  intro j
  unfold preB
  rw [flatF_to]
  cases j with
  | zero => simp; omega
  | succ j =>
    rw [List.singleton_append, List.getD_cons_succ]
    refine flatF_byte _ (fun i j => ?_) _ _ _
    by_cases hi : i < L.length
    · have : L.getD i [] = L[i] := by rw [List.getD_eq_getElem?_getD, List.getElem?_eq_getElem hi]; rfl
      rw [this]; exact (h _ (List.getElem_mem _)).2 j
    · have : L.getD i [] = [] := by rw [List.getD_eq_getElem?_getD, List.getElem?_eq_none (by omega)]; rfl
      rw [this]; simp
theorem nodeT_inj {K L : List (List Int)} (hK : ∀ x ∈ K, isSum x) (hL : ∀ x ∈ L, isSum x) (h : nodeT K = nodeT L) : K = L := by
  have e := strOf_inj (pre_byte K hK 2) (pre_byte L hL 2) h
  have lenK : ∀ j, j < K.length → (K.getD j []).length < 1000000000 := fun j hj => by
    have : K.getD j [] = K[j] := by rw [List.getD_eq_getElem?_getD, List.getElem?_eq_getElem hj]; rfl
    rw [this, (hK _ (List.getElem_mem _)).1]; omega
  have lenL : ∀ j, j < L.length → (L.getD j []).length < 1000000000 := fun j hj => by
    have : L.getD j [] = L[j] := by rw [List.getD_eq_getElem?_getD, List.getElem?_eq_getElem hj]; rfl
    rw [this, (hL _ (List.getElem_mem _)).1]; omega
  obtain ⟨_, h2, h3⟩ := (preB_apart lenK lenL).1 e
  refine List.ext_getElem h2 fun i h4 h5 => ?_
  have := h3 i h4
  rw [List.getD_eq_getElem?_getD, List.getElem?_eq_getElem h4, List.getD_eq_getElem?_getD, List.getElem?_eq_getElem h5] at this
  exact this
theorem two_apart {a b c d : List Int} (ha : isSum a) (hb : isSum b) (hc : isSum c) (hd : isSum d) (h : nodeT [a, b] = nodeT [c, d]) : a = c ∧ b = d := by
  have := nodeT_inj (K := [a, b]) (L := [c, d]) (fun x hx => by rcases List.mem_cons.1 hx with rfl | hx; exact ha; rw [List.mem_singleton.1 hx]; exact hb) (fun x hx => by rcases List.mem_cons.1 hx with rfl | hx; exact hc; rw [List.mem_singleton.1 hx]; exact hd) h
  simpa using this
theorem rootNF_has : ∀ (n : Nat) (N : List Nt) (L : List (List Int)) (x : Nt), x ∈ N → x ∈ rootNF n N L
  | 0, N, L, x, h => by rw [rootNF]; exact addN_has _ _ _ (Or.inl h)
  | n + 1, N, L, x, h => by
    rw [rootNF]
    split
    · exact addN_has _ _ _ (Or.inl h)
    · split
      · exact h
      · exact addN_has _ _ _ (Or.inl (rootNF_has n _ _ x (rootNF_has n N _ x h)))
theorem rootN_has {N : List Nt} {L : List (List Int)} {x : Nt} (h : x ∈ N) : x ∈ rootN N L := rootNF_has _ _ _ _ h
theorem leadFN_has : ∀ (l : List (Bool × List Int)) (N : List Nt) (s : List Int) (x : Nt), x ∈ N → x ∈ leadFN N l s
  | [], N, s, x, h => h
  | y :: r, N, s, x, h => by
    have e : leadFN N (y :: r) s = leadFN (addN N (ntOf (upL s y))) r (nodeS (upL s y)) := by unfold leadFN; rw [List.foldl_cons]; rfl
    rw [e]; exact leadFN_has r _ _ x (addN_has _ _ _ (Or.inl h))
/-- no sum has unlike texts here and there. -/
def noClash (A B : Nt → Prop) : Prop := ∀ x y, A x → B y → x.1 = y.1 → x = y
theorem same_two {A B : Nt → Prop} (h : noClash A B) {a b c d : List Int} (ha : isSum a) (hb : isSum b) (hc : isSum c) (hd : isSum d) (hA : A (ntOf [a, b])) (hB : B (ntOf [c, d])) (e : nodeS [a, b] = nodeS [c, d]) : a = c ∧ b = d :=
  two_apart ha hb hc hd (congrArg Prod.snd (h _ _ hA hB e))
theorem wayL_len2 {n p : Nat} (h : 2 ≤ n) : (wayL n p).length = (if p < halfN n then wayL (halfN n) p else wayL (n - halfN n) (p - halfN n)).length + 1 := by
  rw [wayL_step h, List.length_cons]
/-- P4.6. -/
theorem bind_lead (A B : Nt → Prop) (hAB : noClash A B) : ∀ (m : Nat) (L : List (List Int)) (p : Nat) (s : List Int) (path : List (List Int)) (N M : List Nt), L.length ≤ m → p < L.length → (∀ x ∈ L, isSum x) → isSum s → (∀ x ∈ path, isSum x) →
    path.length = (wayL L.length p).length → (∀ x ∈ rootN N L, A x) → (∀ x ∈ leadFN M (ups (wayL L.length p) path) s, B x) → leadS L.length p s path = rootS L → s = L.getD p [] ∧ path = pathS L p
  | 0, L, p, s, path, N, M, h, hp, hL, hs, hpa, hlen, hA, hB, e => by omega
  | m + 1, L, p, s, path, N, M, h, hp, hL, hs, hpa, hlen, hA, hB, e => by
    by_cases h1 : L.length ≤ 1
    · have h2 : L.length = 1 := by omega
      obtain rfl : p = 0 := by omega
      rw [leadS_end h1, rootS_one h2] at e
      rw [wayL_end h1] at hlen
      exact ⟨e, by rw [pathS_end h1]; exact List.eq_nil_of_length_eq_zero hlen⟩
    · have h2 : 2 ≤ L.length := by omega
      have ht := half_take h2
      have sT : ∀ x ∈ L.take (halfN L.length), isSum x := fun x hx => hL x (List.mem_of_mem_take hx)
      have sD : ∀ x ∈ L.drop (halfN L.length), isSum x := fun x hx => hL x (List.mem_of_mem_drop hx)
      rw [wayL_len2 h2] at hlen
      obtain ⟨q, y, rfl⟩ : ∃ q y, path = q ++ [y] := by
        rcases List.eq_nil_or_concat path with rfl | ⟨q, y, rfl⟩
        · simp at hlen
        · exact ⟨q, y, by simp⟩
      rw [List.length_append, List.length_singleton] at hlen
      have hq : ∀ x ∈ q, isSum x := fun x hx => hpa x (List.mem_append_left _ hx)
      have hy : isSum y := hpa y (by simp)
      rw [rootS_more h2] at e
      rw [rootN_more N h2] at hA
      have hAr : A (ntOf [rootS (L.take (halfN L.length)), rootS (L.drop (halfN L.length))]) := hA _ (addN_has _ _ _ (Or.inr rfl))
      by_cases hl : p < halfN L.length
      · rw [if_pos hl] at hlen
        rw [leadS_left h2 hl (by omega)] at e
        have hu : ups (wayL L.length p) (q ++ [y]) = ups (wayL (halfN L.length) p) q ++ [(true, y)] := by
          rw [wayL_step h2, if_pos hl, ups_snoc (by omega)]; simp [hl]
        rw [hu, leadFN_snoc] at hB
        have hBr : B (ntOf [leadS (halfN L.length) p s q, y]) := hB _ (addN_has _ _ _ (Or.inr rfl))
        obtain ⟨e1, e2⟩ := same_two hAB (rootS_sum sT) (rootS_sum sD) (leadF_sum _ _ hs) hy hAr hBr e.symm
        have ih := bind_lead A B hAB m (L.take (halfN L.length)) p s q N M (by omega) (by omega) sT hs hq (by rw [ht.1]; omega)
          (fun x hx => hA x (addN_has _ _ _ (Or.inl (rootN_has hx)))) (fun x hx => hB x (addN_has _ _ _ (Or.inl (by rw [ht.1] at hx; exact hx)))) (by rw [ht.1]; exact e1.symm)
        refine ⟨?_, by rw [pathS_left h2 hl, ← ih.2, e2]⟩
        rw [ih.1, List.getD_eq_getElem?_getD, List.getD_eq_getElem?_getD, List.getElem?_take, if_pos hl]
      · rw [if_neg hl] at hlen
        rw [leadS_right h2 hl (by omega)] at e
        have hu : ups (wayL L.length p) (q ++ [y]) = ups (wayL (L.length - halfN L.length) (p - halfN L.length)) q ++ [(false, y)] := by
          rw [wayL_step h2, if_neg hl, ups_snoc (by omega)]; simp [hl]
        rw [hu, leadFN_snoc] at hB
        have hBr : B (ntOf [y, leadS (L.length - halfN L.length) (p - halfN L.length) s q]) := hB _ (addN_has _ _ _ (Or.inr rfl))
        obtain ⟨e1, e2⟩ := same_two hAB (rootS_sum sT) (rootS_sum sD) hy (leadF_sum _ _ hs) hAr hBr e.symm
        have ih := bind_lead A B hAB m (L.drop (halfN L.length)) (p - halfN L.length) s q (rootN N (L.take (halfN L.length))) M (by omega) (by omega) sD hs hq (by rw [ht.2.1]; omega)
          (fun x hx => hA x (addN_has _ _ _ (Or.inl hx))) (fun x hx => hB x (addN_has _ _ _ (Or.inl (by rw [ht.2.1] at hx; exact hx)))) (by rw [ht.2.1]; exact e2.symm)
        refine ⟨?_, by rw [pathS_right h2 hl, ← ih.2, e1]⟩
        rw [ih.1, List.getD_eq_getElem?_getD, List.getD_eq_getElem?_getD, List.getElem?_drop]
        congr 2; omega
/-- two lists of one length with one root. -/
theorem bind_root (A B : Nt → Prop) (hAB : noClash A B) : ∀ (m : Nat) (L K : List (List Int)) (N M : List Nt), L.length ≤ m → K.length = L.length → (∀ x ∈ L, isSum x) → (∀ x ∈ K, isSum x) →
    (∀ x ∈ rootN N L, A x) → (∀ x ∈ rootN M K, B x) → rootS L = rootS K → L = K
  | 0, L, K, N, M, h, hk, hL, hK, hA, hB, e => by
    rw [List.eq_nil_of_length_eq_zero (by omega : L.length = 0), List.eq_nil_of_length_eq_zero (by omega : K.length = 0)]
  | m + 1, L, K, N, M, h, hk, hL, hK, hA, hB, e => by
    by_cases h0 : L.length = 0
    · rw [List.eq_nil_of_length_eq_zero h0, List.eq_nil_of_length_eq_zero (by omega : K.length = 0)]
    by_cases h1 : L.length = 1
    · rw [rootS_one h1, rootS_one (by omega)] at e
      refine List.ext_getElem (by omega) fun i hi hj => ?_
      obtain rfl : i = 0 := by omega
      rw [List.getD_eq_getElem?_getD, List.getElem?_eq_getElem hi, List.getD_eq_getElem?_getD, List.getElem?_eq_getElem hj] at e
      exact e
    · have h2 : 2 ≤ L.length := by omega
      have hk2 : 2 ≤ K.length := by omega
      have ht := half_take h2
      have hkt := half_take hk2
      rw [rootS_more h2, rootS_more hk2] at e
      rw [rootN_more N h2] at hA
      rw [rootN_more M hk2] at hB
      have sT : ∀ x ∈ L.take (halfN L.length), isSum x := fun x hx => hL x (List.mem_of_mem_take hx)
      have sD : ∀ x ∈ L.drop (halfN L.length), isSum x := fun x hx => hL x (List.mem_of_mem_drop hx)
      have kT : ∀ x ∈ K.take (halfN K.length), isSum x := fun x hx => hK x (List.mem_of_mem_take hx)
      have kD : ∀ x ∈ K.drop (halfN K.length), isSum x := fun x hx => hK x (List.mem_of_mem_drop hx)
      obtain ⟨e1, e2⟩ := same_two hAB (rootS_sum sT) (rootS_sum sD) (rootS_sum kT) (rootS_sum kD) (hA _ (addN_has _ _ _ (Or.inr rfl))) (hB _ (addN_has _ _ _ (Or.inr rfl))) e
      have i1 := bind_root A B hAB m (L.take (halfN L.length)) (K.take (halfN K.length)) N M (by omega) (by rw [hkt.1, ht.1, hk]) sT kT (fun x hx => hA x (addN_has _ _ _ (Or.inl (rootN_has hx)))) (fun x hx => hB x (addN_has _ _ _ (Or.inl (rootN_has hx)))) e1
      have i2 := bind_root A B hAB m (L.drop (halfN L.length)) (K.drop (halfN K.length)) _ _ (by omega) (by rw [hkt.2.1, ht.2.1, hk]) sD kD (fun x hx => hA x (addN_has _ _ _ (Or.inl hx))) (fun x hx => hB x (addN_has _ _ _ (Or.inl hx))) e2
      rw [← List.take_append_drop (halfN L.length) L, i1, i2, List.take_append_drop]
end Go.Proofs.YtppfeilndcdoeaaDoor

/- slices.Reverse of bools. -/
namespace Go.Proofs.YtppfeilndcdoeaaDoor
set_option linter.unusedSimpArgs false
set_option linter.unusedVariables false
open Go.RowKit Go.Deep

/-- the cells behind k swaps. -/
def revF (F : Nat → Value) (n k i : Nat) : Value := if i < n ∧ (i < k ∨ n ≤ i + k) then F (n - 1 - i) else F i
theorem revF_zero (F : Nat → Value) (n i : Nat) : revF F n 0 i = F i := by unfold revF; rw [if_neg (by omega)]
theorem revF_lo (F : Nat → Value) {n k : Nat} (h : 2 * k + 1 < n) : revF F n k k = F k ∧ revF F n k (n - 1 - k) = F (n - 1 - k) := by
  unfold revF; rw [if_neg (by omega), if_neg (by omega)]; exact ⟨rfl, rfl⟩
theorem revF_end (F : Nat → Value) {n k i : Nat} (h : n ≤ 2 * k + 1) (hk : 2 * k ≤ n + 1) (hi : i < n) : revF F n k i = F (n - 1 - i) := by
  unfold revF
  by_cases e : i < k ∨ n ≤ i + k
  · rw [if_pos ⟨hi, e⟩]
  · rw [if_neg (fun h => e h.2)]; congr 1; omega
set_option maxHeartbeats 2000000 in
set_option maxRecDepth 100000 in
theorem revBool_any (g n cap : Nat) (F : Nat → Value) (w : World) (h : w.rowIs g 4 cap F) (hb : ∀ i, i < n → ∃ x, F i = .bool x) (hn : n ≤ cap) (hm : n ≤ 1000) :
    Calls Tryd.prog 33 #[.slice (some ⟨g, 0, none⟩) n cap] w fun e w' => e = .returned (.tuple #[]) ∧ w'.rowIs g 4 cap (fun i => if i < n then F (n - 1 - i) else F i) ∧ w'.heap.size = w.heap.size ∧ But w.heap.size g w w' := by
  have q0 : (n : Int) ≤ 1000 := by omega
  have hlt := h.lt
  have H0 : Hid _ := h
  have HB : Hid _ := hb
  clear h hb
  go_enter Tryd.func33, Tryd.ntmps33
  go_wp2
  go_loopw [2, 3] (fun x y wr => ∃ k : Nat, x = .int .i64 (k : Int) ∧ y = .int .i64 ((n : Int) - 1 - (k : Int)) ∧ 2 * k ≤ n + 1 ∧ wr.rowIs g 4 cap (revF F n k) ∧ wr.heap.size = w.heap.size ∧ But w.heap.size g w wr) (fun x _ _ => n - (intOf x).toNat)
  case atStart => exact ⟨0, rfl, by simp, by omega, World.rowIs.congr H0.out (fun i _ => (revF_zero F n i).symm), rfl, But.refl _ _ _⟩
  case round =>
    obtain ⟨k, rfl, rfl, hk, hr, hs, hbt⟩ := hrel
    clear H0
    by_cases hc : 2 * k + 1 < n
    · obtain ⟨x, hx⟩ := HB.out k (by omega)
      obtain ⟨y, hy⟩ := HB.out (n - 1 - k) (by omega)
      have hl := revF_lo F hc
      have cx : wr.cell? ⟨g, k, none⟩ = some (.bool x) := by rw [hr.cell (by omega), hl.1, hx]
      have cy : wr.cell? ⟨g, n - 1 - k, none⟩ = some (.bool y) := by rw [hr.cell (by omega), hl.2, hy]
      obtain ⟨j, hj⟩ : ∃ j : Nat, j = n - 1 - k := ⟨_, rfl⟩
      have hji : ((n : Int) - 1 - (k : Int)) = (j : Int) := by omega
      rw [← hj] at cy
      rw [hji]
      have p0 : (0 : Int) ≤ (k : Int) := by omega
      have p1 : (k : Int) < (n : Int) := by omega
      have p2 : (0 : Int) ≤ (j : Int) := by omega
      have p3 : (j : Int) < (n : Int) := by omega
      have p4 : (k : Int) < (j : Int) := by omega
      have fz := hr.frozen
      have FIN : Hid (((wr.setCell ⟨g, k, none⟩ (.bool y)).setCell ⟨g, j, none⟩ (.bool x)).drew.rowIs g 4 cap (revF F n (k + 1)) ∧ ((wr.setCell ⟨g, k, none⟩ (.bool y)).setCell ⟨g, j, none⟩ (.bool x)).drew.heap.size = w.heap.size ∧ But w.heap.size g w ((wr.setCell ⟨g, k, none⟩ (.bool y)).setCell ⟨g, j, none⟩ (.bool x)).drew) := (show _ from by
        have R1 : (wr.setCell ⟨g, k, none⟩ (.bool y)).rowIs g 4 cap _ := World.rowIs.set hr k (.bool y)
        have R2 : ((wr.setCell ⟨g, k, none⟩ (.bool y)).setCell ⟨g, j, none⟩ (.bool x)).rowIs g 4 cap _ := World.rowIs.set R1 j (.bool x)
        refine ⟨World.rowIs.of_block (R2.congr fun i hi => ?_) rfl, ?_, ?_⟩
        · show (if i = j then _ else if i = k then _ else _) = _
          unfold revF
          by_cases e1 : i = j
          · rw [if_pos e1, if_pos (by omega), show n - 1 - i = k by omega, hx]
          · by_cases e2 : i = k
            · rw [if_neg e1, if_pos e2, if_pos (by omega), show n - 1 - i = n - 1 - k by omega, hy]
            · rw [if_neg e1, if_neg e2]
              by_cases e3 : i < n ∧ (i < k ∨ n ≤ i + k)
              · rw [if_pos e3, if_pos ⟨e3.1, by omega⟩]
              · rw [if_neg e3, if_neg (by omega)]
        · show ((wr.setCell ⟨g, k, none⟩ (.bool y)).setCell ⟨g, j, none⟩ (.bool x)).heap.size = _
          rw [nblk_setCell, nblk_setCell]; exact hs
        · refine ⟨hbt.os, hbt.tape, hbt.output, ?_, fun i hi hne => ?_⟩
          · show w.heap.size ≤ ((wr.setCell ⟨g, k, none⟩ (.bool y)).setCell ⟨g, j, none⟩ (.bool x)).heap.size
            rw [nblk_setCell, nblk_setCell]; omega
          · show ((wr.setCell ⟨g, k, none⟩ (.bool y)).setCell ⟨g, j, none⟩ (.bool x)).heap[i]? = _
            rw [blk_setCell_other _ _ _ _ hne, blk_setCell_other _ _ _ _ hne]; exact hbt.block i hi hne)
      have HJ : Hid _ := hj
      clear hj hji
      go_upto_region 3 with fail
      refine wp_region_noPanic ?_
      refine wp_region_held_drew (S := fun w' => True) (by kernel_rfl) trivial (fun hHeld => ?_)
      refine take_op (i := 0) (v := ?va0) rfl (by kernel_rfl) (by kernel_rfl) (by kernel_rfl) (fun _ _ _ h => h) rfl hHeld ?ya0 ?ra0
      case ya0 => (intro wz hz; go_simp; first | done | with_reducible rfl)
      try simp only [Act.put, List.setIfInBounds_toArray, List.set_cons_zero, List.set_cons_succ]
      refine take_op (i := 1) (v := ?va1) rfl (by kernel_rfl) (by kernel_rfl) (by kernel_rfl) (fun _ _ _ h => h) rfl hHeld ?ya1 ?ra1
      case ya1 => (intro wz hz; go_simp; first | done | with_reducible rfl)
      try simp only [Act.put, List.setIfInBounds_toArray, List.set_cons_zero, List.set_cons_succ]
      refine take_op (i := 2) (v := ?va2) rfl (by kernel_rfl) (by kernel_rfl) (by kernel_rfl) (fun _ _ _ h => h) rfl hHeld ?ya2 ?ra2
      case ya2 => (intro wz hz; go_simp; first | done | with_reducible rfl)
      try simp only [Act.put, List.setIfInBounds_toArray, List.set_cons_zero, List.set_cons_succ]
      refine take_op (i := 3) (v := ?va3) rfl (by kernel_rfl) (by kernel_rfl) (by kernel_rfl) (fun _ _ _ h => h) rfl hHeld ?ya3 ?ra3
      case ya3 => (intro wz hz; go_simp; first | done | with_reducible rfl)
      try simp only [Act.put, List.setIfInBounds_toArray, List.set_cons_zero, List.set_cons_succ]
      refine take_op (i := 4) (v := ?va4) rfl (by kernel_rfl) (by kernel_rfl) (by kernel_rfl) (fun _ _ _ h => h) rfl hHeld ?ya4 ?ra4
      case ya4 => (intro wz hz; go_simp; first | done | with_reducible rfl)
      try simp only [Act.put, List.setIfInBounds_toArray, List.set_cons_zero, List.set_cons_succ]
      refine take_op (i := 5) (v := ?va5) rfl (by kernel_rfl) (by kernel_rfl) (by kernel_rfl) (fun _ _ _ h => h) rfl hHeld ?ya5 ?ra5
      case ya5 => (intro wz hz; go_simp; first | done | with_reducible rfl)
      try simp only [Act.put, List.setIfInBounds_toArray, List.set_cons_zero, List.set_cons_succ]
      refine take_op (i := 6) (v := ?va6) rfl (by kernel_rfl) (by kernel_rfl) (by kernel_rfl) (fun _ _ _ h => h) rfl hHeld ?ya6 ?ra6
      case ya6 => (intro wz hz; go_simp; first | done | with_reducible rfl)
      try simp only [Act.put, List.setIfInBounds_toArray, List.set_cons_zero, List.set_cons_succ]
      refine take_op (i := 8) (v := ?va8) rfl (by kernel_rfl) (by kernel_rfl) (by kernel_rfl) (fun _ _ _ h => h) rfl hHeld ?ya8 ?ra8
      case ya8 => (intro wz hz; go_simp; first | done | with_reducible rfl)
      try simp only [Act.put, List.setIfInBounds_toArray, List.set_cons_zero, List.set_cons_succ]
      refine take_op (i := 9) (v := ?va9) rfl (by kernel_rfl) (by kernel_rfl) (by kernel_rfl) (fun _ _ _ h => h) rfl hHeld ?ya9 ?ra9
      case ya9 => (intro wz hz; go_simp; first | done | with_reducible rfl)
      try simp only [Act.put, List.setIfInBounds_toArray, List.set_cons_zero, List.set_cons_succ]
      refine take_op (i := 10) (v := ?va10) rfl (by kernel_rfl) (by kernel_rfl) (by kernel_rfl) (fun _ _ _ h => h) rfl hHeld ?ya10 ?ra10
      case ya10 => (intro wz hz; go_simp; first | done | with_reducible rfl)
      try simp only [Act.put, List.setIfInBounds_toArray, List.set_cons_zero, List.set_cons_succ]
      have ly : ∀ wz : World, wz.heap = wr.heap → wz.cell? ⟨g, j, none⟩ = some (.bool y) := fun wz hz => by rw [← cy]; simp [World.cell?, hz]
      have lx : ∀ wz : World, wz.heap = wr.heap → wz.cell? ⟨g, k, none⟩ = some (.bool x) := fun wz hz => by rw [← cx]; simp [World.cell?, hz]
      refine take_two (i := 7) (j := 11) (u := .bool y) (v := .bool x) rfl rfl (by kernel_rfl) rfl rfl trivial ?h7 ?h11 ?o7 ?o11
      case h7 => (have hcz := ly wr.drew rfl; go_simp; first | done | with_reducible rfl)
      case h11 => (have hcz := lx wr.drew rfl; go_simp; first | done | with_reducible rfl)
      case o7 =>
        try simp only [Act.put, List.setIfInBounds_toArray, List.set_cons_zero, List.set_cons_succ]
        refine take_run (i := 11) (v := .bool x) (w' := wr.drew) rfl (by kernel_rfl) rfl ?h11b trivial ?_
        case h11b => (have hcz := lx wr.drew rfl; go_simp; first | done | with_reducible rfl)
        try simp only [Act.put, List.setIfInBounds_toArray, List.set_cons_zero, List.set_cons_succ]
        refine take_op (i := 12) (v := ?vbp12) rfl (by kernel_rfl) (by kernel_rfl) (by kernel_rfl) (fun _ _ _ h => h) rfl hHeld ?ybp12 ?rbp12
        case ybp12 => (intro wz hz; go_simp; first | done | with_reducible rfl)
        try simp only [Act.put, List.setIfInBounds_toArray, List.set_cons_zero, List.set_cons_succ]
        refine take_one (i := 13) rfl (by kernel_rfl) rfl (fun K hK => ?_)
        have f1 := fz k
        go_simp
        refine hK.out _ _ trivial (fun hHeld => ?_)
        clear hK K
        try simp only [Act.put, List.setIfInBounds_toArray, List.set_cons_zero, List.set_cons_succ]
        refine take_op (i := 14) (v := ?vbp14) rfl (by kernel_rfl) (by kernel_rfl) (by kernel_rfl) (fun _ _ _ h => h) rfl hHeld ?ybp14 ?rbp14
        case ybp14 => (intro wz hz; go_simp; first | done | with_reducible rfl)
        try simp only [Act.put, List.setIfInBounds_toArray, List.set_cons_zero, List.set_cons_succ]
        refine take_one (i := 15) rfl (by kernel_rfl) rfl (fun K hK => ?_)
        go_simp
        refine hK.out _ _ trivial (fun hHeld => ?_)
        clear hK K
        try simp only [Act.put, List.setIfInBounds_toArray, List.set_cons_zero, List.set_cons_succ]
        refine wpAnyH_done (by kernel_rfl) ?_ _
        refine NoPanic.normal ?_
        clear cx cy fz hr hbt hs ly lx
        go_wp2
        go_light
        have hj := HJ.out
        exact ⟨⟨k + 1, by go_num, by congr 1; omega, by omega, FIN.out.1, FIN.out.2.1, FIN.out.2.2⟩, by simp [intOf]; omega⟩
      case o11 =>
        try simp only [Act.put, List.setIfInBounds_toArray, List.set_cons_zero, List.set_cons_succ]
        refine take_run (i := 7) (v := .bool y) (w' := wr.drew) rfl (by kernel_rfl) rfl ?h7b trivial ?_
        case h7b => (have hcz := ly wr.drew rfl; go_simp; first | done | with_reducible rfl)
        try simp only [Act.put, List.setIfInBounds_toArray, List.set_cons_zero, List.set_cons_succ]
        refine take_op (i := 12) (v := ?vbq12) rfl (by kernel_rfl) (by kernel_rfl) (by kernel_rfl) (fun _ _ _ h => h) rfl hHeld ?ybq12 ?rbq12
        case ybq12 => (intro wz hz; go_simp; first | done | with_reducible rfl)
        try simp only [Act.put, List.setIfInBounds_toArray, List.set_cons_zero, List.set_cons_succ]
        refine take_one (i := 13) rfl (by kernel_rfl) rfl (fun K hK => ?_)
        have f1 := fz k
        go_simp
        refine hK.out _ _ trivial (fun hHeld => ?_)
        clear hK K
        try simp only [Act.put, List.setIfInBounds_toArray, List.set_cons_zero, List.set_cons_succ]
        refine take_op (i := 14) (v := ?vbq14) rfl (by kernel_rfl) (by kernel_rfl) (by kernel_rfl) (fun _ _ _ h => h) rfl hHeld ?ybq14 ?rbq14
        case ybq14 => (intro wz hz; go_simp; first | done | with_reducible rfl)
        try simp only [Act.put, List.setIfInBounds_toArray, List.set_cons_zero, List.set_cons_succ]
        refine take_one (i := 15) rfl (by kernel_rfl) rfl (fun K hK => ?_)
        go_simp
        refine hK.out _ _ trivial (fun hHeld => ?_)
        clear hK K
        try simp only [Act.put, List.setIfInBounds_toArray, List.set_cons_zero, List.set_cons_succ]
        refine wpAnyH_done (by kernel_rfl) ?_ _
        refine NoPanic.normal ?_
        clear cx cy fz hr hbt hs ly lx
        go_wp2
        go_light
        have hj := HJ.out
        exact ⟨⟨k + 1, by go_num, by congr 1; omega, by omega, FIN.out.1, FIN.out.2.1, FIN.out.2.2⟩, by simp [intOf]; omega⟩
    · have hcc : ¬ (k : Int) < (n : Int) - 1 - (k : Int) := by omega
      have RES : Hid (wr.rowIs g 4 cap (fun i => if i < n then F (n - 1 - i) else F i)) := (show wr.rowIs g 4 cap (fun i => if i < n then F (n - 1 - i) else F i) from hr.congr fun i hi => by
        by_cases e : i < n
        · rw [if_pos e]; exact revF_end F (by omega) hk e
        · rw [if_neg e]; unfold revF; rw [if_neg (fun h => e h.1)])
      have HB2 : Hid _ := hbt
      clear hr hbt
      go_wp2
      go_end0
      exact ⟨rfl, RES.out, hs, HB2.out⟩
end Go.Proofs.YtppfeilndcdoeaaDoor

/- A load, a store of a whole row, by what its run comes to; slices of sums of the call's own. -/
namespace Go.Proofs.YtppfeilndcdoeaaDoor
set_option linter.unusedSimpArgs false
set_option linter.unusedVariables false
open Go.RowKit Go.Deep

section
variable {P : Program}
theorem exec_load_row {o : Oper} {ev : Operand → Value} {w : World} (ty : TypeId) (x : Operand) (ho : o.op = .load ty x) (b s m : Nat) (g : Nat → Value) (hx : ev x = .pointer (some ⟨b, s, none⟩)) (d : TypeDesc)
    (hu : P.underlying ty = some d) (hd : d.isRow = true) (hi : (P.info? ty).map (·.size) = some m) (hc : ∀ i, i < m → w.cell? ⟨b, s + i, none⟩ = some (g i)) : (execOp ev o).run P w = .ok (.value (.agg (rowV m g))) w := by
  have e : (rowV m g) = (rowV m g).toList.toArray := by rw [Array.toArray_toList]
  rw [e]
  unfold execOp
  simp only [ho, hx, Instr.loadAt, Instr.sureAddr, Sem.run_bind, Sem.run_pure, Result.andThen_ok, run_loadVar_mid w b s ty (rowV m g).toList d (range_of_cells hc) hu hd (by rw [hi, Array.length_toList, rowV_size])]
/-- a store of a whole row. -/
theorem stowR_run (w : World) (ty : TypeId) (b s m : Nat) (g : Nat → Value) (hi : (P.info? ty).map (·.size) = some m) (h1 : ∀ i, i < m → (g i).oneCell' = true) (ht : w.there b s m) : (storeVar ty ⟨b, s, none⟩ (.agg (rowV m g))).run P w = .ok () (w.setCells b s (rowV m g).toList) := by
  have h2 : (rowV m g).all (·.oneCell') = true := by
    rw [Array.all_eq_true_iff_forall_mem]
    intro v hv
    obtain ⟨i, hi', rfl⟩ := Array.mem_iff_getElem.1 hv
    have hlt : i < m := by rw [rowV_size] at hi'; exact hi'
    have := rowV_get m g i hlt
    rw [Array.getElem?_eq_getElem hi'] at this
    rw [Option.some.inj this]; exact h1 i hlt
  exact run_storeVar_mid (P := P) w b s ty (rowV m g) (by rw [rowV_size]; exact ht) (by rw [hi, rowV_size]) h2
end
/-- the cells of sums, one behind the other. -/
def sumC (q : List Int) : List Value := (rowV 32 (arrV q)).toList
theorem sumC_len (q : List Int) : (sumC q).length = 32 := by simp [sumC, rowV_size]
theorem sumC_get (q : List Int) (j : Nat) (h : j < 32) : (sumC q)[j]? = some (arrV q j) := by rw [sumC, Array.getElem?_toList]; exact rowV_get _ _ _ h
theorem sumsC_len : ∀ L : List (List Int), (L.flatMap sumC).length = L.length * 32
  | [] => rfl
  | x :: N => by rw [List.flatMap_cons, List.length_append, sumC_len, sumsC_len N, List.length_cons]; omega
theorem sumsC_get : ∀ (L : List (List Int)) (i j : Nat) (x : List Int), L[i]? = some x → j < 32 → (L.flatMap sumC)[i * 32 + j]? = some (arrV x j)
  | [], i, j, x, h, _ => by simp at h
  | y :: N, 0, j, x, h, hj => by
    have e : y = x := by simpa using h
    subst e
    rw [List.flatMap_cons, Nat.zero_mul, Nat.zero_add, List.getElem?_append_left (by rw [sumC_len]; exact hj)]
    exact sumC_get _ _ hj
  | y :: N, i + 1, j, x, h, hj => by
    rw [List.flatMap_cons, List.getElem?_append_right (by rw [sumC_len]; omega), sumC_len, show (i + 1) * 32 + j - 32 = i * 32 + j by omega]
    exact sumsC_get N i j x (by simpa using h) hj
theorem sumC_one (q : List Int) : ∀ u ∈ sumC q, u.oneCell' = true := by
  intro u hu
  rw [sumC, Array.mem_toList_iff] at hu
  obtain ⟨k, hk, rfl⟩ := Array.mem_iff_getElem.1 hu
  have hk' : k < 32 := by rw [rowV_size] at hk; exact hk
  have := rowV_get 32 (arrV q) k hk'
  rw [Array.getElem?_eq_getElem hk] at this
  rw [Option.some.inj this]; rfl
/-- v is a slice of these sums, in a block of its own from B on. -/
def newSums (w : World) (B : Nat) (v : Value) (L : List (List Int)) : Prop := (∀ x ∈ L, isSum x) ∧ w.ownsRow B 28 32 v L.length (L.flatMap sumC)
theorem newSums.is {w : World} {B : Nat} {v : Value} {L : List (List Int)} (h : newSums w B v L) : sumsAt w v L := by
  obtain ⟨hs, ho⟩ := h
  obtain ⟨a, c, rfl, hc, hm, hg⟩ := ownsRow_slice ho
  refine ⟨hs, a, c, rfl, hc, hm, fun h0 => ?_⟩
  obtain ⟨g, rfl, hlt, _, hcell⟩ := hg h0
  refine ⟨g, 0, rfl, hlt, fun i hi j hj => ?_⟩
  rw [Nat.zero_add]
  exact hcell _ _ (sumsC_get L i j _ (List.getElem?_eq_getElem hi) hj)
theorem newSums.nil (w : World) (B : Nat) : newSums w B (.slice none 0 0) [] := ⟨fun x hx => by simp at hx, rfl, Or.inl ⟨rfl, rfl⟩⟩
theorem newSums.far {w w' : World} {B : Nat} {v : Value} {L : List (List Int)} (h : newSums w B v L) (hb : ∀ k, v.ownBlock = some k → w'.heap[k]? = w.heap[k]?) : newSums w' B v L := ⟨h.1, ownsRow_far h.2 hb⟩
theorem newSums.block {w : World} {B : Nat} {v : Value} {L : List (List Int)} (h : newSums w B v L) (k : Nat) (hk : v.ownBlock = some k) : B ≤ k ∧ k < w.heap.size := ownsRow_block h.2 k hk
theorem newSums.below {w w' : World} {B C : Nat} {v : Value} {L : List (List Int)} (h : newSums w B v L) (hb : Below C w w') (hC : w.heap.size ≤ C) : newSums w' B v L :=
  h.far fun k hk => hb.block k (Nat.lt_of_lt_of_le (h.block k hk).2 hC)
theorem newSums.lower {w : World} {B C : Nat} {v : Value} {L : List (List Int)} (h : newSums w B v L) (hC : C ≤ B) : newSums w C v L := ⟨h.1, ownsRow_lower h.2 hC⟩
theorem infoS32 : (Tryd.prog.info? 28).map (fun i => (i.zero, i.size, i.bytes)) = some (some (.agg (rowV 32 (fun _ => .int .u8 0))), 32, 32) := by kernel_rfl
/-- append of sums to sums of the call's own. -/
theorem sums_append (w : World) (B : Nat) (v : Value) (L : List (List Int)) (hv : newSums w B v L) (sv : Value) (K : List (List Int)) (hK : sumsAt w sv K) (hn : L.length + K.length < 1000000) (hB : B ≤ w.heap.size) :
    ∃ a c w', (Builtin.append_ #[22, 22] 22 #[v, sv]).run Tryd.prog w = .ok (.slice a (L.length + K.length) c) w' ∧ newSums w' B (.slice a (L.length + K.length) c) (L ++ K) ∧ w.grownBy w' v.ownBlock ∧
      ((Value.slice a (L.length + K.length) c).ownBlock = v.ownBlock ∨ (Value.slice a (L.length + K.length) c).ownBlock = some w.heap.size) := by
  obtain ⟨hs, hv⟩ := hv
  obtain ⟨hs2, a, cap, rfl, hc, hm, hcl⟩ := hK
  obtain ⟨a', c', w', hr, ho, hg, hat⟩ := row_append (P := Tryd.prog) w 22 22 28 _ 32 32 Tryd.underlying22 infoS32 (by simp [Value.cells, rowV_size]) (by omega)
    B v L.length _ hv (.slice a K.length cap) K.length (K.flatMap sumC) (sumsC_len K)
    ⟨_, _, rfl, fun h0 => by
      obtain ⟨g, o, rfl, hg, hcell⟩ := hcl h0
      refine ⟨g, o, rfl, fun j u hj => ?_⟩
      have hjl : j < K.length * 32 := by rw [← sumsC_len K]; exact (List.getElem?_eq_some_iff.1 hj).1
      have h1 := hcell (j / 32) (by omega) (j % 32) (by omega)
      have h2 := sumsC_get K (j / 32) (j % 32) _ (List.getElem?_eq_getElem (by omega : j / 32 < K.length)) (by omega)
      rw [show j / 32 * 32 + j % 32 = j by omega, hj] at h2
      rw [show o + j / 32 * 32 + j % 32 = o + j by omega, ← Option.some.inj h2] at h1
      exact h1⟩
    (fun u hu => by
      obtain ⟨q, _, hq⟩ := List.mem_flatMap.1 hu
      exact sumC_one q u hq) (by unfold maxLen; omega) (by omega) hB
  refine ⟨a', c', w', hr, ⟨fun x hx => ?_, ?_⟩, hg, hat⟩
  · rcases List.mem_append.1 hx with h | h
    · exact hs x h
    · exact hs2 x h
  · rw [List.flatMap_append, List.length_append]; exact ho
end Go.Proofs.YtppfeilndcdoeaaDoor

/- slices.Reverse of sums. -/
namespace Go.Proofs.YtppfeilndcdoeaaDoor
set_option linter.unusedSimpArgs false
set_option linter.unusedVariables false
open Go.RowKit Go.Deep

/-- the cells behind k swaps. -/
def revG (G : Nat → Nat → Value) (n k i j : Nat) : Value := if i < n ∧ (i < k ∨ n ≤ i + k) then G (n - 1 - i) j else G i j
theorem revG_lo (G : Nat → Nat → Value) {n k : Nat} (h : 2 * k + 1 < n) (j : Nat) : revG G n k k j = G k j ∧ revG G n k (n - 1 - k) j = G (n - 1 - k) j := by
  unfold revG; rw [if_neg (by omega), if_neg (by omega)]; exact ⟨rfl, rfl⟩
theorem revG_end (G : Nat → Nat → Value) {n k i : Nat} (h : n ≤ 2 * k + 1) (hk : 2 * k ≤ n + 1) (hi : i < n) (j : Nat) : revG G n k i j = G (n - 1 - i) j := by
  unfold revG
  by_cases e : i < k ∨ n ≤ i + k
  · rw [if_pos ⟨hi, e⟩]
  · rw [if_neg (fun h => e h.2)]; congr 1; omega
set_option maxHeartbeats 600000 in
set_option maxRecDepth 100000 in
theorem revSum_any (g n cap : Nat) (G : Nat → Nat → Value) (w : World) (h : w.rowIs g 28 (cap * 32) (fun c => G (c / 32) (c % 32))) (hb : ∀ i j, i < n → j < 32 → (G i j).oneCell' = true) (hn : n ≤ cap) (hm : n ≤ 1000) :
    Calls Tryd.prog 30 #[.slice (some ⟨g, 0, none⟩) n cap] w fun e w' => e = .returned (.tuple #[]) ∧ w'.rowIs g 28 (cap * 32) (fun c => if c / 32 < n then G (n - 1 - c / 32) (c % 32) else G (c / 32) (c % 32)) ∧ w'.heap.size = w.heap.size ∧ But w.heap.size g w w' := by
  have q0 : (n : Int) ≤ 1000 := by omega
  have hlt := h.lt
  have H0 : Hid _ := h
  have HB : Hid _ := hb
  clear h hb
  go_enter Tryd.func30, Tryd.ntmps30
  go_wp2
  go_loopw [2, 3] (fun x y wr => ∃ k : Nat, x = .int .i64 (k : Int) ∧ y = .int .i64 ((n : Int) - 1 - (k : Int)) ∧ 2 * k ≤ n + 1 ∧ wr.rowIs g 28 (cap * 32) (fun c => revG G n k (c / 32) (c % 32)) ∧ wr.heap.size = w.heap.size ∧ But w.heap.size g w wr) (fun x _ _ => n - (intOf x).toNat)
  case atStart => exact ⟨0, rfl, by simp, by omega, World.rowIs.congr H0.out (fun i _ => by unfold revG; rw [if_neg (by omega)]), rfl, But.refl _ _ _⟩
  case round =>
    obtain ⟨k, rfl, rfl, hk, hr, hs, hbt⟩ := hrel
    clear H0
    by_cases hc : 2 * k + 1 < n
    · obtain ⟨j, hj⟩ : ∃ j : Nat, j = n - 1 - k := ⟨_, rfl⟩
      have hl := revG_lo G hc
      have cx : ∀ i, i < 32 → wr.cell? ⟨g, k * 32 + i, none⟩ = some (G k i) := fun i hi => by
        rw [hr.cell (by omega), show (k * 32 + i) / 32 = k by omega, show (k * 32 + i) % 32 = i by omega, (hl i).1]
      have cy : ∀ i, i < 32 → wr.cell? ⟨g, j * 32 + i, none⟩ = some (G j i) := fun i hi => by
        rw [hr.cell (by omega), show (j * 32 + i) / 32 = j by omega, show (j * 32 + i) % 32 = i by omega, hj, (hl i).2]
      have hji : ((n : Int) - 1 - (k : Int)) = (j : Int) := by omega
      rw [hji]
      have p0 : (0 : Int) ≤ (k : Int) := by omega
      have p1 : (k : Int) < (n : Int) := by omega
      have p2 : (0 : Int) ≤ (j : Int) := by omega
      have p3 : (j : Int) < (n : Int) := by omega
      have p4 : (k : Int) < (j : Int) := by omega
      have th1 : wr.drew.there g (k * 32) 32 := there_of_row (w := wr.drew) hr (by omega)
      have r1 := rowIs_splice (o := k * 32) (m := 32) (g := G j) hr
      have th2 : (wr.drew.setCells g (k * 32) (rowV 32 (G j)).toList).there g (j * 32) 32 := there_of_row (rowIs_splice (o := k * 32) (m := 32) (g := G j) (w := wr.drew) hr) (by omega)
      have FIN : Hid (((wr.drew.setCells g (k * 32) (rowV 32 (G j)).toList).setCells g (j * 32) (rowV 32 (G k)).toList).rowIs g 28 (cap * 32) (fun c => revG G n (k + 1) (c / 32) (c % 32)) ∧ ((wr.drew.setCells g (k * 32) (rowV 32 (G j)).toList).setCells g (j * 32) (rowV 32 (G k)).toList).heap.size = w.heap.size ∧ But w.heap.size g w ((wr.drew.setCells g (k * 32) (rowV 32 (G j)).toList).setCells g (j * 32) (rowV 32 (G k)).toList)) := (show _ from by
        have R2 := rowIs_splice (o := j * 32) (m := 32) (g := G k) (rowIs_splice (o := k * 32) (m := 32) (g := G j) (w := wr.drew) hr)
        refine ⟨R2.congr fun i hi => ?_, ?_, ?_⟩
        · show (if j * 32 ≤ i ∧ i < j * 32 + 32 then G k (i - j * 32) else if k * 32 ≤ i ∧ i < k * 32 + 32 then G j (i - k * 32) else revG G n k (i / 32) (i % 32)) = _
          unfold revG
          by_cases e1 : i / 32 = j
          · rw [if_pos (by omega), if_pos (by omega), show n - 1 - i / 32 = k by omega, show i - j * 32 = i % 32 by omega]
          · rw [if_neg (by omega)]
            by_cases e2 : i / 32 = k
            · rw [if_pos (by omega), if_pos (by omega), show n - 1 - i / 32 = j by omega, show i - k * 32 = i % 32 by omega]
            · rw [if_neg (by omega)]
              by_cases e3 : i / 32 < n ∧ (i / 32 < k ∨ n ≤ i / 32 + k)
              · rw [if_pos e3, if_pos ⟨e3.1, by omega⟩]
              · rw [if_neg e3, if_neg (by omega)]
        · rw [size_setCells, size_setCells]; exact hs
        · exact but_setCells _ _ (but_setCells _ _ hbt.drew))
      have HJ : Hid _ := hj
      have o1 := fun i (hi : i < 32) => HB.out k i (by omega) hi
      have o2 := fun i (hi : i < 32) => HB.out j i (by omega) hi
      clear hj hji hr hl r1
      go_upto_region 3 with fail
      refine wp_region_noPanic ?_
      refine wp_region_held_drew (S := fun w' => True) (by kernel_rfl) trivial (fun hHeld => ?_)
      refine take_op (i := 0) (v := ?va0) rfl (by kernel_rfl) (by kernel_rfl) (by kernel_rfl) (fun _ _ _ h => h) rfl hHeld ?ya0 ?ra0
      case ya0 => (intro wz hz; go_simp; first | done | with_reducible rfl)
      try simp only [Act.put, List.setIfInBounds_toArray, List.set_cons_zero, List.set_cons_succ]
      refine take_op (i := 1) (v := ?va1) rfl (by kernel_rfl) (by kernel_rfl) (by kernel_rfl) (fun _ _ _ h => h) rfl hHeld ?ya1 ?ra1
      case ya1 => (intro wz hz; go_simp; first | done | with_reducible rfl)
      try simp only [Act.put, List.setIfInBounds_toArray, List.set_cons_zero, List.set_cons_succ]
      refine take_op (i := 2) (v := ?va2) rfl (by kernel_rfl) (by kernel_rfl) (by kernel_rfl) (fun _ _ _ h => h) rfl hHeld ?ya2 ?ra2
      case ya2 => (intro wz hz; go_simp; first | done | with_reducible rfl)
      try simp only [Act.put, List.setIfInBounds_toArray, List.set_cons_zero, List.set_cons_succ]
      refine take_op (i := 3) (v := ?va3) rfl (by kernel_rfl) (by kernel_rfl) (by kernel_rfl) (fun _ _ _ h => h) rfl hHeld ?ya3 ?ra3
      case ya3 => (intro wz hz; go_simp; first | done | with_reducible rfl)
      try simp only [Act.put, List.setIfInBounds_toArray, List.set_cons_zero, List.set_cons_succ]
      refine take_op (i := 4) (v := ?va4) rfl (by kernel_rfl) (by kernel_rfl) (by kernel_rfl) (fun _ _ _ h => h) rfl hHeld ?ya4 ?ra4
      case ya4 => (intro wz hz; go_simp; first | done | with_reducible rfl)
      try simp only [Act.put, List.setIfInBounds_toArray, List.set_cons_zero, List.set_cons_succ]
      refine take_op (i := 5) (v := ?va5) rfl (by kernel_rfl) (by kernel_rfl) (by kernel_rfl) (fun _ _ _ h => h) rfl hHeld ?ya5 ?ra5
      case ya5 => (intro wz hz; go_simp; first | done | with_reducible rfl)
      try simp only [Act.put, List.setIfInBounds_toArray, List.set_cons_zero, List.set_cons_succ]
      refine take_op (i := 6) (v := ?va6) rfl (by kernel_rfl) (by kernel_rfl) (by kernel_rfl) (fun _ _ _ h => h) rfl hHeld ?ya6 ?ra6
      case ya6 => (intro wz hz; go_simp; first | done | with_reducible rfl)
      try simp only [Act.put, List.setIfInBounds_toArray, List.set_cons_zero, List.set_cons_succ]
      refine take_op (i := 8) (v := ?va8) rfl (by kernel_rfl) (by kernel_rfl) (by kernel_rfl) (fun _ _ _ h => h) rfl hHeld ?ya8 ?ra8
      case ya8 => (intro wz hz; go_simp; first | done | with_reducible rfl)
      try simp only [Act.put, List.setIfInBounds_toArray, List.set_cons_zero, List.set_cons_succ]
      refine take_op (i := 9) (v := ?va9) rfl (by kernel_rfl) (by kernel_rfl) (by kernel_rfl) (fun _ _ _ h => h) rfl hHeld ?ya9 ?ra9
      case ya9 => (intro wz hz; go_simp; first | done | with_reducible rfl)
      try simp only [Act.put, List.setIfInBounds_toArray, List.set_cons_zero, List.set_cons_succ]
      refine take_op (i := 10) (v := ?va10) rfl (by kernel_rfl) (by kernel_rfl) (by kernel_rfl) (fun _ _ _ h => h) rfl hHeld ?ya10 ?ra10
      case ya10 => (intro wz hz; go_simp; first | done | with_reducible rfl)
      try simp only [Act.put, List.setIfInBounds_toArray, List.set_cons_zero, List.set_cons_succ]
      refine take_two (i := 7) (j := 11) (u := .agg (rowV 32 (G j))) (v := .agg (rowV 32 (G k))) rfl rfl (by kernel_rfl) rfl rfl trivial ?h7 ?h11 ?o7 ?o11
      case h7 => exact exec_load_row 28 _ rfl g (j * 32) 32 (G j) rfl _ Tryd.underlying28 rfl hi32' cy
      case h11 => exact exec_load_row 28 _ rfl g (k * 32) 32 (G k) rfl _ Tryd.underlying28 rfl hi32' cx
      case o7 =>
        try simp only [Act.put, List.setIfInBounds_toArray, List.set_cons_zero, List.set_cons_succ]
        refine take_run (i := 11) (v := .agg (rowV 32 (G k))) (w' := wr.drew) rfl (by kernel_rfl) rfl ?h11b trivial ?_
        case h11b => exact exec_load_row 28 _ rfl g (k * 32) 32 (G k) rfl _ Tryd.underlying28 rfl hi32' cx
        try simp only [Act.put, List.setIfInBounds_toArray, List.set_cons_zero, List.set_cons_succ]
        refine take_op (i := 12) (v := ?vbp12) rfl (by kernel_rfl) (by kernel_rfl) (by kernel_rfl) (fun _ _ _ h => h) rfl hHeld ?ybp12 ?rbp12
        case ybp12 => (intro wz hz; go_simp; first | done | with_reducible rfl)
        try simp only [Act.put, List.setIfInBounds_toArray, List.set_cons_zero, List.set_cons_succ]
        refine take_one (i := 13) rfl (by kernel_rfl) rfl (fun K hK => ?_)
        have e13 := stowR_run (P := Tryd.prog) (wr.drew) 28 g (k * 32) 32 (G j) hi32' o2 th1
        unfold Oper.wp execOp
        simp only [Instr.storeAt, Instr.sureAddr, Sem.run_bind, Sem.run_pure, Result.andThen_ok]
        simp [Act.eval, e13, Oper.upon]
        clear e13
        refine hK.out _ _ trivial (fun hHeld => ?_)
        clear hK K
        try simp only [Act.put, List.setIfInBounds_toArray, List.set_cons_zero, List.set_cons_succ]
        refine take_op (i := 14) (v := ?vbp14) rfl (by kernel_rfl) (by kernel_rfl) (by kernel_rfl) (fun _ _ _ h => h) rfl hHeld ?ybp14 ?rbp14
        case ybp14 => (intro wz hz; go_simp; first | done | with_reducible rfl)
        try simp only [Act.put, List.setIfInBounds_toArray, List.set_cons_zero, List.set_cons_succ]
        refine take_one (i := 15) rfl (by kernel_rfl) rfl (fun K hK => ?_)
        have e15 := stowR_run (P := Tryd.prog) (wr.drew.setCells g (k * 32) (rowV 32 (G j)).toList) 28 g (j * 32) 32 (G k) hi32' o1 th2
        unfold Oper.wp execOp
        simp only [Instr.storeAt, Instr.sureAddr, Sem.run_bind, Sem.run_pure, Result.andThen_ok]
        simp [Act.eval, e15, Oper.upon]
        clear e15
        refine hK.out _ _ trivial (fun hHeld => ?_)
        clear hK K
        try simp only [Act.put, List.setIfInBounds_toArray, List.set_cons_zero, List.set_cons_succ]
        refine wpAnyH_done (by kernel_rfl) ?_ _
        refine NoPanic.normal ?_
        clear cx cy hbt hs th1 th2 o1 o2
        generalize (wr.drew.setCells g (k * 32) (rowV 32 (G j)).toList).setCells g (j * 32) (rowV 32 (G k)).toList = w9 at FIN ⊢
        go_wp2
        go_light
        have hj := HJ.out
        exact ⟨⟨k + 1, by go_num, by congr 1; omega, by omega, FIN.out.1, FIN.out.2.1, FIN.out.2.2⟩, by simp [intOf]; omega⟩
      case o11 =>
        try simp only [Act.put, List.setIfInBounds_toArray, List.set_cons_zero, List.set_cons_succ]
        refine take_run (i := 7) (v := .agg (rowV 32 (G j))) (w' := wr.drew) rfl (by kernel_rfl) rfl ?h7b trivial ?_
        case h7b => exact exec_load_row 28 _ rfl g (j * 32) 32 (G j) rfl _ Tryd.underlying28 rfl hi32' cy
        try simp only [Act.put, List.setIfInBounds_toArray, List.set_cons_zero, List.set_cons_succ]
        refine take_op (i := 12) (v := ?vbq12) rfl (by kernel_rfl) (by kernel_rfl) (by kernel_rfl) (fun _ _ _ h => h) rfl hHeld ?ybq12 ?rbq12
        case ybq12 => (intro wz hz; go_simp; first | done | with_reducible rfl)
        try simp only [Act.put, List.setIfInBounds_toArray, List.set_cons_zero, List.set_cons_succ]
        refine take_one (i := 13) rfl (by kernel_rfl) rfl (fun K hK => ?_)
        have e13 := stowR_run (P := Tryd.prog) (wr.drew) 28 g (k * 32) 32 (G j) hi32' o2 th1
        unfold Oper.wp execOp
        simp only [Instr.storeAt, Instr.sureAddr, Sem.run_bind, Sem.run_pure, Result.andThen_ok]
        simp [Act.eval, e13, Oper.upon]
        clear e13
        refine hK.out _ _ trivial (fun hHeld => ?_)
        clear hK K
        try simp only [Act.put, List.setIfInBounds_toArray, List.set_cons_zero, List.set_cons_succ]
        refine take_op (i := 14) (v := ?vbq14) rfl (by kernel_rfl) (by kernel_rfl) (by kernel_rfl) (fun _ _ _ h => h) rfl hHeld ?ybq14 ?rbq14
        case ybq14 => (intro wz hz; go_simp; first | done | with_reducible rfl)
        try simp only [Act.put, List.setIfInBounds_toArray, List.set_cons_zero, List.set_cons_succ]
        refine take_one (i := 15) rfl (by kernel_rfl) rfl (fun K hK => ?_)
        have e15 := stowR_run (P := Tryd.prog) (wr.drew.setCells g (k * 32) (rowV 32 (G j)).toList) 28 g (j * 32) 32 (G k) hi32' o1 th2
        unfold Oper.wp execOp
        simp only [Instr.storeAt, Instr.sureAddr, Sem.run_bind, Sem.run_pure, Result.andThen_ok]
        simp [Act.eval, e15, Oper.upon]
        clear e15
        refine hK.out _ _ trivial (fun hHeld => ?_)
        clear hK K
        try simp only [Act.put, List.setIfInBounds_toArray, List.set_cons_zero, List.set_cons_succ]
        refine wpAnyH_done (by kernel_rfl) ?_ _
        refine NoPanic.normal ?_
        clear cx cy hbt hs th1 th2 o1 o2
        generalize (wr.drew.setCells g (k * 32) (rowV 32 (G j)).toList).setCells g (j * 32) (rowV 32 (G k)).toList = w9 at FIN ⊢
        go_wp2
        go_light
        have hj := HJ.out
        exact ⟨⟨k + 1, by go_num, by congr 1; omega, by omega, FIN.out.1, FIN.out.2.1, FIN.out.2.2⟩, by simp [intOf]; omega⟩
    · have hcc : ¬ (k : Int) < (n : Int) - 1 - (k : Int) := by omega
      have RES : Hid (wr.rowIs g 28 (cap * 32) (fun c => if c / 32 < n then G (n - 1 - c / 32) (c % 32) else G (c / 32) (c % 32))) := (show wr.rowIs g 28 (cap * 32) (fun c => if c / 32 < n then G (n - 1 - c / 32) (c % 32) else G (c / 32) (c % 32)) from hr.congr fun i hi => by
        by_cases e : i / 32 < n
        · rw [if_pos e]; exact revG_end G (by omega) hk e _
        · rw [if_neg e]; unfold revG; rw [if_neg (fun h => e h.1)])
      have HB2 : Hid _ := hbt
      clear hr hbt
      go_wp2
      go_end0
      exact ⟨rfl, RES.out, hs, HB2.out⟩
/-- slices.Reverse of the call's own sums. -/
theorem revSums_any (B : Nat) (v : Value) (L : List (List Int)) (w : World) (h : newSums w B v L) (hm : L.length ≤ 1000) :
    Calls Tryd.prog 30 #[v] w fun e w' => e = .returned (.tuple #[]) ∧ newSums w' B v L.reverse ∧ w'.heap.size = w.heap.size ∧ (∀ j, v.ownBlock ≠ some j → j < w.heap.size → w'.heap[j]? = w.heap[j]?) ∧ Below B w w' := by
  obtain ⟨hs, hl, hh | ⟨g, cap, cur, rfl, hB, hg, hc, hmx, hcs, htk⟩⟩ := h
  · obtain ⟨rfl, h0⟩ := hh
    have e : L = [] := List.eq_nil_of_length_eq_zero h0
    subst e
    go_enter Tryd.func30, Tryd.ntmps30
    go_wp2
    go_loopw [2, 3] (fun x y wr => x = .int .i64 0 ∧ y = .int .i64 (-1) ∧ wr = w) (fun x _ _ => 0)
    case atStart => exact ⟨rfl, rfl, rfl⟩
    case round =>
      obtain ⟨rfl, rfl, rfl⟩ := hrel
      go_wp2
      go_end0
      exact ⟨rfl, newSums.nil _ _, rfl, fun _ _ _ => rfl, Below.refl _ _⟩
  · have hrow : w.rowIs g 28 (cap * 32) (fun c => cur.getD (c / 32 * 32 + c % 32) undef) := ⟨cur, hg, hcs, fun i hi => by show cur[i]? = some (cur.getD (i / 32 * 32 + i % 32) undef); rw [show i / 32 * 32 + i % 32 = i by omega, Array.getElem?_eq_getElem (by omega)]; simp [Array.getD, hcs, hi]⟩
    have hcell : ∀ i (hi : i < L.length) j, j < 32 → cur.getD (i * 32 + j) undef = arrV L[i] j := fun i hi j hj => by
      have h1 := sumsC_get L i j _ (List.getElem?_eq_getElem hi) hj
      rw [← htk, List.getElem?_take, if_pos (by omega), Array.getElem?_toList] at h1
      simp [Array.getD_eq_getD_getElem?, h1]
    refine (revSum_any g L.length cap (fun i j => cur.getD (i * 32 + j) undef) w hrow (fun i j hi hj => by rw [hcell i hi j hj]; rfl) hc hm).mono ?_
    rintro e w' ⟨rfl, hr, hz, hb⟩
    refine ⟨rfl, ⟨fun x hx => hs x (List.mem_reverse.1 hx), ?_⟩, hz, fun j hj hjl => hb.block j hjl (fun e => hj (by rw [e]; rfl)), ⟨hb.os, hb.tape, hb.output, hb.size, fun k hk => hb.block k (by have := (Array.getElem?_eq_some_iff.1 hg).1; omega) (by omega)⟩⟩
    obtain ⟨c', hb', hs', hc'⟩ := hr
    refine ⟨by rw [sumsC_len, List.length_reverse], Or.inr ⟨g, cap, c', by rw [List.length_reverse], hB, hb', by rw [List.length_reverse]; exact hc, hmx, hs', ?_⟩⟩
    refine List.ext_getElem? fun i => ?_
    rw [List.length_reverse]
    by_cases hi : i < L.length * 32
    · rw [List.getElem?_take, if_pos hi, Array.getElem?_toList, hc' i (by have := Nat.mul_le_mul_right 32 hc; omega)]
      show some (if i / 32 < L.length then cur.getD ((L.length - 1 - i / 32) * 32 + i % 32) undef else cur.getD (i / 32 * 32 + i % 32) undef) = _
      rw [if_pos (by omega), hcell _ (by omega) _ (by omega)]
      have h2 := sumsC_get L.reverse (i / 32) (i % 32) L[L.length - 1 - i / 32] (by rw [List.getElem?_reverse (by omega)]; exact List.getElem?_eq_getElem _) (by omega)
      rw [show i / 32 * 32 + i % 32 = i by omega] at h2
      exact h2.symm
    · rw [List.getElem?_take, if_neg hi, List.getElem?_eq_none (by rw [sumsC_len, List.length_reverse]; omega)]
end Go.Proofs.YtppfeilndcdoeaaDoor

/- A region in a round of a range over a function, by its plain walk; a range whose body keeps what the call has made. -/
namespace Go.Proofs.YtppfeilndcdoeaaDoor
open Go.RowKit Go.Shelf

/-- Q at the normal end alone. -/
def Calm (Q : Exit → Act → World → Prop) : Exit → Act → World → Prop
  | .normal, a, w => Q .normal a w
  | _, _, _ => False
theorem Calm.no {Q : Exit → Act → World → Prop} (h : LetsOut (Calm Q)) : False := by obtain ⟨_, _, h⟩ := h; exact h
def plainOp (o : Oper) : Bool := match o.op with | .defer _ => false | _ => true
theorem plainOp_is {o : Oper} (h : plainOp o = true) : ∀ c, o.op ≠ .defer c := by
  intro c hc
  unfold plainOp at h
  rw [hc] at h
  cases h
section
variable {P : Program} {ops : Array Oper} {Q : Exit → Act → World → Prop} {S : World → Prop} {md : Region.Mode}
theorem operIn_of_wp {l n : Nat} {o : Oper} {a : Act} {w : World} {K : Act → World → Prop} (hd : plainOp o = true) (h : o.wp P a w K (Calm Q) ∨ (o.asks P a w ∧ LetsOut (Calm Q))) : o.wpIn (Fence.wide.inRound l) n P a w K Q := by
  rcases h with h | h
  · refine ⟨fun _ _ => trivial, ?_⟩
    rw [Oper.semAt_plain _ _ _ (plainOp_is hd)]
    unfold Oper.wp at h
    generalize (execOp a.eval o).run P w = r at h ⊢
    cases r with
    | ok x w' =>
      cases x <;> simp only [Oper.upon, Oper.uponIn] at h ⊢
      case value v => exact h
      case skip => exact h
      case defer d => exact h
      case enter f args =>
        refine ⟨fun h => absurd h (by simp [Fence.wide]), CallsIn.inRound l ((callsIn_wide.2 h).mono fun e w'' he => ?_)⟩
        cases e with
        | returned v => exact he
        | panicked ch => exact (he : False).elim
        | outgrown => exact (Calm.no he).elim
      case row row args =>
        refine ⟨fun h => absurd h (by simp [Fence.wide]), fun c cs _ => ?_⟩
        obtain ⟨v, w'', hv, hs⟩ := h c cs
        exact ⟨v, w'', hv, stepsIn_wide.2 hs⟩
    | halt x w' =>
      cases x <;> simp only [Oper.upon, Oper.uponIn] at h ⊢
      case panic v => exact (h : False).elim
  · exact (Calm.no h.2).elim
theorem wpAnyIn_of_held {l n : Nat} (hd : ops.all plainOp = true) : ∀ (fuel : Nat) (listed : Array Bool) (a : Act) (w : World), wpAnyH P md ops (Calm Q) S fuel listed a w → wpAnyIn (Fence.wide.inRound l) n P md ops Q fuel listed a w
  | 0, _, _, _, h => ⟨h.1, h.2⟩
  | fuel + 1, listed, a, w, h => ⟨fun hr => h.1 hr, fun i hi => by
    have h2 := h.2 i hi
    unfold wpOp at h2
    unfold wpOpIn
    cases ho : ops[i]? with
    | none => rw [ho] at h2; exact wpAnyIn_of_held hd fuel _ a w h2.2
    | some o =>
      rw [ho] at h2
      have hpo : plainOp o = true := by
        rw [Array.all_eq_true_iff_forall_mem] at hd
        exact hd o (Array.mem_of_getElem? ho)
      simp only at h2 ⊢
      split
      · rename_i hw
        rw [if_pos hw] at h2
        exact Oper.wpIn_mono (fun a' w' h' => wpAnyIn_of_held hd fuel _ a' w' h'.2) (operIn_of_wp hpo h2)
      · rename_i hw
        rw [if_neg hw] at h2
        exact ⟨fun _ _ => trivial, wpAnyIn_of_held hd fuel _ _ _ h2.2⟩⟩
/-- A REGION THAT DRAWS, IN A ROUND: walked as anywhere. -/
theorem wpIn_region_round {l n id : Nat} {a : Act} {w : World} (hm : P.follows .mixedOrders = true) (hd : ops.all plainOp = true) (hS : S w.drew)
    (h : S w.drew → wpAnyH P .any ops (Calm Q) S ops.size (Array.replicate ops.size false) a w.drew) : (Code.region id ops true).wpIn (Fence.wide.inRound l) n P Q a w :=
  wpIn_region_any hm (wpAnyIn_of_held hd _ _ _ _ (h hS))
end
/-- append in a fence, by what its run comes to. -/
theorem wpListIn_append_run {F : Fence} {n : Nat} {P : Program} {ops : Array Oper} {rest : List Oper} {o : Oper} {a : Act} {w w' : World} {Q : Exit → Act → World → Prop} {v y r : Value} (hgd : o.guard = none) (s x : Operand) (t : TypeId)
    (ho : o.op = Op.call { callee := Callee.builtin Builtin.append, args := #[s, x], argTypes := #[t, t] }) (hs : a.eval s = v) (hx : a.eval x = y)
    (hr : (Builtin.append_ #[t, t] o.type #[v, y]).run P w = .ok r w') (h : wpListIn F n P ops Q rest (a.put o.dst r) w') : wpListIn F n P ops Q (o :: rest) a w := by
  refine wpListIn_plain hgd fun K hK' => ?_
  unfold Oper.wpIn
  refine ⟨?_, ?_⟩
  · simp [Oper.about, ho, resolve, Target.leads, Sem.run_pure]
  · rw [Oper.semAt_plain F _ _ (by rw [ho]; intro c hc'; cases hc')]
    simp [execOp, ho, resolve, invoke, builtin, hs, hx, hr, Result.andThen]
    exact hK' _ _ h
/-- behind a round's body: it goes on, the loop's two blocks lie as they lay. -/
def goesAt (D : Nat) (I : Nat → World → Prop) (k : Nat) (W : World) : Exit → Act → World → Prop
  | .normal, _, W' => W'.heap[D]? = W.heap[D]? ∧ W'.heap[D + 1]? = W.heap[D + 1]? ∧ I k W'
  | _, _, _ => False
/-- A RANGE OVER A FUNCTION THAT HANDS OUT A KNOWN LIST, whose rounds always go on, and turn whatever they like but the loop's own two blocks. -/
theorem wpIn_range_at {α : Type} {n : Nat} {P : Program} {g : Operand} {ps : Array Tmp} {assign body : Code} {Q : Exit → Act → World → Prop} {a : Act} {w : World}
    {gf : Nat} {lb : Array Value} (hg : a.eval g = .func (.func gf) #[] lb) (eg : ∀ args w, (callFunc gf args).run P w = .ok (.enter gf args) w)
    {encs : α → Array Value} {ys : List α} (hseq : hands (n - 1) P gf lb encs ys w) (hps : ∀ x, (encs x).size = ps.size)
    (I : Nat → World → Prop) (hI : ∀ k W x y, I k W → W.heap[w.heap.size + 1]? = some (.loop x) → I k (W.putObj (w.heap.size + 1) (.loop y))) (hd : ∀ k W, I k W → I k W.drew) (h0 : ∀ o o', I 0 ((w.alloc o).alloc o')) (a₁ : α → Act)
    (hassign : ∀ (l : Nat) (x : α) (W : World) (K : Act → World → Prop), K (a₁ x) W →
      assign.wpIn (Fence.wide.inRound l) (n - 1 - 1) P (Exit.then K (fun _ _ _ => False)) { tmps := (ps.zip (encs x)).foldl (fun t (p, v) => t.setIfInBounds p v) a.tmps, defers := [] } W)
    (hbody : ∀ (l k : Nat) (hk : k < ys.length) (W : World) (x : Loop), I k W → W.heap[w.heap.size]? = some (.deferred (some [])) → W.heap[w.heap.size + 1]? = some (.loop x) → body.wpIn (Fence.wide.inRound l) (n - 1 - 1) P (goesAt w.heap.size I (k + 1) W) (a₁ ys[k]) W)
    (hdone : ∀ (W : World), I ys.length W → W.heap[w.heap.size]? = some (.deferred (some [])) → Q .normal { a with defers := { target := .collected w.heap.size, args := #[] } :: a.defers } W) :
    (Code.rangeFunc g ps assign body).wpIn Fence.wide n P Q a w := by
  refine wpIn_rangeFunc fun fn hfn => ?_
  -- the record of the loop, in its two states
  obtain ⟨mk, hmk⟩ : ∃ mk : LoopState → Loop, mk = fun st => { state := st, pending := none, fn, tmps := a.tmps, params := ps, assign, body, defers := w.heap.size } := ⟨_, rfl⟩
  obtain ⟨W1, hW1⟩ : ∃ W1, W1 = (w.alloc (.deferred (some []))).alloc (.loop (mk .ready)) := ⟨_, rfl⟩
  have b1 : Below w.heap.size w W1 := by rw [hW1]; exact ((Below.refl _ _).alloc (Nat.le_refl _) _).alloc (by simp) _
  have c1 : W1.heap[w.heap.size + 1]? = some (.loop (mk .ready)) := by
    rw [hW1]; have := World.alloc_heap_new (w.alloc (.deferred (some []))) (.loop (mk .ready)); rwa [World.size_alloc] at this
  have d1 : W1.heap[w.heap.size]? = some (.deferred (some [])) := by
    rw [hW1]; exact (Below.heap_alloc _ _ _ (by simp)).trans (World.alloc_heap_new w _)
  have i1 : I 0 W1 := by rw [hW1]; exact h0 _ _
  refine ⟨w.heap.size + 1, [{ target := .collected w.heap.size, args := #[] }], W1, { target := .fn (.func gf) lb, args := #[.func (.yield (w.heap.size + 1)) #[] #[]] }, W1, gf, #[.func (.yield (w.heap.size + 1)) #[] #[]] ++ lb, W1, ?_, ?_, ?_, ?_, ?_, ?_⟩
  · rw [hW1, hmk]; exact run_enterLoop_outer _ _ _ _ _
  · simp only [resolve, hg]; simp [go_sem]
  · exact fun _ _ => trivial
  · simp [invoke, go_sem, eg]
  · exact fun h => absurd h (by simp [Fence.wide])
  · refine (hseq (w.heap.size + 1) (fun k W => I k W ∧ W.heap[w.heap.size + 1]? = some (.loop (mk .ready)) ∧ W.heap[w.heap.size]? = some (.deferred (some []))) W1 b1 (fun k W h => ⟨hd k W h.1, h.2⟩) ⟨i1, c1, d1⟩ ?_).mono ?_
    · rintro k hk W ⟨hi, hl, hD⟩
      have hlt : w.heap.size + 1 < W.heap.size := (Array.getElem?_eq_some_iff.1 hl).1
      have hy := run_yield (P := P) (args := encs ys[k]) hl (by rw [hmk]; exact hps _)
      have hbg := run_beginRound (P := P) hl (by rw [hmk])
      obtain ⟨W2, hW2⟩ : ∃ W2, W2 = W.putObj (w.heap.size + 1) (.loop { mk .ready with state := .busy }) := ⟨_, rfl⟩
      rw [← hW2] at hbg
      have l2 : W2.heap[w.heap.size + 1]? = some (.loop { mk .ready with state := .busy }) := by rw [hW2]; exact World.putObj_heap_same hlt
      have e2 : W2.heap[w.heap.size]? = some (.deferred (some [])) := by rw [hW2]; exact (World.putObj_heap_other (by omega)).trans hD
      have i2 : I k W2 := by rw [hW2]; exact hI _ _ _ _ hi hl
      have hlt2 : w.heap.size + 1 < W2.heap.size := (Array.getElem?_eq_some_iff.1 l2).1
      have hrec : mk .ready = { state := .ready, pending := none, fn := fn, tmps := a.tmps, params := ps, assign := assign, body := body, defers := w.heap.size } := by rw [hmk]
      rw [hrec] at hy
      refine ⟨fn, _, assign, body, hy, roundIn_of_wpIn hfn (hassign _ ys[k] W _ ⟨W2, hbg, wpIn_mono (hbody _ k hk W2 _ i2 e2 l2) ?_⟩)⟩
      rintro e a3 W3 hp
      cases e with
      | normal =>
        obtain ⟨hkD, hkl, hi3⟩ := hp
        have l3 := hkl.trans l2
        have hen := run_endRound (P := P) none l3
        have hlt3 : w.heap.size + 1 < W3.heap.size := (Array.getElem?_eq_some_iff.1 l3).1
        refine ⟨_, _, hen, rfl, hI _ _ _ _ hi3 l3, ?_, (World.putObj_heap_other (by omega)).trans (hkD.trans e2)⟩
        rw [World.putObj_heap_same (Array.getElem?_eq_some_iff.1 l3).1, hrec]; rfl
      | ret => exact hp.elim
      | exit id => exact hp.elim
      | goto t => exact hp.elim
      | panic ch => exact hp.elim
      | outgrown => exact hp.elim
    · rintro e W2 ⟨⟨v, rfl⟩, hi, hl, hD⟩
      have hen := run_endLoop (P := P) hl (by rw [hmk]; simp)
      have hlt2 : w.heap.size + 1 < W2.heap.size := (Array.getElem?_eq_some_iff.1 hl).1
      exact ⟨_, _, hen, by rw [hmk]; exact hdone _ (hI _ _ _ _ hi hl) ((World.putObj_heap_other (by omega)).trans hD)⟩
end Go.Proofs.YtppfeilndcdoeaaDoor

/- The book that is handed in, or none; a function's ways out, where it ranges over a function. -/
namespace Go.Proofs.YtppfeilndcdoeaaDoor
set_option linter.unusedSimpArgs false
set_option linter.unusedVariables false
open Go.RowKit Go.Deep

/-- kv is a book of these notes, all its memory in F, or nil. -/
def bkAt (kv : Value) (w : World) (F : Nat → Prop) (N : List Nt) (c : Int) : Prop :=
  (kv = .pointer none ∧ ∀ j, F j → j < w.heap.size) ∨ ∃ k, kv = .pointer (some ⟨k, 0, none⟩) ∧ bookAt w F k N c
section
variable {kv : Value} {w w' : World} {F G : Nat → Prop} {N : List Nt} {c : Int}
theorem bkAt.lt (h : bkAt kv w F N c) : ∀ j, F j → j < w.heap.size := by
  rcases h with ⟨_, h⟩ | ⟨k, _, h⟩
  · exact h
  · exact h.2.1
theorem bkAt.far (h : bkAt kv w F N c) (hb : ∀ j, F j → j < w.heap.size → w'.heap[j]? = w.heap[j]?) (hs : w.heap.size ≤ w'.heap.size) : bkAt kv w' F N c := by
  rcases h with ⟨e, h⟩ | ⟨k, e, h⟩
  · exact Or.inl ⟨e, fun j hj => Nat.lt_of_lt_of_le (h j hj) hs⟩
  · exact Or.inr ⟨k, e, h.far hb hs⟩
theorem bkAt.below {B : Nat} (h : bkAt kv w F N c) (hb : Below B w w') (hB : w.heap.size ≤ B) : bkAt kv w' F N c :=
  h.far (fun j _ hl => hb.block j (by omega)) hb.size
theorem bkAt.grow (h : bkAt kv w F N c) (hG : ∀ j, F j → G j) (hl : ∀ j, G j → j < w.heap.size) : bkAt kv w G N c := by
  rcases h with ⟨e, h⟩ | ⟨k, e, h⟩
  · exact Or.inl ⟨e, hl⟩
  · exact Or.inr ⟨k, e, h.grow hG hl⟩
theorem bkAt.drew (h : bkAt kv w F N c) : bkAt kv w.drew F N c := h.below ((Below.refl w.heap.size w).drew) (Nat.le_refl _)
end
/-- without a book nothing old turns. -/
theorem bkAt.none (w : World) (N : List Nt) (c : Int) : bkAt (.pointer none) w (fun _ => False) N c := Or.inl ⟨rfl, fun _ h => h.elim⟩
theorem Fr.none {w w' : World} (h : Fr (fun _ => False) w w') : Below w.heap.size w w' := h.below (fun _ f => f.elim) (Nat.le_refl _)
theorem node_k (F : Nat → Prop) (kv : Value) (N : List Nt) (c : Int) (L : List (List Int)) (v : Value) (w : World) (hk : bkAt kv w F N c) (h : sumsAt w v L) (hL : L.length ≤ 1000) (ht : tabIs w) (hF0 : ¬ F 0) (hN : N.length < 1000000) (hc : 0 ≤ c ∧ c < 1000000000) :
    Calls Tryd.prog 27 #[kv, v] w fun e w' => e = .returned (sumV (nodeS L)) ∧ bkAt kv w' (Gr F w w') (addN N (ntOf L)) (c + 1) ∧ Fr F w w' := by
  have hlt := hk.lt
  rcases hk with ⟨rfl, _⟩ | ⟨k, rfl, hk⟩
  · refine (node_nil L v w h hL ht).mono ?_
    rintro e w' ⟨rfl, hb⟩
    have := hb.size
    exact ⟨rfl, Or.inl ⟨rfl, fun j hj => by
      rcases hj with hj | hj
      · have := hlt j hj; omega
      · exact hj.2⟩, Fr.of_below F hb⟩
  · refine (node_book F k N c L v w hk h hL ht hF0 hN hc).mono ?_
    rintro e w' ⟨rfl, hb, hf⟩
    exact ⟨rfl, Or.inr ⟨k, rfl, hb⟩, hf⟩
theorem root_k (F : Nat → Prop) (kv : Value) (N : List Nt) (c : Int) (L : List (List Int)) (v : Value) (w : World) (hk : bkAt kv w F N c) (h : sumsAt w v L) (hvF : 0 < L.length → ∀ j, v.ownBlock = some j → ¬ F j) (hL : L.length ≤ 1000) (ht : tabIs w) (hF0 : ¬ F 0) (hN : N.length + L.length < 100000) (hc : 0 ≤ c ∧ c + L.length < 100000000) :
    Calls Tryd.prog 11 #[kv, v] w fun e w' => e = .returned (sumV (rootS L)) ∧ bkAt kv w' (Gr F w w') (rootN N L) (c + callsR L.length) ∧ Fr F w w' := by
  have hlt := hk.lt
  rcases hk with ⟨rfl, _⟩ | ⟨k, rfl, hk⟩
  · refine (root_nil 1000 L v w hL (Nat.le_refl _) h ht).mono ?_
    rintro e w' ⟨rfl, hb⟩
    have := hb.size
    exact ⟨rfl, Or.inl ⟨rfl, fun j hj => by
      rcases hj with hj | hj
      · have := hlt j hj; omega
      · exact hj.2⟩, Fr.of_below F hb⟩
  · refine (root_book 1000 F k N c L v w hL (Nat.le_refl _) hk h hvF ht hF0 (by omega) (by omega)).mono ?_
    rintro e w' ⟨rfl, hb, hf⟩
    exact ⟨rfl, Or.inr ⟨k, rfl, hb⟩, hf⟩
section
variable {P : Program} {fn : Func} {R : Ending → World → Prop} {a : Act} {w : World} {v : Value} {n : Nat}
theorem bodyPostM_ret (hr : (results fn a.tmps).run P w = .ok v w) (hd : a.defers = []) (hR : R (.returned v) w) : bodyPostM Fence.wide n P fn R .ret a w := by
  show LeavesInM Fence.wide n P fn a.tmps R a.defers .returning w
  rw [hd]
  exact ⟨v, hr, hR⟩
theorem bodyPostM_mark {D : Nat} (hd : a.defers = [{ target := .collected D, args := #[] }]) (hK : w.heap[D]? = some (.deferred (some []))) (hr : (results fn a.tmps).run P (w.putObj D (.deferred none)) = .ok v (w.putObj D (.deferred none))) (hR : R (.returned v) (w.putObj D (.deferred none))) : bodyPostM Fence.wide n P fn R .ret a w := by
  show LeavesInM Fence.wide n P fn a.tmps R a.defers .returning w
  rw [hd]
  exact ⟨by simp, .inl ⟨_, _, rfl, run_takeDeferred hK, ⟨v, hr, hR⟩⟩⟩
end
/-- the place is there, and the path as long as it must be. -/
def okLead (n at_ : Int) (path : List (List Int)) : Bool := thereB n at_ && decide (path.length = (wayI n at_).length)
end Go.Proofs.YtppfeilndcdoeaaDoor

/- What a path's way has come to behind some steps. Plain mathematics. -/
namespace Go.Proofs.YtppfeilndcdoeaaDoor
set_option linter.unusedSimpArgs false
set_option linter.unusedVariables false
open Go.RowKit Go.Deep

def otherL (x : Nat × Bool) (L : List (List Int)) : List (List Int) := if x.2 = true then L.drop x.1 else L.take x.1
def keptL (x : Nat × Bool) (L : List (List Int)) : List (List Int) := if x.2 = true then L.take x.1 else L.drop x.1
def keptF (w : List (Nat × Bool)) (L : List (List Int)) : List (List Int) := w.foldl (fun L x => keptL x L) L
theorem keptF_snoc (w : List (Nat × Bool)) (x : Nat × Bool) (L : List (List Int)) : keptF (w ++ [x]) L = keptL x (keptF w L) := by unfold keptF; rw [List.foldl_append]; rfl
theorem keptF_cons (x : Nat × Bool) (w : List (Nat × Bool)) (L : List (List Int)) : keptF (x :: w) L = keptF w (keptL x L) := rfl
theorem downF_cons (x : Nat × Bool) (w : List (Nat × Bool)) (L : List (List Int)) : downF (x :: w) L = rootS (otherL x L) :: downF w (keptL x L) := rfl
theorem downF_snoc : ∀ (w : List (Nat × Bool)) (x : Nat × Bool) (L : List (List Int)), downF (w ++ [x]) L = downF w L ++ [rootS (otherL x (keptF w L))]
  | [], x, L => rfl
  | y :: r, x, L => by rw [List.cons_append, downF_cons, downF_cons, downF_snoc r x, keptF_cons]; rfl
/-- the notes, and how often was hashed. -/
def downN (N : List Nt) : List (Nat × Bool) → List (List Int) → List Nt
  | [], _ => N
  | x :: r, L => downN (rootN N (otherL x L)) r (keptL x L)
def downC : List (Nat × Bool) → List (List Int) → Int
  | [], _ => 0
  | x :: r, L => callsR (otherL x L).length + downC r (keptL x L)
theorem downN_snoc : ∀ (w : List (Nat × Bool)) (N : List Nt) (x : Nat × Bool) (L : List (List Int)), downN N (w ++ [x]) L = rootN (downN N w L) (otherL x (keptF w L))
  | [], N, x, L => rfl
  | y :: r, N, x, L => by rw [List.cons_append, downN, downN_snoc r, downN, keptF_cons]
theorem downC_snoc : ∀ (w : List (Nat × Bool)) (x : Nat × Bool) (L : List (List Int)), downC (w ++ [x]) L = downC w L + callsR (otherL x (keptF w L)).length
  | [], x, L => by simp [downC, keptF]
  | y :: r, x, L => by rw [List.cons_append, downC, downC_snoc r, downC, keptF_cons]; omega
theorem parted {x : Nat × Bool} {L : List (List Int)} (h : 2 ≤ L.length) (hx : x.1 = halfN L.length) : 1 ≤ (otherL x L).length ∧ 1 ≤ (keptL x L).length ∧ (otherL x L).length + (keptL x L).length = L.length := by
  have := half_take h
  unfold otherL keptL
  rw [hx]
  split <;> omega
theorem way_head {n p : Nat} (h : 2 ≤ n) : ∃ b, wayL n p = (halfN n, b) :: wayL (if b = true then halfN n else n - halfN n) (if b = true then p else p - halfN n) := by
  refine ⟨decide (p < halfN n), ?_⟩
  rw [wayL_step h]
  by_cases hp : p < halfN n
  · simp [hp]
  · simp [hp]
theorem way_two {n p : Nat} (h : 0 < (wayL n p).length) : 2 ≤ n := by
  by_cases h2 : 2 ≤ n
  · exact h2
  · rw [wayL_end (by omega)] at h; simp at h
theorem kept_len {b : Bool} {L : List (List Int)} (h : 2 ≤ L.length) : (keptL (halfN L.length, b) L).length = if b = true then halfN L.length else L.length - halfN L.length := by
  have := half_take h
  unfold keptL
  cases b <;> simp <;> omega
/-- behind k steps. -/
theorem down_at : ∀ (k : Nat) (L : List (List Int)) (p : Nat) (N : List Nt), k ≤ (wayL L.length p).length → 1 ≤ L.length →
    1 ≤ (keptF ((wayL L.length p).take k) L).length ∧ (downN N ((wayL L.length p).take k) L).length + (keptF ((wayL L.length p).take k) L).length ≤ N.length + L.length ∧ 0 ≤ downC ((wayL L.length p).take k) L ∧ downC ((wayL L.length p).take k) L + (keptF ((wayL L.length p).take k) L).length ≤ L.length ∧
      ∀ x, (wayL L.length p)[k]? = some x → 2 ≤ (keptF ((wayL L.length p).take k) L).length ∧ x.1 = halfN (keptF ((wayL L.length p).take k) L).length
  | 0, L, p, N, h, h1 => by
    simp only [List.take_zero, keptF, downN, downC, List.foldl_nil]
    refine ⟨h1, by omega, by omega, by omega, fun x hx => ?_⟩
    have hl : 0 < (wayL L.length p).length := by
      by_cases e : 0 < (wayL L.length p).length
      · exact e
      · rw [List.getElem?_eq_none (by omega)] at hx; cases hx
    have h2 := way_two hl
    obtain ⟨b, hb⟩ := way_head (p := p) h2
    rw [hb] at hx
    have : (halfN L.length, b) = x := by simpa using hx
    exact ⟨h2, by rw [← this]⟩
  | k + 1, L, p, N, h, h1 => by
    have h2 := way_two (show 0 < (wayL L.length p).length by omega)
    obtain ⟨b, hb⟩ := way_head (p := p) h2
    have hk := kept_len (b := b) h2
    have hp := parted (x := (halfN L.length, b)) h2 rfl
    rw [hb, List.length_cons] at h
    rw [← hk] at hb h
    have ih := down_at k (keptL (halfN L.length, b) L) (if b = true then p else p - halfN L.length) (rootN N (otherL (halfN L.length, b) L)) (by omega) hp.2.1
    have hr := (rootNF_length (otherL (halfN L.length, b) L).length N (otherL (halfN L.length, b) L) (Nat.le_refl _)).2 hp.1
    have hr' : (rootN N (otherL (halfN L.length, b) L)).length + 1 ≤ N.length + (otherL (halfN L.length, b) L).length := hr
    have hc : 0 ≤ callsR (otherL (halfN L.length, b) L).length ∧ callsR (otherL (halfN L.length, b) L).length + 1 = (otherL (halfN L.length, b) L).length := by unfold callsR; rw [if_neg (by omega)]; omega
    rw [hb, List.take_succ_cons, keptF_cons, downN, downC]
    refine ⟨ih.1, by omega, by omega, by omega, fun x hx => ih.2.2.2.2 x ?_⟩
    rw [List.getElem?_cons_succ] at hx
    exact hx
/-- the path of a place, or none. -/
def pathI (L : List (List Int)) (at_ : Int) : List (List Int) := (downF (wayI L.length at_) L).reverse
theorem pathI_there {L : List (List Int)} {p : Nat} (h : p < L.length) : pathI L (p : Int) = pathS L p := by
  unfold pathI pathS wayI
  have : thereB (L.length : Int) (p : Int) = true := by simp [thereB]; omega
  rw [if_pos this, Int.toNat_natCast, Int.toNat_natCast]
theorem pathI_none {L : List (List Int)} {at_ : Int} (h : thereB (L.length : Int) at_ = false) : pathI L at_ = [] := by
  unfold pathI wayI
  rw [if_neg (by rw [h]; simp)]; rfl
theorem keptF_sum : ∀ (w : List (Nat × Bool)) (L : List (List Int)), (∀ x ∈ L, isSum x) → ∀ x ∈ keptF w L, isSum x
  | [], L, h => h
  | y :: r, L, h => keptF_sum r (keptL y L) (fun x hx => by
    unfold keptL at hx
    split at hx
    · exact h x (List.mem_of_mem_take hx)
    · exact h x (List.mem_of_mem_drop hx))
end Go.Proofs.YtppfeilndcdoeaaDoor

/- tree.Lead: what is refused. -/
namespace Go.Proofs.YtppfeilndcdoeaaDoor
set_option linter.unusedSimpArgs false
set_option linter.unusedVariables false
open Go.RowKit Go.Deep

set_option maxHeartbeats 1000000 in
set_option maxRecDepth 100000 in
theorem lead_no (kv : Value) (n at_ : Int) (hn : -9223372036854775808 ≤ n ∧ n ≤ 9223372036854775807) (ha : -9223372036854775808 ≤ at_ ∧ at_ ≤ 9223372036854775807) (leaf : List Int) (path : List (List Int)) (pv : Value) (w : World)
    (hp : sumsAt w pv path) (hlen : path.length ≤ 1000) (hno : okLead n at_ path = false) :
    Calls Tryd.prog 16 #[kv, .int .i64 n, .int .i64 at_, sumV leaf, pv] w fun e w' => e = .returned (.tuple #[.agg (rowV 32 (fun _ => .int .u8 0)), .int .i64 10]) ∧ Below w.heap.size w w' := by
  have hz32 := zero_s32
  obtain ⟨w1, hw1⟩ : ∃ w1, w1 = (w.alloc (.cells (rowV 32 (arrV leaf)) 28)).alloc (.cells (rowV 32 (fun _ => .int .u8 0)) 28) := ⟨_, rfl⟩
  have s1 : w1.heap.size = w.heap.size + 2 := by rw [hw1]; simp
  have b1 : Below w.heap.size w w1 := by rw [hw1]; exact ((Below.refl _ _).alloc (Nat.le_refl _) _).alloc (by simp) _
  have r1 : w1.rowIs (w.heap.size + 1) 28 32 (fun _ => .int .u8 0) := by
    rw [hw1]
    have := rowIs_box (w.alloc (.cells (rowV 32 (arrV leaf)) 28)) 28 32 (fun _ => .int .u8 0)
    rwa [World.size_alloc] at this
  have X1 := within_any n at_ w1
  have X2 := depth_any n at_ hn ha w1
  obtain ⟨_, pa, pc, rfl, _, _, _⟩ := hp
  have q0 : (path.length : Int) ≤ 1000 := by omega
  refine callsIn_wide (n := 3) |>.1 ?_
  refine callsIn_of_wp_marks Tryd.func16 rfl trivial ?_ rfl
  refine wpIn_wide.2 ?_
  simp only [Tryd.ntmps16, List.size_toArray, List.length_cons, List.length_nil, Nat.reduceAdd, Nat.reduceSub, Array.replicate_succ, Array.replicate_zero, List.push_toArray, List.append_toArray, List.nil_append, List.cons_append]
  unfold sumV
  go_upto_region 1 with fail
  rw [← hw1]
  have S1 : Hid _ := s1
  have B1 : Hid _ := b1
  clear hw1 s1 b1
  cases hth : thereB n at_ with
  | false =>
    rw [hth] at X1
    clear X2
    go_wp2_with fail
    refine X1.mono ?_
    rintro e w' ⟨rfl, hw⟩
    obtain rfl := hw.symm
    clear X1 hw
    go_wp2_with (first | (refine wpList_store_row rfl 28 _ _ rfl rfl (w.heap.size + 1) 0 32 (fun _ => .int .u8 0) rfl rfl hi32' (fun _ _ => rfl) _ _ _ r1 (by omega) ?_; intro w6 r6 hz6 hb6))
    exact bodyPostM_ret (results_cell_seg2 rfl _ _ (w.heap.size + 1) 28 32 (fun _ => .int .u8 0) _ rfl Tryd.underlying28 rfl hi32' (r6.congr fun i hi => by rw [if_pos (by omega)])) rfl ⟨rfl, B1.out.trans (((hb6.mono (show w.heap.size ≤ _ by have := S1.out; omega)).below (by omega)))⟩
  | true =>
    rw [hth] at X1
    have hne : path.length ≠ (wayI n at_).length := by
      intro e
      simp [okLead, hth, e] at hno
    have hni : ¬ (path.length : Int) = ((wayI n at_).length : Int) := by omega
    generalize (wayI n at_).length = m at X2 hni
    clear hne
    go_wp2_with fail
    refine X1.mono ?_
    rintro e w' ⟨rfl, hw⟩
    obtain rfl := hw.symm
    clear X1 hw
    go_wp2_with fail
    refine X2.mono ?_
    rintro e w2 ⟨rfl, b2⟩
    clear X2
    have s2 := b2.size
    have B2 : Hid _ := b2
    have r2 : w2.rowIs (w.heap.size + 1) 28 32 (fun _ => .int .u8 0) := b2.row r1 (by have := S1.out; omega)
    clear b2
    go_wp2_with (first | (refine wpList_store_row rfl 28 _ _ rfl rfl (w.heap.size + 1) 0 32 (fun _ => .int .u8 0) rfl rfl hi32' (fun _ _ => rfl) _ _ _ r2 (by omega) ?_; intro w6 r6 hz6 hb6))
    exact bodyPostM_ret (results_cell_seg2 rfl _ _ (w.heap.size + 1) 28 32 (fun _ => .int .u8 0) _ rfl Tryd.underlying28 rfl hi32' (r6.congr fun i hi => by rw [if_pos (by omega)])) rfl ⟨rfl, (B1.out.trans (B2.out.mono (by have := S1.out; omega))).trans (((hb6.mono (show w.heap.size ≤ _ by have := S1.out; omega)).below (by omega)))⟩
end Go.Proofs.YtppfeilndcdoeaaDoor

/- tree.Lead: the steps that are kept. -/
namespace Go.Proofs.YtppfeilndcdoeaaDoor
set_option linter.unusedSimpArgs false
set_option linter.unusedVariables false
open Go.RowKit Go.Deep Go.Shelf
attribute [local go_sem] Oper.semAt_some

theorem infoB : (Tryd.prog.info? 4).map (fun i => (i.zero, i.size, i.bytes)) = some (some (.bool false), 1, 1) := by kernel_rfl
/-- append(steps, left). -/
theorem bl_append_run (w : World) (B : Nat) (v u : Value) (xs : List Value) (hv : owns w B 4 v xs) (hu : u.oneCell' = true) (hs : xs.length < 1000000) (hB : B ≤ w.heap.size) :
    ∃ a c w', (Builtin.append_ #[60, 60] 60 #[v, .slice (some ⟨w.heap.size, 0, none⟩) 1 1]).run Tryd.prog (w.alloc (.cells #[u] 4)) = .ok (.slice a (xs.length + 1) c) w' ∧ owns w' B 4 (.slice a (xs.length + 1) c) (xs ++ [u]) ∧
      Below B w w' ∧ (∀ j, j < w.heap.size → v.ownBlock ≠ some j → w'.heap[j]? = w.heap[j]?) ∧ ((Value.slice a (xs.length + 1) c).ownBlock = v.ownBlock ∨ (Value.slice a (xs.length + 1) c).ownBlock = some (w.heap.size + 1)) := by
  have b0 : Below w.heap.size w (w.alloc (.cells #[u] 4)) := (Below.refl _ _).alloc (Nat.le_refl _) _
  have h1 := hv.alloc (.cells #[u] 4)
  obtain ⟨a, c, w', hr, ho, hg, hat⟩ := row_append (P := Tryd.prog) (w.alloc (.cells #[u] 4)) 60 60 4 (.bool false) 1 1 Tryd.underlying60 infoB rfl (by omega)
    B v xs.length xs h1 (.slice (some ⟨w.heap.size, 0, none⟩) 1 1) 1 [u] rfl
    ⟨_, _, rfl, fun _ => ⟨w.heap.size, 0, rfl, fun j x hx => by
      match j with
      | 0 =>
        have : u = x := by simpa using hx
        subst this; exact one_cell w _ _
      | j + 1 => simp at hx⟩⟩
    (fun x hx => by
      have : x = u := by simpa using hx
      subst this; exact hu) (by unfold maxLen; omega) (by omega) (by simp; omega)
  refine ⟨a, c, w', hr, by unfold owns; rw [List.length_append]; exact ho, (b0.mono hB).trans (below_grown hg (fun k hk => (hv.block k hk).1) (by simp; omega)), fun j hj hne => ?_, ?_⟩
  · exact (hg.block j (by simp; omega) (fun e => hne e.symm)).trans (blk_alloc_lt _ _ _ hj)
  · rw [World.size_alloc] at hat; exact hat
theorem take_snoc {α : Type} (U : List α) (k : Nat) (h : k < U.length) : U.take (k + 1) = U.take k ++ [U[k]] := by rw [List.take_add_one, List.getElem?_eq_getElem h]; rfl
def boolsV (l : List (Nat × Bool)) : List Value := l.map fun x => .bool x.2
/-- the box of a slice of bools of the call's own, and what it holds. -/
def stepsAt (W : World) (B bx : Nat) (l : List (Nat × Bool)) : Prop := ∃ v, W.rowIs bx 60 1 (fun _ => v) ∧ owns W B 4 v (boolsV l) ∧ ∀ j, v.ownBlock = some j → j ≠ bx
theorem stepsAt.far {W W' : World} {B bx : Nat} {l : List (Nat × Bool)} (h : stepsAt W B bx l) (hb : ∀ j, B ≤ j → j < W.heap.size → W'.heap[j]? = W.heap[j]?) (hx : W'.heap[bx]? = W.heap[bx]?) : stepsAt W' B bx l := by
  obtain ⟨v, h1, h2, h3⟩ := h
  exact ⟨v, World.rowIs.of_block h1 hx, h2.far (fun k hk => hb k (h2.block k hk).1 (h2.block k hk).2), h3⟩
theorem boolsV_get (l : List (Nat × Bool)) (i : Nat) (h : i < l.length) : (boolsV l)[i]? = some (.bool l[i].2) := by simp [boolsV, h]
theorem putObj_block (W : World) (b : Nat) (o : Obj) {j : Nat} (h : j ≠ b) : (W.putObj b o).heap[j]? = W.heap[j]? := World.putObj_heap_other h
theorem owns_not_loop {W : World} {B : Nat} {e : TypeId} {v : Value} {xs : List Value} (h : owns W B e v xs) {b : Nat} {o : Obj} (hb : W.heap[b]? = some o) (ho : o.isCells = false) : ∀ j, v.ownBlock = some j → j ≠ b := by
  intro j hj e'
  subst e'
  obtain ⟨_, h | ⟨g, cap, cur, rfl, _, hg, _⟩⟩ := h
  · rw [h.1] at hj; cases hj
  · obtain rfl : g = j := by simpa [Value.ownBlock] using hj
    rw [hb] at hg; cases hg; cases ho
theorem stepsAt.put {W : World} {B bx : Nat} {l : List (Nat × Bool)} (h : stepsAt W B bx l) {b : Nat} {o : Obj} (o' : Obj) (hb : W.heap[b]? = some o) (ho : o.isCells = false) : stepsAt (W.putObj b o') B bx l := by
  obtain ⟨v, h1, h2, h3⟩ := h
  refine ⟨v, World.rowIs.of_block h1 (putObj_block W b o' (fun e => ?_)), h2.far (fun k hk => putObj_block W b o' (owns_not_loop h2 hb ho k hk)), h3⟩
  subst e
  obtain ⟨cs, hc, _⟩ := h1
  rw [hb] at hc; cases hc; cases ho
set_option maxHeartbeats 1000000 in
set_option maxRecDepth 100000 in
/-- slices.Reverse of the call's own bools. -/
theorem revBools_any (B : Nat) (v : Value) (l : List (Nat × Bool)) (w : World) (h : owns w B 4 v (boolsV l)) (hm : l.length ≤ 1000) :
    Calls Tryd.prog 33 #[v] w fun e w' => e = .returned (.tuple #[]) ∧ owns w' B 4 v (boolsV l.reverse) ∧ w'.heap.size = w.heap.size ∧ (∀ j, v.ownBlock ≠ some j → j < w.heap.size → w'.heap[j]? = w.heap[j]?) ∧ Below B w w' := by
  have hbl : (boolsV l).length = l.length := by simp [boolsV]
  obtain ⟨hl, hh | ⟨g, cap, cur, rfl, hB, hg, hc, hmx, hcs, htk⟩⟩ := h
  · obtain ⟨rfl, h0⟩ := hh
    have e : l = [] := List.eq_nil_of_length_eq_zero (by omega)
    subst e
    go_enter Tryd.func33, Tryd.ntmps33
    go_wp2
    go_loopw [2, 3] (fun x y wr => x = .int .i64 0 ∧ y = .int .i64 (-1) ∧ wr = w) (fun x _ _ => 0)
    case atStart => exact ⟨rfl, rfl, rfl⟩
    case round =>
      obtain ⟨rfl, rfl, rfl⟩ := hrel
      go_wp2
      go_end0
      exact ⟨rfl, owns_nil _ _ _, rfl, fun _ _ _ => rfl, Below.refl _ _⟩
  · rw [Nat.mul_one] at htk hcs
    rw [hbl] at hc htk ⊢
    have hcell : ∀ i (hi : i < l.length), cur.getD i undef = .bool l[i].2 := fun i hi => by
      have h1 := boolsV_get l i hi
      rw [← htk, List.getElem?_take, if_pos hi, Array.getElem?_toList] at h1
      simp [Array.getD_eq_getD_getElem?, h1]
    have hrow : w.rowIs g 4 cap (fun i => cur.getD i undef) := ⟨cur, hg, hcs, fun i hi => by simp [Array.getD, hcs, hi]⟩
    refine (revBool_any g l.length cap (fun i => cur.getD i undef) w hrow (fun i hi => ⟨_, hcell i hi⟩) hc hm).mono ?_
    rintro e w' ⟨rfl, hr, hz, hb⟩
    have hlt := (Array.getElem?_eq_some_iff.1 hg).1
    refine ⟨rfl, ?_, hz, fun j hj hjl => hb.block j hjl (fun e => hj (by rw [e]; rfl)), ⟨hb.os, hb.tape, hb.output, hb.size, fun k hk => hb.block k (by omega) (by omega)⟩⟩
    obtain ⟨c', hb', hs', hc'⟩ := hr
    have hbr : (boolsV l.reverse).length = l.length := by simp [boolsV]
    refine ⟨by rw [Nat.mul_one], Or.inr ⟨g, cap, c', by rw [hbr], hB, hb', by rw [hbr]; exact hc, hmx, by rw [Nat.mul_one]; exact hs', ?_⟩⟩
    refine List.ext_getElem? fun i => ?_
    rw [hbr, Nat.mul_one]
    by_cases hi : i < l.length
    · rw [List.getElem?_take, if_pos hi, Array.getElem?_toList, hc' i (by omega)]
      show some (if i < l.length then cur.getD (l.length - 1 - i) undef else cur.getD i undef) = _
      rw [if_pos hi, hcell _ (by omega), boolsV_get l.reverse i (by rw [List.length_reverse]; exact hi)]
      rw [List.getElem_reverse]
    · rw [List.getElem?_take, if_neg hi, List.getElem?_eq_none (by omega)]
end Go.Proofs.YtppfeilndcdoeaaDoor

/- tree.Path. -/
namespace Go.Proofs.YtppfeilndcdoeaaDoor
set_option linter.unusedSimpArgs false
set_option linter.unusedVariables false
open Go.RowKit Go.Deep Go.Shelf
attribute [local go_sem] Oper.semAt_some

/-- behind k steps down; W0: the world where the range begins. -/
def pathAt (w W0 : World) (F : Nat → Prop) (kv : Value) (N : List Nt) (c : Int) (lv0 : Value) (L : List (List Int)) (way : List (Nat × Bool)) (k : Nat) (W : World) : Prop :=
  ∃ lv pv Fi, W.rowIs w.heap.size 24 1 (fun _ => kv) ∧ W.rowIs (w.heap.size + 1) 22 1 (fun _ => lv) ∧ sumsAt W lv (keptF (way.take k) L) ∧ lv.ownBlock = lv0.ownBlock ∧ W.rowIs (w.heap.size + 2) 22 1 (fun _ => pv) ∧
    newSums W (W0.heap.size + 2) pv (downF (way.take k) L) ∧ bkAt kv W Fi (downN N (way.take k) L) (c + downC (way.take k) L) ∧ (∀ j, Fi j → F j ∨ W0.heap.size + 2 ≤ j) ∧ (∀ j, pv.ownBlock = some j → ¬ Fi j) ∧ Fr (fun j => F j ∨ j = w.heap.size + 1 ∨ j = w.heap.size + 2) W0 W
theorem keptF_le : ∀ (w : List (Nat × Bool)) (L : List (List Int)), (keptF w L).length ≤ L.length
  | [], L => Nat.le_refl _
  | x :: r, L => by
    have h := keptF_le r (keptL x L)
    have h2 : (keptL x L).length ≤ L.length := by unfold keptL; split <;> simp <;> omega
    rw [keptF_cons]; omega
theorem Calm.normal {Q : Exit → Act → World → Prop} {a : Act} {w : World} (h : Q .normal a w) : Calm Q .normal a w := h
theorem pathAt.keep {w W0 : World} {F : Nat → Prop} {kv : Value} {N : List Nt} {c : Int} {lv0 : Value} {L : List (List Int)} {way : List (Nat × Bool)} {k : Nat} {W W' : World} (h : pathAt w W0 F kv N c lv0 L way k W)
    (hs0 : w.heap.size + 2 < W0.heap.size) (hF : ∀ j, F j → j < w.heap.size) (hv0 : 0 < L.length → ∀ j, lv0.ownBlock = some j → j < w.heap.size) (ho : W'.os = W.os ∧ W'.tape = W.tape ∧ W'.output = W.output) (hs : W.heap.size ≤ W'.heap.size)
    (hb : ∀ j, j < W.heap.size → j ≠ W0.heap.size → j ≠ W0.heap.size + 1 → W'.heap[j]? = W.heap[j]?) : pathAt w W0 F kv N c lv0 L way k W' := by
  obtain ⟨lv, pv, Fi, h1, h2, h3, h4, h5, h6, h7, h8, h9, h10⟩ := h
  have hz := h10.size
  refine ⟨lv, pv, Fi, World.rowIs.of_block h1 (hb _ (by omega) (by omega) (by omega)), World.rowIs.of_block h2 (hb _ (by omega) (by omega) (by omega)), sumsAt.far h3 (fun h0 j hj hl => hb j hl (by have := hv0 (by have := keptF_le (way.take k) L; omega) j (h4 ▸ hj); omega) (by have := hv0 (by have := keptF_le (way.take k) L; omega) j (h4 ▸ hj); omega)) hs, h4,
    World.rowIs.of_block h5 (hb _ (by omega) (by omega) (by omega)), h6.far (fun j hj => by have := h6.block j hj; exact hb j (by omega) (by omega) (by omega)), h7.far (fun j hj hl => hb j hl (fun e => ?_) (fun e => ?_)) hs, h8, h9, ⟨ho.1.trans h10.os, ho.2.1.trans h10.tape, ho.2.2.trans h10.output, by omega, fun j hj hn => (hb j (by omega) (by omega) (by omega)).trans (h10.block j hj hn)⟩⟩
  · rcases h8 j hj with h | h
    · have := hF j h; omega
    · omega
  · rcases h8 j hj with h | h
    · have := hF j h; omega
    · omega
theorem one_sum (w : World) (q : List Int) (hq : isSum q) : sumsAt (w.alloc (.cells (rowV 32 (arrV q)) 28)) (.slice (some ⟨w.heap.size, 0, none⟩) 1 1) [q] := by
  refine ⟨fun x hx => by rw [List.mem_singleton.1 hx]; exact hq, _, 1, rfl, Nat.le_refl _, by unfold maxLen; omega, fun _ => ⟨w.heap.size, 0, rfl, by simp, fun i hi j hj => ?_⟩⟩
  have hi0 : i = 0 := by simpa using hi
  subst hi0
  rw [show 0 + 0 * 32 + j = j by omega, (rowIs_box w 28 32 (arrV q)).cell (by omega)]; rfl
theorem build_one (f : Nat → Value) (w : World) : (Instr.buildSlice 22 1 #[(0, .agg (rowV 32 f))]).run Tryd.prog w = .ok (.slice (some ⟨w.heap.size, 0, none⟩) 1 1) (w.alloc (.cells (rowV 32 f) 28)) := by
  show (_ : Result Value) = _
  kernel_rfl
theorem exec_bslice1' {P : Program} {o : Oper} {ev : Operand → Value} {w w' : World} {v : Value} (t : TypeId) (n i : Nat) (x : Operand) (a : Value) (ho : o.op = .buildSlice t n #[(i, x)]) (hx : ev x = a)
    (hr : (Instr.buildSlice t n #[(i, a)]).run P w = .ok v w') : (execOp ev o).run P w = .ok (.value v) w' := by
  unfold execOp
  simp only [ho, List.map_toArray, List.map_cons, List.map_nil, hx, Sem.run_bind, hr, Result.andThen_ok, Sem.run_pure]
/-- one step: the root of what is left aside, appended to the path. -/
theorem pathAt.step {w W0 : World} {F : Nat → Prop} {kv : Value} {N : List Nt} {c : Int} {lv0 : Value} {L : List (List Int)} {p : Nat} {k : Nat} {W : World} {x : Nat × Bool} {lv pv : Value} {Fi : Nat → Prop}
    (hs0 : w.heap.size + 2 < W0.heap.size) (hF : ∀ j, F j → j < w.heap.size) (hF0 : ¬ F 0) (ht0 : tabIs W0) (hw0 : 0 < w.heap.size) (hv0 : ∀ j, lv0.ownBlock = some j → j < w.heap.size ∧ ¬ F j) (hx : (wayL L.length p)[k]? = some x) (hL : L.length ≤ 1000) (hN : N.length + L.length < 100000) (hc : 0 ≤ c ∧ c < 90000000)
    (h1 : W.rowIs w.heap.size 24 1 (fun _ => kv)) (h2 : W.rowIs (w.heap.size + 1) 22 1 (fun _ => lv)) (h3 : sumsAt W lv (keptF ((wayL L.length p).take k) L)) (h4 : lv.ownBlock = lv0.ownBlock) (h5 : W.rowIs (w.heap.size + 2) 22 1 (fun _ => pv))
    (h6 : newSums W (W0.heap.size + 2) pv (downF ((wayL L.length p).take k) L)) (h7 : bkAt kv W Fi (downN N ((wayL L.length p).take k) L) (c + downC ((wayL L.length p).take k) L)) (h8 : ∀ j, Fi j → F j ∨ W0.heap.size + 2 ≤ j) (h9 : ∀ j, pv.ownBlock = some j → ¬ Fi j) (h10 : Fr (fun j => F j ∨ j = w.heap.size + 1 ∨ j = w.heap.size + 2) W0 W)
    (hD : W0.heap.size + 1 < W.heap.size) (ov kp : Value) (ho : sumsAt W ov (otherL x (keptF ((wayL L.length p).take k) L))) (ho4 : ov.ownBlock = lv.ownBlock) (hkp : sumsAt W kp (keptL x (keptF ((wayL L.length p).take k) L))) (hkp4 : kp.ownBlock = lv.ownBlock) :
    Calls Tryd.prog 11 #[kv, ov] W fun e wR => e = .returned (.agg (rowV 32 (arrV (rootS (otherL x (keptF ((wayL L.length p).take k) L)))))) ∧ wR.rowIs (w.heap.size + 2) 22 1 (fun _ => pv) ∧ wR.rowIs w.heap.size 24 1 (fun _ => kv) ∧
      ∀ wS, wS = wR.alloc (.cells (rowV 32 (arrV (rootS (otherL x (keptF ((wayL L.length p).take k) L))))) 28) → wS.rowIs (w.heap.size + 2) 22 1 (fun _ => pv) ∧ wS.rowIs w.heap.size 24 1 (fun _ => kv) ∧
        ∃ a m cp w8, (Builtin.append_ #[22, 22] 22 #[pv, .slice (some ⟨wR.heap.size, 0, none⟩) 1 1]).run Tryd.prog wS = .ok (.slice a m cp) w8 ∧ w8.rowIs (w.heap.size + 2) 22 1 (fun _ => pv) ∧ w8.rowIs (w.heap.size + 1) 22 1 (fun _ => lv) ∧ w8.rowIs w.heap.size 24 1 (fun _ => kv) ∧
          ∀ w9, w9 = (w8.setCell ⟨w.heap.size + 2, 0, none⟩ (.slice a m cp)).setCell ⟨w.heap.size + 1, 0, none⟩ kp → w9.rowIs w.heap.size 24 1 (fun _ => kv) ∧ w9.heap[W0.heap.size]? = W.heap[W0.heap.size]? ∧ w9.heap[W0.heap.size + 1]? = W.heap[W0.heap.size + 1]? ∧ pathAt w W0 F kv N c lv0 L (wayL L.length p) (k + 1) w9 := by
  have hk : k < (wayL L.length p).length := (List.getElem?_eq_some_iff.1 hx).1
  have hxk : (wayL L.length p)[k] = x := (List.getElem?_eq_some_iff.1 hx).2
  have h2L := way_two (show 0 < (wayL L.length p).length by omega)
  obtain ⟨d1, d2, d3, d4, d5⟩ := down_at k L p N (by omega) (by omega)
  obtain ⟨d6, d7⟩ := d5 x hx
  have hpt := parted d6 d7
  have hz := h10.size
  have nF : ∀ j, w.heap.size ≤ j → j < W0.heap.size + 2 → ¬ Fi j := fun j h5 h6 h => by
    rcases h8 j h with h | h
    · have := hF j h; omega
    · omega
  have hF0' : ¬ Fi 0 := fun h => by
    rcases h8 0 h with h | h
    · exact hF0 h
    · omega
  have tW : tabIs W := tabIs.far ht0 (h10.block 0 ht0.1 (fun h => by rcases h with h | h; exact hF0 h; omega)) hz
  have hoF : ∀ j, ov.ownBlock = some j → ¬ Fi j := fun j hj h => by
    have := hv0 j (by rw [← h4, ← ho4]; exact hj)
    rcases h8 j h with h | h
    · exact this.2 h
    · omega
  have tk := take_snoc (wayL L.length p) k hk
  rw [hxk] at tk
  have eD : downF ((wayL L.length p).take (k + 1)) L = downF ((wayL L.length p).take k) L ++ [rootS (otherL x (keptF ((wayL L.length p).take k) L))] := by rw [tk, downF_snoc]
  have eK : keptF ((wayL L.length p).take (k + 1)) L = keptL x (keptF ((wayL L.length p).take k) L) := by rw [tk, keptF_snoc]
  have eN : downN N ((wayL L.length p).take (k + 1)) L = rootN (downN N ((wayL L.length p).take k) L) (otherL x (keptF ((wayL L.length p).take k) L)) := by rw [tk, downN_snoc]
  have eC : downC ((wayL L.length p).take (k + 1)) L = downC ((wayL L.length p).take k) L + callsR (otherL x (keptF ((wayL L.length p).take k) L)).length := by rw [tk, downC_snoc]
  generalize hO : otherL x (keptF ((wayL L.length p).take k) L) = O at *
  refine (root_k Fi kv _ _ O ov W h7 ho (fun _ => hoF) (by omega) tW hF0' (by omega) ⟨by omega, by omega⟩).mono ?_
  rintro e wR ⟨rfl, hb, hf⟩
  have sR := hf.size
  have keepR : ∀ j, j < W.heap.size → ¬ Fi j → wR.heap[j]? = W.heap[j]? := fun j hj hn => hf.block j hj hn
  have r1 : wR.rowIs w.heap.size 24 1 (fun _ => kv) := World.rowIs.of_block h1 (keepR _ (by omega) (nF _ (by omega) (by omega)))
  have r2 : wR.rowIs (w.heap.size + 1) 22 1 (fun _ => lv) := World.rowIs.of_block h2 (keepR _ (by omega) (nF _ (by omega) (by omega)))
  have r5 : wR.rowIs (w.heap.size + 2) 22 1 (fun _ => pv) := World.rowIs.of_block h5 (keepR _ (by omega) (nF _ (by omega) (by omega)))
  have n6 : newSums wR (W0.heap.size + 2) pv (downF ((wayL L.length p).take k) L) := h6.far (fun j hj => keepR j (h6.block j hj).2 (h9 j hj))
  have hOs : isSum (rootS O) := rootS_sum ho.1
  refine ⟨rfl, r5, r1, fun wS hS => ?_⟩
  have bS : Below wR.heap.size wR wS := by rw [hS]; exact (Below.refl _ _).alloc (Nat.le_refl _) _
  have sS : wS.heap.size = wR.heap.size + 1 := by rw [hS]; simp
  have q1 := bS.row r1 (by omega)
  have q2 := bS.row r2 (by omega)
  have q5 := bS.row r5 (by omega)
  have m6 := n6.below bS (Nat.le_refl _)
  have hl6 : (downF ((wayL L.length p).take k) L).length ≤ 64 + 1000 := by
    rw [downF_len, List.length_take]
    have := wayI_len (L.length : Int) (p : Int) (by omega)
    have hle : (wayL L.length p).length ≤ 64 + 1000 := by
      have := wayL_len 10 L.length p (by omega)
      omega
    omega
  have os := one_sum wR (rootS O) hOs
  rw [← hS] at os
  obtain ⟨a, cp, w8, hr, hn8, hg8, hat⟩ := sums_append wS (W0.heap.size + 2) pv _ m6 _ _ os (by simp; omega) (by omega)
  refine ⟨q5, q1, a, _, cp, w8, hr, ?_⟩
  have pvb : ∀ j, pv.ownBlock = some j → W0.heap.size + 2 ≤ j := fun j hj => (m6.block j hj).1
  have keep8 : ∀ j, j < wS.heap.size → pv.ownBlock ≠ some j → w8.heap[j]? = wS.heap[j]? := fun j hj hn => hg8.block j hj (fun e => hn e.symm)
  have npv : ∀ j, j < W0.heap.size + 2 → pv.ownBlock ≠ some j := fun j hj e => by have := pvb j e; omega
  have s8 : wS.heap.size ≤ w8.heap.size := hg8.size
  have t1 : w8.rowIs w.heap.size 24 1 (fun _ => kv) := World.rowIs.of_block q1 (keep8 _ (by omega) (npv _ (by omega)))
  have t2 : w8.rowIs (w.heap.size + 1) 22 1 (fun _ => lv) := World.rowIs.of_block q2 (keep8 _ (by omega) (npv _ (by omega)))
  have t5 : w8.rowIs (w.heap.size + 2) 22 1 (fun _ => pv) := World.rowIs.of_block q5 (keep8 _ (by omega) (npv _ (by omega)))
  refine ⟨t5, t2, t1, fun w9 h9e => ?_⟩
  generalize hnv : (Value.slice a ((downF ((wayL L.length p).take k) L).length + [rootS O].length) cp) = nv at *
  have s9 : w9.heap.size = w8.heap.size := by rw [h9e, nblk_setCell, nblk_setCell]
  have keep9 : ∀ j, j ≠ w.heap.size + 1 → j ≠ w.heap.size + 2 → w9.heap[j]? = w8.heap[j]? := fun j h1 h2 => by rw [h9e, blk_setCell_other _ _ _ _ h1, blk_setCell_other _ _ _ _ h2]
  have all : ∀ j, j < W.heap.size → ¬ Fi j → pv.ownBlock ≠ some j → j ≠ w.heap.size + 1 → j ≠ w.heap.size + 2 → w9.heap[j]? = W.heap[j]? := fun j a1 a2 a3 a4 a5 => (keep9 j a4 a5).trans ((keep8 j (by omega) a3).trans ((bS.block j (by omega)).trans (keepR j a1 a2)))
  have lvb : ∀ j, kp.ownBlock = some j → j < w.heap.size ∧ ¬ F j := fun j hj => hv0 j (by rw [← h4, ← hkp4]; exact hj)
  refine ⟨World.rowIs.of_block t1 (keep9 _ (by omega) (by omega)), all _ (by omega) (nF _ (by omega) (by omega)) (npv _ (by omega)) (by omega) (by omega), all _ (by omega) (nF _ (by omega) (by omega)) (npv _ (by omega)) (by omega) (by omega), ?_⟩
  have u5 : (w8.setCell ⟨w.heap.size + 2, 0, none⟩ nv).rowIs (w.heap.size + 2) 22 1 (fun _ => nv) := (World.rowIs.set t5 0 nv).congr fun i hi => by rw [if_pos (by omega)]
  have u2 : (w8.setCell ⟨w.heap.size + 2, 0, none⟩ nv).rowIs (w.heap.size + 1) 22 1 (fun _ => lv) := World.rowIs.of_block t2 (blk_setCell_other _ _ _ _ (fun e => by have : w.heap.size + 1 = w.heap.size + 2 := e; omega))
  refine ⟨kp, nv, Gr Fi W wR, World.rowIs.of_block t1 (keep9 _ (by omega) (by omega)), ?_, ?_, by rw [hkp4, h4], ?_, ?_, ?_, ?_, ?_, ?_⟩
  · rw [h9e]; exact (World.rowIs.set u2 0 kp).congr fun i hi => by rw [if_pos (by omega)]
  · rw [eK]
    refine sumsAt.far hkp (fun _ j hj hl => ?_) (by omega)
    have := lvb j hj
    refine all j hl (fun h => ?_) (npv j (by omega)) (by omega) (by omega)
    rcases h8 j h with h | h
    · exact this.2 h
    · omega
  · rw [h9e]; exact World.rowIs.of_block u5 (blk_setCell_other _ _ _ _ (fun e => by have : w.heap.size + 2 = w.heap.size + 1 := e; omega))
  · rw [eD]
    exact hn8.far (fun j hj => by have := (hn8.block j hj).1; exact keep9 j (by omega) (by omega))
  · rw [eN, eC, show c + (downC ((wayL L.length p).take k) L + callsR O.length) = c + downC ((wayL L.length p).take k) L + callsR O.length by omega]
    refine hb.far (fun j hj hl => ?_) (by omega)
    have hj9 : pv.ownBlock ≠ some j := fun e => by
      rcases hj with hj | hj
      · exact h9 j e hj
      · have := (h6.block j e).2; omega
    have hjr : w.heap.size ≤ j → W0.heap.size + 2 ≤ j := fun hle => by
      rcases hj with hj | hj
      · rcases h8 j hj with h | h
        · have := hF j h; omega
        · exact h
      · have := hj.1; omega
    by_cases hle : w.heap.size ≤ j
    · have := hjr hle
      exact (keep9 j (by omega) (by omega)).trans ((keep8 j (by omega) hj9).trans (bS.block j hl))
    · exact (keep9 j (by omega) (by omega)).trans ((keep8 j (by omega) hj9).trans (bS.block j hl))
  · intro j hj
    rcases hj with hj | hj
    · exact h8 j hj
    · exact Or.inr (by have := hj.1; omega)
  · intro j hj h
    have hnew : pv.ownBlock = some j ∨ j = wS.heap.size := by
      rcases hat with h | h
      · exact Or.inl (h ▸ hj)
      · rw [h] at hj; exact Or.inr (Option.some.inj hj).symm
    rcases hnew with e | e
    · rcases h with h | h
      · exact h9 j e h
      · have := (h6.block j e).2; omega
    · rcases h with h | h
      · have := h7.lt j h; omega
      · omega
  · refine ⟨?_, ?_, ?_, by omega, fun j hj hn => ?_⟩
    · rw [h9e]; exact hg8.os.trans (bS.os.trans (hf.os.trans h10.os))
    · rw [h9e]; exact hg8.tape.trans (bS.tape.trans (hf.tape.trans h10.tape))
    · rw [h9e]; exact hg8.output.trans (bS.output.trans (hf.output.trans h10.output))
    · have hnF : ¬ Fi j := fun h => by
        rcases h8 j h with h | h
        · exact hn (Or.inl h)
        · omega
      exact (all j (by omega) hnF (npv j (by omega)) (fun e => hn (Or.inr (Or.inl e))) (fun e => hn (Or.inr (Or.inr e)))).trans (h10.block j hj hn)
end Go.Proofs.YtppfeilndcdoeaaDoor
