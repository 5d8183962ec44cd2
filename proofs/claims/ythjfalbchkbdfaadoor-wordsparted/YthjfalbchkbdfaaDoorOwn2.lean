import Derived.Lib.SlicesS
import Derived.Laws.Cover1
import Derived.KernelRfl
import Derived.Laws.Cover4
import Derived.BigQuiet
import Derived.ProofKit
import Derived.OpenShut
import Derived.Test.YthjfalbchkbdfaaDoorRows
import Derived.ChangeSlices
import Derived.Deep.Slices
import Derived.Deep.Strs
import Derived.Test.YthjfalbchkbdfaaDoorCards
import Derived.Deep.DeepHandedRow
import Derived.Lib.LaidTab
import Derived.Lib.LaidU8
import Derived.Test.YthjfalbchkbdfaaDoorOwn1
set_option linter.unusedVariables false
set_option linter.unusedSimpArgs false
/- Layer 9, pure: runs by themselves, and of texts one behind the other. -/
namespace Go.Proofs.YthjfalbchkbdfaaDoor
set_option linter.unusedVariables false

theorem part_size (s : ByteArray) (i j : Nat) (hj : j ≤ s.size) : (s.extract i j).size = j - i := by rw [ByteArray.size_extract]; omega
theorem extract_whole (s : ByteArray) : s.extract 0 s.size = s := by
  apply ByteArray.ext
  have : s.size = s.data.size := rfl
  rw [ByteArray.data_extract, this, Array.extract_size]
theorem flAt_ps {s : ByteArray} (b : Bool) : ∀ d k, s.size = k + d → flAt s (ps s b k) = flAt s k := by
  intro d
  induction d using Nat.strongRecOn with
  | ind d ih =>
    intro k hd
    by_cases e : stopP s b k
    · rw [ps_stop e]
    · have hg := go_size e
      rw [ps_step e, ih (d - (nx s k).2) (by omega) _ (by omega), ← flAt_step (by omega)]
theorem ps_app_r (a c : ByteArray) (b : Bool) : ∀ d k, c.size ≤ k + d → ps (a ++ c) b (a.size + k) = a.size + ps c b k := by
  intro d
  induction d using Nat.strongRecOn with
  | ind d ih =>
    intro k hd
    have hx := nx_app_r a c k
    by_cases e : stopP c b k
    · rw [ps_stop e, ps_stop (by unfold stopP at e ⊢; rw [hx]; exact e)]
    · have hg := go_size e
      rw [ps_step e, ps_step (s := a ++ c) (by unfold stopP at e ⊢; rw [hx]; exact e), hx, Nat.add_assoc]
      exact ih (d - 1) (by omega) _ (by omega)
theorem extract_app_r (a c : ByteArray) (i j : Nat) : (a ++ c).extract (a.size + i) (a.size + j) = c.extract i j := by
  apply ByteArray.ext
  have : a.size = a.data.size := rfl
  simp only [ByteArray.data_extract, ByteArray.data_append, this]
  rw [Array.extract_append]
  simp
theorem rlF_app_r (a c : ByteArray) : ∀ f k, rlF (a ++ c) f (a.size + k) = rlF c f k
  | 0, _ => rfl
  | f + 1, k => by
    rw [rlF, rlF, ps_app_r a c false c.size k (by omega), ps_app_r a c true c.size _ (by omega), extract_app_r, rlF_app_r a c f]
    by_cases e : ps c true (ps c false k) = ps c false k
    · rw [if_pos (by rw [e]), if_pos e]
    · rw [if_neg (by omega), if_neg e]
theorem rlAt_app_r (a c : ByteArray) (k : Nat) : rlAt (a ++ c) (a.size + k) = rlAt c k := by
  unfold rlAt
  rw [rlF_app_r, rlF_more c _ c.size k (by rw [ByteArray.size_append]; omega) (by omega)]
theorem extract_app_l (a c : ByteArray) (i j : Nat) (h : j ≤ a.size) : (a ++ c).extract i j = a.extract i j := by
  apply ByteArray.ext
  have : a.size = a.data.size := rfl
  simp only [ByteArray.data_extract, ByteArray.data_append, this] at h ⊢
  rw [Array.extract_append]
  simp
  omega
/-- what is no first byte does not go on with what stands ahead. -/
theorem nxN_goes {n b0 b1 b2 b3 c z : Nat} (h : nxN n b0 b1 b2 b3 = (c, z)) : (1 < z → b1 / 64 = 2) ∧ (2 < z → b2 / 64 = 2) ∧ (3 < z → b3 / 64 = 2) := by
  rw [nxN_is] at h
  repeat' split at h
  all_goals simp only [Prod.mk.injEq] at h
  all_goals obtain ⟨rfl, rfl⟩ := h
  all_goals omega
/-- behind a stands what begins with a byte below 128. -/
theorem nx_app_l (a c : ByteArray) (hc : bt c 0 < 128) (k : Nat) (hk : k < a.size) : nx (a ++ c) k = nx a k := by
  by_cases hz : (nx a k).2 = 0
  · rw [nx_none hz]
    by_cases hy : (nx (a ++ c) k).2 = 0
    · exact nx_none hy
    exfalso
    by_cases hn : k + (nx (a ++ c) k).2 ≤ a.size
    · have := nx_alike (s := a ++ c) (t := a) (k := k) (k' := k) (by omega) hn fun i hi => (bt_app_l a c _ (by omega)).symm
      rw [this] at hz; exact hy hz
    · have h4 := nx_four (a ++ c) k
      have hg := nxN_goes (show nxN ((a ++ c).size - k) (bt (a ++ c) k) (bt (a ++ c) (k + 1)) (bt (a ++ c) (k + 2)) (bt (a ++ c) (k + 3)) = ((nx (a ++ c) k).1, (nx (a ++ c) k).2) from rfl)
      have hb := bt_app_r a c 0
      rw [Nat.add_zero] at hb
      have hd : a.size = k + 1 ∨ a.size = k + 2 ∨ a.size = k + 3 := by omega
      rcases hd with hd | hd | hd
      · rw [hd] at hb; have := hg.1 (by omega); omega
      · rw [hd] at hb; have := hg.2.1 (by omega); omega
      · rw [hd] at hb; have := hg.2.2 (by omega); omega
  · have := nx_size a k
    exact nx_alike (by omega) (by rw [ByteArray.size_append]; omega) fun i hi => bt_app_l a c _ (by omega)
/-- and this is no letter: the runs of a, then those of c. -/
theorem ps_app_l (a c : ByteArray) (hc : bt c 0 < 128) (hl : stopP c true 0) : ∀ d k, a.size = k + d → ps (a ++ c) true k = ps a true k := by
  intro d
  induction d using Nat.strongRecOn with
  | ind d ih =>
    intro k hd
    by_cases e : d = 0
    · obtain rfl : k = a.size := by omega
      have h0 := nx_app_r a c 0
      rw [Nat.add_zero] at h0
      rw [ps_stop (s := a) (stop_end (Nat.le_refl _)), ps_stop (by unfold stopP at hl ⊢; rw [h0]; exact hl)]
    · have hx := nx_app_l a c hc k (by omega)
      by_cases hs : stopP a true k
      · rw [ps_stop hs, ps_stop (by unfold stopP at hs ⊢; rw [hx]; exact hs)]
      · have hg := go_size hs
        rw [ps_step hs, ps_step (s := a ++ c) (by unfold stopP at hs ⊢; rw [hx]; exact hs), hx]
        exact ih (d - (nx a k).2) (by omega) _ (by omega)
theorem rlAt_app_l (a c : ByteArray) (hc : bt c 0 < 128) (hl : stopP c true 0) : ∀ d k, a.size = k + d → flAt a k = a.size → rlAt (a ++ c) k = rlAt a k ++ rl c := by
  intro d
  induction d using Nat.strongRecOn with
  | ind d ih =>
    intro k hd hf
    by_cases e : d = 0
    · obtain rfl : k = a.size := by omega
      rw [rlAt_last, List.nil_append]
      have := rlAt_app_r a c 0
      rw [Nat.add_zero] at this
      exact this
    · have hx := nx_app_l a c hc k (by omega)
      have hz : (nx a k).2 ≠ 0 := fun h => by rw [flAt_stop h] at hf; omega
      have hsz := nx_size a k
      by_cases hb : letB ((nx a k).1 : Int) = true
      · have hs : ¬ stopP a true k := fun h => by
          rcases h with h | h
          · exact hz h
          · exact h hb
        have hs' : ¬ stopP (a ++ c) true k := by unfold stopP at hs ⊢; rw [hx]; exact hs
        have hp := ps_step hs
        have h1 := ps_ge (s := a) (b := true) (k := k + (nx a k).2) (by omega)
        have h2 := ps_le (s := a) (b := true) (k := k) (by omega)
        rw [rlAt_run hs, rlAt_run hs', ps_app_l a c hc hl d k hd, extract_app_l _ _ _ _ h2, ih (a.size - ps a true k) (by omega) _ (by omega) (by rw [flAt_ps true d k hd, hf])]
        rfl
      · have hs : ¬ stopP a false k := fun h => by
          rcases h with h | h
          · exact hz h
          · exact h (by simpa using hb)
        have hs' : ¬ stopP (a ++ c) false k := by unfold stopP at hs ⊢; rw [hx]; exact hs
        rw [rlAt_gap hs, rlAt_gap hs', hx, ih (d - (nx a k).2) (by omega) _ (by omega) (by rw [← flAt_step hz]; exact hf)]
theorem flAt_app_l (a c : ByteArray) (hc : bt c 0 < 128) : ∀ d k, a.size = k + d → flAt (a ++ c) k = if flAt a k = a.size then a.size + fl c else flAt a k := by
  intro d
  induction d using Nat.strongRecOn with
  | ind d ih =>
    intro k hd
    by_cases e : d = 0
    · obtain rfl : k = a.size := by omega
      rw [if_pos (flAt_stop (by rw [nx_end (Nat.le_refl _)]))]
      have := flAt_app_r a c c.size 0 (by omega)
      rw [Nat.add_zero] at this
      exact this
    · have hx := nx_app_l a c hc k (by omega)
      by_cases hz : (nx a k).2 = 0
      · rw [flAt_stop hz, flAt_stop (by rw [hx]; exact hz), if_neg (by omega)]
      · have hsz := nx_size a k
        rw [flAt_step hz, flAt_step (s := a ++ c) (by rw [hx]; exact hz), hx]
        exact ih (d - (nx a k).2) (by omega) _ (by omega)
/-- a blank between. -/
def blank : ByteArray := { data := #[32] }
theorem blank_nx (b : ByteArray) : nx (blank ++ b) 0 = (32, 1) := by
  have h : nx blank 0 = (32, 1) := by decide +kernel
  rw [nx_alike (s := blank) (t := blank ++ b) (k := 0) (k' := 0) (by rw [h]; decide) (by rw [h, ByteArray.size_append]; show 0 + 1 ≤ 1 + b.size; omega) (fun i hi => by rw [h] at hi; exact bt_app_l _ _ _ (by show 0 + i < 1; omega)), h]
theorem blank_let : letB ((32 : Nat) : Int) = false := by decide +kernel
theorem blank_stop (b : ByteArray) : bt (blank ++ b) 0 < 128 ∧ stopP (blank ++ b) true 0 ∧ ¬ stopP (blank ++ b) false 0 := by
  refine ⟨?_, ?_, ?_⟩
  · rw [bt_app_l _ _ _ (by decide)]; decide +kernel
  · right; rw [blank_nx, blank_let]; decide
  · rintro (h | h)
    · rw [blank_nx] at h; cases h
    · rw [blank_nx, blank_let] at h; exact h rfl
theorem blank_rl (b : ByteArray) : rl (blank ++ b) = rl b := by
  have h := rlAt_gap (blank_stop b).2.2
  rw [blank_nx] at h
  show rlAt _ 0 = _
  rw [h]
  exact rlAt_app_r blank b 0
theorem blank_fl (b : ByteArray) : fl (blank ++ b) = 1 + fl b := by
  have h := flAt_step (s := blank ++ b) (k := 0) (by rw [blank_nx]; decide)
  rw [blank_nx] at h
  show flAt _ 0 = _
  rw [h]
  exact flAt_app_r blank b b.size 0 (by omega)
theorem join_rl (a b : ByteArray) (ha : fl a = a.size) : rl (a ++ (blank ++ b)) = rl a ++ rl b := by
  have h := rlAt_app_l a (blank ++ b) (blank_stop b).1 (blank_stop b).2.1 a.size 0 (by omega) ha
  rw [blank_rl] at h
  exact h
theorem join_fl (a b : ByteArray) : (fl (a ++ (blank ++ b)) = (a ++ (blank ++ b)).size) ↔ (fl a = a.size ∧ fl b = b.size) := by
  have h := flAt_app_l a (blank ++ b) (blank_stop b).1 a.size 0 (by omega)
  rw [blank_fl] at h
  have hs : (a ++ (blank ++ b)).size = a.size + (1 + b.size) := by rw [ByteArray.size_append, ByteArray.size_append]; rfl
  have h1 := fl_le a
  have h2 := fl_le b
  show flAt _ 0 = _ ↔ _
  rw [h, hs]
  change (if fl a = a.size then _ else fl a) = _ ↔ _
  split <;> omega
end Go.Proofs.YthjfalbchkbdfaaDoor

/- Layer 9, pure: the error hangs on the runs alone; the words that are left. -/
namespace Go.Proofs.YthjfalbchkbdfaaDoor
set_option linter.unusedVariables false

def wErr : Nat → List ByteArray → Nat
  | _, [] => 0
  | i, r :: t => if 24 < r.size then 3 else if 48 ≤ i then 7 else wErr (i + 1) t
def wFil (st : List ByteArray) : Nat → List ByteArray → List (ByteArray × Nat)
  | _, [] => []
  | i, r :: t => if inS st (smS r) then wFil st (i + 1) t else (smS r, i) :: wFil st (i + 1) t
theorem wGo_is (st : List ByteArray) : ∀ (l : List ByteArray) (acc : List (ByteArray × Nat)) (i : Nat), wGo st acc i l = (wErr i l, if wErr i l = 0 then acc ++ wFil st i l else [])
  | [], acc, i => by simp [wGo, wErr, wFil]
  | r :: t, acc, i => by
    rw [wGo, wErr]
    by_cases h1 : 24 < r.size
    · rw [if_pos h1, if_pos h1]; rfl
    · rw [if_neg h1, if_neg h1]
      by_cases h2 : 48 ≤ i
      · rw [if_pos h2, if_pos h2]; rfl
      · rw [if_neg h2, if_neg h2, wGo_is st t _ (i + 1), wFil]
        by_cases h3 : inS st (smS r) = true
        · rw [if_pos h3, if_pos h3]
        · rw [if_neg h3, if_neg h3]
          congr 1
          split
          · simp
          · rfl
def errP (s : ByteArray) : Nat := if fl s = s.size then wErr 0 (rl s) else 8
theorem wordsP_is (s : ByteArray) (st : List ByteArray) : wordsP s st = (errP s, if errP s = 0 then wFil st 0 (rl s) else []) := by
  unfold wordsP errP
  by_cases h : fl s = s.size
  · rw [if_pos h, if_pos h, wGo_is]; simp
  · rw [if_neg h, if_neg h]; rfl
theorem errP_ok {s : ByteArray} (h : errP s = 0) : fl s = s.size ∧ wErr 0 (rl s) = 0 := by
  unfold errP at h
  by_cases e : fl s = s.size
  · rw [if_pos e] at h; exact ⟨e, h⟩
  · rw [if_neg e] at h; cases h
theorem wFil_none : ∀ (l : List ByteArray) (i j : Nat), (wFil [] i l)[j]? = (l[j]?).map fun r => (smS r, i + j)
  | [], i, j => by simp [wFil]
  | r :: t, i, j => by
    rw [wFil, if_neg (by simp [inS])]
    cases j with
    | zero => simp
    | succ j => simp only [List.getElem?_cons_succ, wFil_none t (i + 1) j]; congr 1; funext x; rw [show i + 1 + j = i + (j + 1) by omega]
theorem wFil_length (l : List ByteArray) : ∀ i, (wFil [] i l).length = l.length := by
  induction l with
  | nil => intro i; rfl
  | cons r t ih => intro i; rw [wFil, if_neg (by simp [inS]), List.length_cons, List.length_cons, ih]
theorem wFil_append (st : List ByteArray) : ∀ (l m : List ByteArray) (i : Nat), wFil st i (l ++ m) = wFil st i l ++ wFil st (i + l.length) m
  | [], m, i => by simp [wFil]
  | r :: t, m, i => by
    rw [List.cons_append, wFil, wFil, wFil_append st t m (i + 1), List.length_cons, show i + 1 + t.length = i + (t.length + 1) by omega]
    split <;> rfl
theorem wErr_ok {l : List ByteArray} : ∀ {i : Nat}, wErr i l = 0 → (∀ r ∈ l, r.size ≤ 24) ∧ (l = [] ∨ i + l.length ≤ 48) := by
  induction l with
  | nil => intro i _; exact ⟨by simp, .inl rfl⟩
  | cons r t ih =>
    intro i h
    rw [wErr] at h
    by_cases h1 : 24 < r.size
    · rw [if_pos h1] at h; cases h
    · rw [if_neg h1] at h
      by_cases h2 : 48 ≤ i
      · rw [if_pos h2] at h; cases h
      · rw [if_neg h2] at h
        obtain ⟨h3, h4⟩ := ih h
        refine ⟨fun x hx => ?_, .inr ?_⟩
        · rcases List.mem_cons.1 hx with rfl | hx
          · omega
          · exact h3 x hx
        · rw [List.length_cons]
          rcases h4 with rfl | h4
          · simp; omega
          · omega
theorem wErr_is {l : List ByteArray} : ∀ {i : Nat}, (∀ r ∈ l, r.size ≤ 24) → wErr i l = if l = [] ∨ i + l.length ≤ 48 then 0 else 7 := by
  induction l with
  | nil => intro i _; rfl
  | cons r t ih =>
    intro i h
    rw [wErr, if_neg (by have := h r (by simp); omega)]
    by_cases h2 : 48 ≤ i
    · rw [if_pos h2, if_neg (by simp; omega)]
    · rw [if_neg h2, ih fun x hx => h x (by simp [hx])]
      by_cases h3 : t = []
      · subst h3; simp; omega
      · simp only [h3, false_or, List.length_cons, reduceCtorEq]
        rw [show i + 1 + t.length = i + (t.length + 1) by omega]
/-- what is one word. -/
theorem oneP_is (s : ByteArray) : oneP s [] = true ↔ rl s = [s] ∧ fl s = s.size ∧ smS s = s ∧ s.size ≤ 24 := by
  unfold oneP
  rw [wordsP_is]
  constructor
  · intro h
    by_cases e : errP s = 0
    · rw [if_pos e, e] at h
      obtain ⟨h1, h2⟩ := errP_ok e
      have hl := wFil_length (rl s) 0
      have hn := wFil_none (rl s) 0
      generalize wFil [] 0 (rl s) = W at h hl hn
      match W, h, hl, hn with
      | [x], h, hl, hn =>
        obtain ⟨r, hr⟩ : ∃ r, rl s = [r] := List.length_eq_one_iff.1 hl.symm
        have hx := hn 0
        rw [hr] at hx h2
        simp only [List.getElem?_cons_zero, Option.map_some, Option.some.injEq] at hx
        subst hx
        have h3 : smS r = s := (Lib.bytes_beq_iff _ _).1 h
        have h4 : r.size = s.size := by rw [← smS_size r, h3]
        have h5 : r = s := by
          by_cases he : ps s true (ps s false 0) = ps s false 0
          · rw [show rl s = rlAt s 0 from rfl, rlAt_end he] at hr; cases hr
          · have hp := run_pos (Nat.zero_le _) he
            rw [show rl s = rlAt s 0 from rfl, rlAt_next he] at hr
            obtain rfl := (List.cons.inj hr).1
            rw [part_size _ _ _ hp.2.2] at h4
            obtain ⟨_, hp2, hp3⟩ := hp
            have z1 : ps s false 0 = 0 := by omega
            have z2 : ps s true (ps s false 0) = s.size := by omega
            rw [z2, z1, extract_whole]
        subst h5
        exact ⟨hr, h1, h3, (wErr_ok h2).1 _ (by simp)⟩
    · rw [if_neg e] at h
      revert h
      split <;> simp_all
  · rintro ⟨h1, h2, h3, h4⟩
    have e : errP s = 0 := by unfold errP; rw [if_pos h2, h1, wErr, if_neg (by omega)]; rfl
    have hw : wFil [] 0 (rl s) = [(smS s, 0)] := by rw [h1, wFil, if_neg (by simp [inS])]; rfl
    rw [if_pos e, e, hw]
    show ((smS s).toList == s.toList) = true
    rw [h3]; exact beq_self_eq_true _
end Go.Proofs.YthjfalbchkbdfaaDoor

/- words.One. -/
namespace Go.Proofs.YthjfalbchkbdfaaDoor
set_option linter.unusedSimpArgs false
set_option linter.unusedVariables false
open Go.RowKit Go.Deep

theorem oneP_one {s : ByteArray} {st : List ByteArray} {x : ByteArray × Nat} (h : (wordsP s st).2 = [x]) : oneP s st = (x.1.toList == s.toList) := by
  have e : wordsP s st = (errP s, (wordsP s st).2) := by rw [wordsP_is]
  rw [h] at e
  have h0 : errP s = 0 := by
    by_cases e0 : errP s = 0
    · exact e0
    · rw [wordsP_is, if_neg e0] at h; cases h
  unfold oneP
  rw [e, h0]
  rfl
theorem oneP_else {s : ByteArray} {st : List ByteArray} (h : (wordsP s st).2.length ≠ 1) : oneP s st = false := by
  unfold oneP
  generalize wordsP s st = q at h
  obtain ⟨e, l⟩ := q
  match e, l, h with
  | 0, [x], h => exact absurd rfl h
  | 0, [], _ => rfl
  | 0, _ :: _ :: _, _ => rfl
  | e + 1, [], _ => rfl
  | e + 1, _ :: _, _ => rfl
/-- the first one of some words, in memory. -/
theorem wordsAt.first {w : World} {v : Value} {x : ByteArray × Nat} (h : wordsAt w v [x]) : ∃ g c, v = .slice (some ⟨g, 0, none⟩) 1 c ∧ 1 ≤ c ∧ w.cell? ⟨g, 0, none⟩ = some (.string x.1) ∧ w.cell? ⟨g, 1, none⟩ = some (.int .i64 (x.2 : Int)) := by
  obtain ⟨a, c, rfl, h1, _, h3⟩ := h
  obtain ⟨g, rfl, _, h4⟩ := h3 (by simp)
  exact ⟨g, c, rfl, h1, h4 0 x rfl⟩
set_option maxHeartbeats 4000000 in
set_option maxRecDepth 100000 in
theorem one_any (s : ByteArray) (hs : s.size ≤ maxLen) (v : Value) (st : List ByteArray) (w : World) (hT : utT w) (hv : strsAt w v st) :
    Calls Tryd.prog 15 #[.string s, v] w fun e w' => e = .returned (.bool (oneP s st)) ∧ Below w.heap.size w w' := by
  have X := words_any s hs v st w hT hv
  have H1 : Hid (∀ x, (wordsP s st).2 = [x] → oneP s st = (x.1.toList == s.toList)) := (show _ from fun x h => oneP_one h)
  have H2 : Hid ((wordsP s st).2.length ≠ 1 → oneP s st = false) := (show _ from oneP_else)
  have HL : Hid ((wordsP s st).2.length ≤ maxLen ∨ True) := (show _ from .inr trivial)
  generalize oneP s st = B at H1 H2 ⊢
  generalize wordsP s st = q at X H1 H2
  obtain ⟨er, l⟩ := q
  simp only at X H1 H2
  clear hT hv hs HL
  go_enter Tryd.func15, Tryd.ntmps15
  go_wp2_with fail
  refine X.mono ?_
  rintro e w1 ⟨rv, rfl, hn, b1⟩
  have ha := newWords.at hn
  have B1 : Hid (Below w.heap.size w w1) := (show _ from b1)
  clear X hn b1
  by_cases h1 : l.length = 1
  · obtain ⟨x, rfl⟩ := List.length_eq_one_iff.1 h1
    have hb := H1.out x rfl
    obtain ⟨g, c, rfl, hc, c0, _⟩ := ha.first
    obtain ⟨x1, x2⟩ := x
    simp only at c0 hb
    have HB : Hid (B = (x1.toList == s.toList)) := (show _ from hb)
    clear ha h1 hb H1 H2
    cases hq : (x1.toList == s.toList) with
    | true =>
      have HB' : Hid (B = true) := (show B = true from HB.out.trans hq)
      go_wp2
      go_ret
      exact ⟨by rw [HB'.out]; rfl, B1.out⟩
    | false =>
      have HB' : Hid (B = false) := (show B = false from HB.out.trans hq)
      go_wp2
      go_ret
      exact ⟨by rw [HB'.out]; rfl, B1.out⟩
  · have hb := H2.out h1
    obtain ⟨a, c, rfl, _, _, _⟩ := ha
    have h1' : ¬ (l.length : Int) = 1 := by omega
    have HB : Hid (B = false) := (show B = false from hb)
    clear hb H1 H2 h1
    go_wp2
    go_ret
    exact ⟨by rw [HB.out]; rfl, B1.out⟩
end Go.Proofs.YthjfalbchkbdfaaDoor

/- words.MayStops. -/
namespace Go.Proofs.YthjfalbchkbdfaaDoor
set_option linter.unusedSimpArgs false
set_option linter.unusedVariables false
open Go.RowKit Go.Deep

/-- may a stop word stand at its place? -/
def mayA (one : Bool) (i : Nat) (p x : ByteArray) : Bool := one && (decide (i = 0) || Op.bytesLess p.toList x.toList)
def maySt (st : List ByteArray) (i : Nat) : Bool := mayA (oneP (st.getD i ByteArray.empty) []) i (st.getD (i - 1) ByteArray.empty) (st.getD i ByteArray.empty)
def mayP (st : List ByteArray) : Bool := decide (st.length ≤ 32) && (List.range st.length).all (maySt st)
theorem mayP_much {st : List ByteArray} (h : ¬ st.length ≤ 32) : mayP st = false := by unfold mayP; rw [decide_eq_false h]; rfl
theorem mayP_no {st : List ByteArray} {i : Nat} (hi : i < st.length) (h : maySt st i = false) : mayP st = false := by
  have e : (List.range st.length).all (maySt st) = false := by
    rw [Bool.eq_false_iff]
    intro hc
    have := List.all_eq_true.1 hc i (List.mem_range.2 hi)
    rw [h] at this
    cases this
  unfold mayP
  rw [e]
  exact Bool.and_false _
theorem mayP_yes {st : List ByteArray} (h : st.length ≤ 32) (ha : ∀ i, i < st.length → maySt st i = true) : mayP st = true := by
  unfold mayP
  rw [decide_eq_true h, List.all_eq_true.2 fun i hi => ha i (List.mem_range.1 hi)]; rfl
set_option maxHeartbeats 8000000 in
set_option maxRecDepth 100000 in
theorem mayStops_any (v : Value) (st : List ByteArray) (w : World) (hT : utT w) (hv : strsAt w v st) :
    Calls Tryd.prog 17 #[v] w fun e w' => e = .returned (.bool (mayP st)) ∧ Below w.heap.size w w' := by
  obtain ⟨va, vc, rfl, hvc, _, hl, hrow⟩ := hv.slice
  have hm : (st.length : Int) ≤ 9223372036854775807 := by unfold maxLen at hl; omega
  have M1 : Hid (¬ st.length ≤ 32 → mayP st = false) := (show _ from mayP_much)
  have M2 : Hid (∀ i, i < st.length → maySt st i = false → mayP st = false) := (show _ from fun i hi h => mayP_no hi h)
  have M3 : Hid (st.length ≤ 32 → (∀ i, i < st.length → maySt st i = true) → mayP st = true) := (show _ from mayP_yes)
  generalize mayP st = B at M1 M2 M3 ⊢
  have HT : Hid (utT w) := (show utT w from hT)
  have HR : Hid _ := hrow
  clear hT hv hrow hl
  go_enter Tryd.func17, Tryd.ntmps17
  by_cases h32 : st.length ≤ 32
  · have h32' : ¬ (st.length : Int) > 32 := by omega
    go_wp2
    go_loopw [10] (fun i wr => ∃ j : Nat, j ≤ st.length ∧ i = .int .i64 (j : Int) ∧ (∀ k, k < j → maySt st k = true) ∧ Below w.heap.size w wr) (fun i _ => st.length - (intOf i).toNat)
    case atStart => exact ⟨0, Nat.zero_le _, rfl, fun k h => absurd h (Nat.not_lt_zero k), Below.refl _ _⟩
    case round =>
      obtain ⟨j, hj, rfl, hall, hb⟩ := hrel
      have HA : Hid (∀ k, k < j → maySt st k = true) := (show _ from hall)
      have HB : Hid (Below w.heap.size w wr) := (show _ from hb)
      have j0 : (0 : Int) ≤ (j : Int) := by omega
      clear hall
      by_cases hlt : j < st.length
      · obtain ⟨pb, po, rfl, hpb, hcell⟩ := HR.out (by omega)
        have cellAt : ∀ i, i < st.length → wr.cell? ⟨pb, po + i, none⟩ = some (.string (st.getD i ByteArray.empty)) ∧ (st.getD i ByteArray.empty).size ≤ maxLen := fun i hi => by
          have h1 := hcell i (st.getD i ByteArray.empty) (by rw [List.getD_eq_getElem?_getD, List.getElem?_eq_getElem hi]; rfl)
          exact ⟨(hb.cell (p := ⟨pb, po + i, none⟩) hpb).trans h1.1, h1.2⟩
        obtain ⟨cj, sj⟩ := cellAt j hlt
        have XO := one_any (st.getD j ByteArray.empty) sj (.slice none 0 0) [] wr (HT.out.below hb) (.inl ⟨rfl, rfl⟩)
        have hS : maySt st j = mayA (oneP (st.getD j ByteArray.empty) []) j (st.getD (j - 1) ByteArray.empty) (st.getD j ByteArray.empty) := rfl
        have CA : Hid _ := cellAt
        obtain ⟨one, hone⟩ : ∃ one, one = oneP (st.getD j ByteArray.empty) [] := ⟨_, rfl⟩
        rw [← hone] at XO hS
        obtain ⟨x, hx⟩ : ∃ x, x = st.getD j ByteArray.empty := ⟨_, rfl⟩
        rw [← hx] at XO hS cj
        obtain ⟨y, hy⟩ : ∃ y, y = st.getD (j - 1) ByteArray.empty := ⟨_, rfl⟩
        rw [← hy] at hS
        have HS : Hid (maySt st j = mayA one j y x) := (show _ from hS)
        have HY : Hid (y = st.getD (j - 1) ByteArray.empty) := (show _ from hy)
        have j1 : (j : Int) < (st.length : Int) := by omega
        have cjl : ∀ z : Nat, z = po + j → wr.cell? ⟨pb, z, none⟩ = some (.string x) := fun z hz => by rw [hz]; exact cj
        clear hcell cellAt hone hx hy hS sj
        go_wp2_with fail
        refine XO.mono ?_
        rintro e w1 ⟨rfl, b1⟩
        have B1 : Hid (Below w.heap.size w w1) := (show _ from HB.out.trans (b1.mono HB.out.size))
        have BB : Hid (Below wr.heap.size wr w1) := (show _ from b1)
        clear XO b1 cj cjl hb
        cases one with
        | false =>
          have hr : B = false := M2.out j hlt HS.out
          go_wp2
          go_ret
          exact ⟨by rw [hr]; rfl, B1.out⟩
        | true =>
          by_cases hj0 : j = 0
          · have hr : maySt st j = true := by rw [HS.out, hj0]; rfl
            have HR2 : Hid (maySt st j = true) := (show _ from hr)
            have hj0' : ¬ (j : Int) > 0 := by omega
            clear hr hj0
            go_wp2
            go_light
            refine ⟨⟨j + 1, by omega, by go_num, fun k hk => ?_, B1.out⟩, by simp [intOf]; omega⟩
            by_cases hk' : k = j
            · rw [hk']; exact HR2.out
            · exact HA.out k (by omega)
          · have hj0' : (j : Int) > 0 := by omega
            obtain ⟨cy, _⟩ := CA.out (j - 1) (by omega)
            rw [← HY.out] at cy
            have hpl : pb < wr.heap.size := Nat.lt_of_lt_of_le hpb HB.out.size
            have cy1 : ∀ z : Nat, z = po + (j - 1) → w1.cell? ⟨pb, z, none⟩ = some (.string y) := fun z hz => by rw [hz]; exact (BB.out.cell (p := ⟨pb, po + (j - 1), none⟩) hpl).trans cy
            have e1 : (j : Int) - 1 = ((j - 1 : Nat) : Int) := by omega
            have e2 : ((j - 1 : Nat) : Int) < (st.length : Int) := by omega
            clear cy
            cases hq : Op.bytesLess y.toList x.toList with
            | true =>
              have hr : maySt st j = true := by rw [HS.out]; unfold mayA; rw [hq]; simp
              have HR2 : Hid (maySt st j = true) := (show _ from hr)
              clear hr
              go_wp2
              go_light
              refine ⟨⟨j + 1, by omega, by go_num, fun k hk => ?_, B1.out⟩, by simp [intOf]; omega⟩
              by_cases hk' : k = j
              · rw [hk']; exact HR2.out
              · exact HA.out k (by omega)
            | false =>
              have hr0 : maySt st j = false := by rw [HS.out]; unfold mayA; rw [hq, decide_eq_false hj0]; rfl
              have hr : B = false := M2.out j hlt hr0
              clear hr0
              go_wp2
              go_ret
              exact ⟨by rw [hr]; rfl, B1.out⟩
      · obtain rfl : j = st.length := by omega
        have hr : B = true := M3.out h32 HA.out
        go_wp2
        go_ret
        exact ⟨by rw [hr]; rfl, HB.out⟩
  · have h32' : (st.length : Int) > 32 := by omega
    have hr := M1.out h32
    go_wp2
    go_ret
    exact ⟨by rw [hr]; rfl, Below.refl _ _⟩
end Go.Proofs.YthjfalbchkbdfaaDoor

/- Rows of texts of one's own. -/
namespace Go.Proofs.YthjfalbchkbdfaaDoor
set_option linter.unusedSimpArgs false
set_option linter.unusedVariables false
open Go.RowKit Go.Deep

theorem strsAt.one (w : World) (x : ByteArray) (hx : x.size ≤ maxLen) : strsAt (w.alloc (.cells #[.string x] 9)) (.slice (some ⟨w.heap.size, 0, none⟩) 1 1) [x] :=
  .inr ⟨w.heap.size, 0, 1, rfl, Nat.le_refl _, by unfold maxLen; omega, by simp, fun i s hi => by
    match i, hi with
    | 0, hi =>
      obtain rfl := Option.some.inj hi
      exact ⟨by rw [cell_of_row _ _ _ _ _ _ (blk_alloc_new w _)]; rfl, hx⟩⟩
theorem strsAt.two (w : World) (x y : ByteArray) (hx : x.size ≤ maxLen) (hy : y.size ≤ maxLen) : strsAt (w.alloc (.cells #[.string x, .string y] 9)) (.slice (some ⟨w.heap.size, 0, none⟩) 2 2) [x, y] :=
  .inr ⟨w.heap.size, 0, 2, rfl, Nat.le_refl _, by unfold maxLen; omega, by simp, fun i s hi => by
    match i, hi with
    | 0, hi =>
      obtain rfl := Option.some.inj hi
      exact ⟨by rw [cell_of_row _ _ _ _ _ _ (blk_alloc_new w _)]; rfl, hx⟩
    | 1, hi =>
      obtain rfl := Option.some.inj hi
      exact ⟨by rw [cell_of_row _ _ _ _ _ _ (blk_alloc_new w _)]; rfl, hy⟩⟩
/-- texts, in memory of one's own. -/
def newStrs (w : World) (B : Nat) (v : Value) (L : List ByteArray) : Prop := w.ownsRow B 9 1 v L.length (L.map Value.string) ∧ ∀ s ∈ L, s.size ≤ maxLen
theorem newStrs.zero (w : World) (B : Nat) : newStrs w B (.slice none 0 0) [] := ⟨⟨rfl, .inl ⟨rfl, rfl⟩⟩, fun s h => by cases h⟩
theorem newStrs.empty (w : World) (B : Nat) (hB : B ≤ w.heap.size) : newStrs (w.alloc (.cells #[] 9)) B (.slice (some ⟨w.heap.size, 0, none⟩) 0 0) [] :=
  ⟨⟨rfl, Or.inr ⟨w.heap.size, 0, #[], rfl, hB, blk_alloc_new _ _, Nat.le_refl _, by unfold maxLen; omega, rfl, rfl⟩⟩, fun s h => by cases h⟩
theorem newStrs.below {w w' : World} {B : Nat} {v : Value} {L : List ByteArray} (h : newStrs w B v L) (hb : Below w.heap.size w w') : newStrs w' B v L :=
  ⟨ownsRow_far h.1 fun k hk => hb.block k (ownsRow_block h.1 k hk).2, h.2⟩
theorem newStrs.slice {w : World} {B : Nat} {v : Value} {L : List ByteArray} (h : newStrs w B v L) : ∃ a c, v = .slice a L.length c := by
  obtain ⟨a, c, e, _⟩ := ownsRow_slice h.1; exact ⟨a, c, e⟩
theorem newStrs.at {w : World} {B : Nat} {v : Value} {L : List ByteArray} (h : newStrs w B v L) : strsAt w v L := by
  obtain ⟨⟨hl, h1 | ⟨g, cap, cur, rfl, hg, hbk, hc, hm, hcs, htk⟩⟩, h2⟩ := h
  · exact .inl ⟨h1.1, List.length_eq_zero_iff.1 h1.2⟩
  · refine .inr ⟨g, 0, cap, rfl, hc, hm, (Array.getElem?_eq_some_iff.1 hbk).1, fun i s hi => ⟨?_, h2 s (List.mem_of_getElem? hi)⟩⟩
    rw [cell_of_row _ _ _ _ _ _ hbk]
    have hi' : i < L.length := (List.getElem?_eq_some_iff.1 hi).1
    have h3 : (L.map Value.string)[i]? = some (.string s) := by rw [List.getElem?_map, hi]; rfl
    rw [← htk, List.getElem?_take, if_pos (by omega), Array.getElem?_toList] at h3
    rw [Nat.zero_add]
    exact h3
end Go.Proofs.YthjfalbchkbdfaaDoor

/- awake: the chapter's examples. -/
namespace Go.Proofs.YthjfalbchkbdfaaDoor
set_option linter.unusedSimpArgs false
set_option linter.unusedVariables false
open Go.RowKit Go.Deep

theorem kw1 : wordsP { data := #[84, 104, 101, 32, 99, 97, 116, 44, 32, 116, 104, 101, 32, 67, 65, 84, 45, 51, 33] } [{ data := #[116, 104, 101] }] = (0, [({ data := #[99, 97, 116] }, 1), ({ data := #[99, 97, 116] }, 3), ({ data := #[51] }, 4)]) := by kernel_rfl
theorem kw2 : wordsP { data := #[255] } [] = (8, []) := by kernel_rfl
theorem ko1 : oneP { data := #[99, 97, 116] } [] = true := by kernel_rfl
theorem ko2 : oneP { data := #[67, 97, 116] } [] = false := by kernel_rfl
theorem ko3 : oneP { data := #[97, 32, 99, 97, 116] } [] = false := by kernel_rfl
theorem ko4 : oneP { data := #[116, 104, 101] } [{ data := #[116, 104, 101] }] = false := by kernel_rfl
theorem km1 : mayP [{ data := #[97] }, { data := #[116, 104, 101] }] = true := by kernel_rfl
theorem km2 : mayP [{ data := #[116, 104, 101] }, { data := #[97] }] = false := by kernel_rfl
theorem km3 : mayP [{ data := #[97, 32, 98] }] = false := by kernel_rfl
set_option maxHeartbeats 8000000 in
set_option maxRecDepth 100000 in
theorem awake_any (w : World) (hT : utT w) :
    Calls Tryd.prog 10 #[] w fun e w' => e = .returned (.bool true) ∧ Below w.heap.size w w' := by
  have HT : Hid (utT w) := (show utT w from hT)
  have lenM : ∀ n : Nat, n ≤ 100 → n ≤ maxLen := fun n h => by unfold maxLen; omega
  have HLEN : Hid (∀ n : Nat, n ≤ 100 → n ≤ maxLen) := (show _ from lenM)
  clear hT lenM
  go_enter Tryd.func10, Tryd.ntmps10
  obtain ⟨v1, hv1⟩ : ∃ v, v = w.alloc (.cells #[.string { data := #[116, 104, 101] }] 9) := ⟨_, rfl⟩
  have st1 : strsAt v1 (.slice (some ⟨w.heap.size, 0, none⟩) 1 1) [{ data := #[116, 104, 101] }] := by rw [hv1]; exact strsAt.one _ { data := #[116, 104, 101] } (HLEN.out _ (by decide))
  have bb1 : Below w.heap.size w v1 := by rw [hv1]; exact (Below.refl w.heap.size w).alloc (Below.refl w.heap.size w).size _
  have X1 := words_any { data := #[84, 104, 101, 32, 99, 97, 116, 44, 32, 116, 104, 101, 32, 67, 65, 84, 45, 51, 33] } (HLEN.out _ (by decide)) _ [{ data := #[116, 104, 101] }] v1 (HT.out.below bb1) st1
  rw [kw1] at X1
  go_wp2_with fail
  rw [← hv1]
  refine X1.mono ?_
  rintro e w1 ⟨r1, rfl, n1, b1⟩
  have B1 : Hid (Below w.heap.size w w1) := (show Below w.heap.size w w1 from bb1.trans (b1.mono bb1.size))
  have BN1 : Hid (Below v1.heap.size v1 w1) := (show _ from b1)
  obtain ⟨a1, c1, rfl, hc1, hm1, hr1⟩ := newWords.at n1
  obtain ⟨g, rfl, hg, hcell⟩ := hr1 (by simp)
  have HC : Hid _ := hcell
  have HG : Hid (g < w1.heap.size) := (show _ from hg)
  simp only [List.length_cons, List.length_nil, Nat.zero_add, Nat.reduceAdd] at hc1
  clear n1 hr1 hcell hg hm1
  clear X1 b1 st1 bb1 hv1
  have X2 := words_any { data := #[255] } (HLEN.out _ (by decide)) _ [] w1 (HT.out.below B1.out) (.inl ⟨rfl, rfl⟩)
  rw [kw2] at X2
  go_wp2_with fail
  refine X2.mono ?_
  rintro e w2 ⟨r2, rfl, n2, b2⟩
  have B2 : Hid (Below w.heap.size w w2) := (show Below w.heap.size w w2 from B1.out.trans (b2.mono B1.out.size))
  have BN2 : Hid (Below w1.heap.size w1 w2) := (show _ from b2)
  obtain ⟨a2, c2, rfl, hc2, hm2, hr2⟩ := newWords.at n2
  clear n2 hr2 hm2 hc2
  have k0 : w2.cell? ⟨g, 0, none⟩ = some (.string { data := #[99, 97, 116] }) ∧ w2.cell? ⟨g, 1, none⟩ = some (.int .i64 1) := ⟨(BN2.out.cell (p := ⟨g, 0, none⟩) HG.out).trans (HC.out 0 _ rfl).1, (BN2.out.cell (p := ⟨g, 1, none⟩) HG.out).trans (HC.out 0 _ rfl).2⟩
  have k1 : w2.cell? ⟨g, 2, none⟩ = some (.string { data := #[99, 97, 116] }) ∧ w2.cell? ⟨g, 3, none⟩ = some (.int .i64 3) := ⟨(BN2.out.cell (p := ⟨g, 2, none⟩) HG.out).trans (HC.out 1 _ rfl).1, (BN2.out.cell (p := ⟨g, 3, none⟩) HG.out).trans (HC.out 1 _ rfl).2⟩
  have k2 : w2.cell? ⟨g, 4, none⟩ = some (.string { data := #[51] }) ∧ w2.cell? ⟨g, 5, none⟩ = some (.int .i64 4) := ⟨(BN2.out.cell (p := ⟨g, 4, none⟩) HG.out).trans (HC.out 2 _ rfl).1, (BN2.out.cell (p := ⟨g, 5, none⟩) HG.out).trans (HC.out 2 _ rfl).2⟩
  obtain ⟨p0, p1⟩ := k0
  obtain ⟨p2, p3⟩ := k1
  obtain ⟨p4, p5⟩ := k2
  clear X2 b2
  have X3 := one_any { data := #[99, 97, 116] } (HLEN.out _ (by decide)) _ [] w2 (HT.out.below B2.out) (.inl ⟨rfl, rfl⟩)
  rw [ko1] at X3
  go_wp2_with fail
  refine X3.mono ?_
  rintro e w3 ⟨rfl, b3⟩
  have B3 : Hid (Below w.heap.size w w3) := (show Below w.heap.size w w3 from B2.out.trans (b3.mono B2.out.size))
  have BN3 : Hid (Below w2.heap.size w2 w3) := (show _ from b3)
  clear X3 b3
  have X4 := one_any { data := #[67, 97, 116] } (HLEN.out _ (by decide)) _ [] w3 (HT.out.below B3.out) (.inl ⟨rfl, rfl⟩)
  rw [ko2] at X4
  go_wp2_with fail
  refine X4.mono ?_
  rintro e w4 ⟨rfl, b4⟩
  have B4 : Hid (Below w.heap.size w w4) := (show Below w.heap.size w w4 from B3.out.trans (b4.mono B3.out.size))
  have BN4 : Hid (Below w3.heap.size w3 w4) := (show _ from b4)
  clear X4 b4
  have X5 := one_any { data := #[97, 32, 99, 97, 116] } (HLEN.out _ (by decide)) _ [] w4 (HT.out.below B4.out) (.inl ⟨rfl, rfl⟩)
  rw [ko3] at X5
  go_wp2_with fail
  refine X5.mono ?_
  rintro e w5 ⟨rfl, b5⟩
  have B5 : Hid (Below w.heap.size w w5) := (show Below w.heap.size w w5 from B4.out.trans (b5.mono B4.out.size))
  have BN5 : Hid (Below w4.heap.size w4 w5) := (show _ from b5)
  clear X5 b5
  obtain ⟨v6, hv6⟩ : ∃ v, v = w5.alloc (.cells #[.string { data := #[116, 104, 101] }] 9) := ⟨_, rfl⟩
  have st6 : strsAt v6 (.slice (some ⟨w5.heap.size, 0, none⟩) 1 1) [{ data := #[116, 104, 101] }] := by rw [hv6]; exact strsAt.one _ { data := #[116, 104, 101] } (HLEN.out _ (by decide))
  have bb6 : Below w.heap.size w v6 := by rw [hv6]; exact B5.out.alloc B5.out.size _
  have X6 := one_any { data := #[116, 104, 101] } (HLEN.out _ (by decide)) _ [{ data := #[116, 104, 101] }] v6 (HT.out.below bb6) st6
  rw [ko4] at X6
  go_wp2_with fail
  rw [← hv6]
  refine X6.mono ?_
  rintro e w6 ⟨rfl, b6⟩
  have B6 : Hid (Below w.heap.size w w6) := (show Below w.heap.size w w6 from bb6.trans (b6.mono bb6.size))
  have BN6 : Hid (Below v6.heap.size v6 w6) := (show _ from b6)
  clear X6 b6 st6 bb6 hv6
  obtain ⟨v7, hv7⟩ : ∃ v, v = w6.alloc (.cells #[.string { data := #[97] }, .string { data := #[116, 104, 101] }] 9) := ⟨_, rfl⟩
  have st7 : strsAt v7 (.slice (some ⟨w6.heap.size, 0, none⟩) 2 2) [{ data := #[97] }, { data := #[116, 104, 101] }] := by rw [hv7]; exact strsAt.two _ { data := #[97] } { data := #[116, 104, 101] } (HLEN.out _ (by decide)) (HLEN.out _ (by decide))
  have bb7 : Below w.heap.size w v7 := by rw [hv7]; exact B6.out.alloc B6.out.size _
  have X7 := mayStops_any _ [{ data := #[97] }, { data := #[116, 104, 101] }] v7 (HT.out.below bb7) st7
  rw [km1] at X7
  go_wp2_with fail
  rw [← hv7]
  refine X7.mono ?_
  rintro e w7 ⟨rfl, b7⟩
  have B7 : Hid (Below w.heap.size w w7) := (show Below w.heap.size w w7 from bb7.trans (b7.mono bb7.size))
  have BN7 : Hid (Below v7.heap.size v7 w7) := (show _ from b7)
  clear X7 b7 st7 bb7 hv7
  obtain ⟨v8, hv8⟩ : ∃ v, v = w7.alloc (.cells #[.string { data := #[116, 104, 101] }, .string { data := #[97] }] 9) := ⟨_, rfl⟩
  have st8 : strsAt v8 (.slice (some ⟨w7.heap.size, 0, none⟩) 2 2) [{ data := #[116, 104, 101] }, { data := #[97] }] := by rw [hv8]; exact strsAt.two _ { data := #[116, 104, 101] } { data := #[97] } (HLEN.out _ (by decide)) (HLEN.out _ (by decide))
  have bb8 : Below w.heap.size w v8 := by rw [hv8]; exact B7.out.alloc B7.out.size _
  have X8 := mayStops_any _ [{ data := #[116, 104, 101] }, { data := #[97] }] v8 (HT.out.below bb8) st8
  rw [km2] at X8
  go_wp2_with fail
  rw [← hv8]
  refine X8.mono ?_
  rintro e w8 ⟨rfl, b8⟩
  have B8 : Hid (Below w.heap.size w w8) := (show Below w.heap.size w w8 from bb8.trans (b8.mono bb8.size))
  have BN8 : Hid (Below v8.heap.size v8 w8) := (show _ from b8)
  clear X8 b8 st8 bb8 hv8
  obtain ⟨v9, hv9⟩ : ∃ v, v = w8.alloc (.cells #[.string { data := #[97, 32, 98] }] 9) := ⟨_, rfl⟩
  have st9 : strsAt v9 (.slice (some ⟨w8.heap.size, 0, none⟩) 1 1) [{ data := #[97, 32, 98] }] := by rw [hv9]; exact strsAt.one _ { data := #[97, 32, 98] } (HLEN.out _ (by decide))
  have bb9 : Below w.heap.size w v9 := by rw [hv9]; exact B8.out.alloc B8.out.size _
  have X9 := mayStops_any _ [{ data := #[97, 32, 98] }] v9 (HT.out.below bb9) st9
  rw [km3] at X9
  go_wp2_with fail
  rw [← hv9]
  refine X9.mono ?_
  rintro e w9 ⟨rfl, b9⟩
  have B9 : Hid (Below w.heap.size w w9) := (show Below w.heap.size w w9 from bb9.trans (b9.mono bb9.size))
  have BN9 : Hid (Below v9.heap.size v9 w9) := (show _ from b9)
  clear X9 b9 st9 bb9 hv9
  go_wp2
  go_ret
  exact ⟨rfl, B9.out⟩
end Go.Proofs.YthjfalbchkbdfaaDoor

/- UtfSteps, pure: code points as bytes are gone through as they are. -/
namespace Go.Proofs.YthjfalbchkbdfaaDoor
set_option linter.unusedVariables false
open Go.RowKit Go.Deep

theorem encI_len {c : Int} (h : ptP c) : 1 ≤ (encI c).length ∧ (encI c).length ≤ 4 := by
  unfold encI
  repeat' split
  all_goals simp
theorem encode_enc {c : Int} (h : ptP c) : Utf8.encode c = strOf (encI c) := by
  have hp := h
  unfold ptP at hp
  have hv : Utf8.valid c = true := by
    unfold Utf8.valid
    simp only [Bool.or_eq_true, Bool.and_eq_true, decide_eq_true_eq]
    omega
  unfold Utf8.encode
  simp only [hv, if_true]
  unfold encI
  by_cases h1 : c < 128
  · rw [if_pos h1, if_pos (by omega)]; rfl
  rw [if_neg h1, if_neg (by omega)]
  by_cases h2 : c < 2048
  · rw [if_pos h2, if_pos (by omega)]
    have e1 : 192 + c.toNat / 64 = (192 + c / 64).toNat := by omega
    have e2 : 128 + c.toNat % 64 = (128 + c % 64).toNat := by omega
    rw [e1, e2]; rfl
  rw [if_neg h2, if_neg (by omega)]
  by_cases h3 : c < 65536
  · rw [if_pos h3, if_pos (by omega)]
    have e1 : 224 + c.toNat / 4096 = (224 + c / 4096).toNat := by omega
    have e2 : 128 + c.toNat / 64 % 64 = (128 + c / 64 % 64).toNat := by omega
    have e3 : 128 + c.toNat % 64 = (128 + c % 64).toNat := by omega
    rw [e1, e2, e3]; rfl
  · rw [if_neg h3, if_neg (by omega)]
    have e1 : 240 + c.toNat / 262144 = (240 + c / 262144).toNat := by omega
    have e2 : 128 + c.toNat / 4096 % 64 = (128 + c / 4096 % 64).toNat := by omega
    have e3 : 128 + c.toNat / 64 % 64 = (128 + c / 64 % 64).toNat := by omega
    have e4 : 128 + c.toNat % 64 = (128 + c % 64).toNat := by omega
    rw [e1, e2, e3, e4]; rfl
/-- their bytes, one behind the other. -/
def encL (ns : List Int) : List Int := ns.flatMap encI
theorem fold_enc : ∀ (ns : List Int) (l : List Int), (∀ c ∈ ns, ptP c) → ns.foldl (fun r n => r ++ Utf8.encode n) (strOf l) = strOf (l ++ encL ns)
  | [], l, _ => by simp [encL]
  | c :: ns, l, h => by
    rw [List.foldl_cons, encode_enc (h c (by simp)), strOf_append, fold_enc ns _ (fun x hx => h x (by simp [hx]))]
    simp [encL]
theorem runes_enc (ns : List Int) (h : ∀ c ∈ ns, ptP c) : runesBytes ns = strOf (encL ns) := by
  have := fold_enc ns [] h
  rw [List.nil_append] at this
  exact this
theorem encL_byte (ns : List Int) (h : ∀ c ∈ ns, ptP c) : ∀ x ∈ encL ns, 0 ≤ x ∧ x ≤ 255 := fun x hx => by
  unfold encL at hx
  obtain ⟨c, hc, hx⟩ := List.mem_flatMap.1 hx
  obtain ⟨i, hi, rfl⟩ := List.getElem_of_mem hx
  have := encI_byte (h c hc) i
  rwa [List.getD_eq_getElem?_getD, List.getElem?_eq_getElem hi] at this
theorem getD_of_all {l : List Int} (h : ∀ x ∈ l, 0 ≤ x ∧ x ≤ 255) (i : Nat) : 0 ≤ l.getD i 0 ∧ l.getD i 0 ≤ 255 := by
  rw [List.getD_eq_getElem?_getD]
  cases e : l[i]? with
  | none => exact ⟨by simp, by simp⟩
  | some x => exact h x (List.mem_of_getElem? e)
theorem bt_strOf (l : List Int) (h : ∀ x ∈ l, 0 ≤ x ∧ x ≤ 255) (i : Nat) : (bt (strOf l) i : Int) = l.getD i 0 := by
  rw [← sBytes_bt, sBytes_strOf l (getD_of_all h)]
/-- where the code point j begins. -/
def offE (ns : List Int) (j : Nat) : Nat := (encL (ns.take j)).length
set_option maxHeartbeats 2000000 in
/-- a code point's bytes are told as it. -/
theorem enc_nx {c : Int} (hc : ptP c) (s : ByteArray) (k : Nat) (hn : k + (encI c).length ≤ s.size) (hb : ∀ i, i < (encI c).length → (bt s (k + i) : Int) = (encI c).getD i 0) : ((nx s k).1 : Int) = c ∧ (nx s k).2 = (encI c).length := by
  have hp := hc
  unfold ptP at hp
  unfold nx
  rw [nxN_is]
  unfold encI at hn hb ⊢
  by_cases h1 : c < 128
  · simp only [if_pos h1] at hn hb ⊢
    have b0 := hb 0 (by simp)
    simp at b0 hn ⊢
    rw [if_neg (by omega), if_pos (by omega)]
    exact ⟨b0, rfl⟩
  by_cases h2 : c < 2048
  · simp only [if_neg h1, if_pos h2] at hn hb ⊢
    have b0 := hb 0 (by simp)
    have b1 := hb 1 (by simp)
    simp at b0 b1 hn ⊢
    rw [if_neg (by omega), if_neg (by omega), if_pos (by omega)]
    exact ⟨by simp only; omega, rfl⟩
  by_cases h3 : c < 65536
  · simp only [if_neg h1, if_neg h2, if_pos h3] at hn hb ⊢
    have b0 := hb 0 (by simp)
    have b1 := hb 1 (by simp)
    have b2 := hb 2 (by simp)
    simp at b0 b1 b2 hn ⊢
    rw [if_neg (by omega), if_neg (by omega), if_neg (by omega), if_pos (by omega)]
    exact ⟨by simp only; omega, rfl⟩
  · simp only [if_neg h1, if_neg h2, if_neg h3] at hn hb ⊢
    have b0 := hb 0 (by simp)
    have b1 := hb 1 (by simp)
    have b2 := hb 2 (by simp)
    have b3 := hb 3 (by simp)
    simp at b0 b1 b2 b3 hn ⊢
    rw [if_neg (by omega), if_neg (by omega), if_neg (by omega), if_neg (by omega), if_pos (by omega)]
    exact ⟨by simp only; omega, rfl⟩
/-- how far a beginning is right. -/
def stI (s : ByteArray) (k at_ r : Nat) : Prop := (at_ ≤ k → r = at_ ∧ fl (s.extract 0 k) = flAt (s.extract 0 k) at_) ∧ (k < at_ → fl (s.extract 0 k) = r)
end Go.Proofs.YthjfalbchkbdfaaDoor

/- Layer 9, pure: the words of two texts with a blank between; those that are left. -/
namespace Go.Proofs.YthjfalbchkbdfaaDoor
set_option linter.unusedVariables false

theorem wErr_small {l : List ByteArray} (h1 : ∀ r ∈ l, r.size ≤ 24) (h2 : l.length ≤ 48) : wErr 0 l = 0 := by
  rw [wErr_is h1, if_pos (.inr (by omega))]
theorem words_nil {s : ByteArray} (h : errP s = 0) : wordsP s [] = (0, wFil [] 0 (rl s)) := by rw [wordsP_is, h, if_pos rfl]
theorem wFil_get {l : List ByteArray} {i j : Nat} (h : j < l.length) : (wFil [] i l)[j]? = some (smS l[j], i + j) := by
  rw [wFil_none, List.getElem?_eq_getElem h]; rfl
/-- what WordsJoins says, of plain answers. -/
def joinsP (x y z : Nat × List (ByteArray × Nat)) : Prop :=
  ((x.1 ≠ 0 ∨ y.1 ≠ 0) → z.1 ≠ 0) ∧ (x.1 = 0 → y.1 = 0 → 48 < x.2.length + y.2.length → z.1 = 7) ∧
  (x.1 = 0 → y.1 = 0 → x.2.length + y.2.length ≤ 48 → z.1 = 0 ∧ z.2.length = x.2.length + y.2.length ∧
    (∀ i, i < x.2.length → ∃ t m, z.2[i]? = some (t, m) ∧ x.2[i]? = some (t, m)) ∧ ∀ m, m < y.2.length → ∃ t, y.2[m]? = some (t, m) ∧ z.2[x.2.length + m]? = some (t, x.2.length + m))
/-- the runs that count. -/
def leftM (s : ByteArray) : List ByteArray := if errP s = 0 then rl s else []
end Go.Proofs.YthjfalbchkbdfaaDoor

/- The law's gap: a code point that is no letter. -/
namespace Go.Proofs.YthjfalbchkbdfaaDoor
set_option linter.unusedSimpArgs false
set_option linter.unusedVariables false
open Go.RowKit Go.Deep

/-- a text ahead of which any other one keeps its runs. -/
def gapP (g : ByteArray) : Prop := 0 < g.size ∧ g.size ≤ 4 ∧ ∃ c : Nat, letB (c : Int) = false ∧ ∀ b, nx (g ++ b) 0 = (c, g.size)
theorem gapP_blank : gapP { data := #[32] } := ⟨by decide, by decide, 32, blank_let, fun b => blank_nx b⟩
theorem gapP_enc {c : Int} (h : ptP c) (hl : letB c = false) : gapP (strOf (encI c)) := by
  have h4 := encI_len h
  have hp := h
  unfold ptP at hp
  refine ⟨by rw [strOf_size]; omega, by rw [strOf_size]; omega, c.toNat, by rw [show ((c.toNat : Nat) : Int) = c by omega]; exact hl, fun b => ?_⟩
  have hby : ∀ x ∈ encI c, 0 ≤ x ∧ x ≤ 255 := fun x hx => encL_byte [c] (fun y hy => by rw [List.mem_singleton.1 hy]; exact h) x (by unfold encL; simpa using hx)
  have h1 := enc_nx h (strOf (encI c) ++ b) 0 (by rw [ByteArray.size_append, strOf_size]; omega) (fun i hi => by
    rw [Nat.zero_add, bt_app_l _ _ _ (by rw [strOf_size]; exact hi), bt_strOf _ hby])
  rw [strOf_size]
  refine Prod.ext ?_ h1.2
  show (nx _ 0).1 = c.toNat
  omega
theorem gap_rl {g : ByteArray} (h : gapP g) (b : ByteArray) : rl (g ++ b) = rl b ∧ (fl b = b.size → fl (g ++ b) = (g ++ b).size) := by
  obtain ⟨h1, _, c, hc, hn⟩ := h
  have hs : ¬ stopP (g ++ b) false 0 := by
    unfold stopP
    rw [hn b]
    intro h
    rcases h with h | h
    · simp only at h; omega
    · exact h hc
  have e1 := rlAt_gap hs
  rw [hn b] at e1
  have e2 := flAt_step (s := g ++ b) (k := 0) (by rw [hn b]; simp only; omega)
  rw [hn b] at e2
  have e3 := rlAt_app_r g b 0
  have e4 := flAt_app_r g b b.size 0 (by omega)
  rw [Nat.add_zero] at e3 e4
  constructor
  · show rlAt _ 0 = _
    rw [e1]
    show rlAt (g ++ b) (0 + g.size) = _
    rw [Nat.zero_add, e3]; rfl
  · intro hb
    show flAt _ 0 = _
    rw [e2]
    show flAt (g ++ b) (0 + g.size) = _
    rw [Nat.zero_add, e4, ByteArray.size_append]
    show g.size + fl b = _
    rw [hb]
/-- whatever is right to its end may come behind. -/
def sepP (t : ByteArray) (l : List ByteArray) : Prop := ∀ b : ByteArray, fl b = b.size → fl (t ++ b) = (t ++ b).size ∧ rl (t ++ b) = l ++ rl b
theorem sepP_none : sepP { data := #[] } [] := fun b h => by
  have e : ({ data := #[] } : ByteArray) ++ b = b := empty_join b
  rw [e]; exact ⟨h, rfl⟩
theorem sepP_blank {t : ByteArray} {l : List ByteArray} (h1 : fl t = t.size) (h2 : rl t = l) : sepP (t ++ { data := #[32] }) l := fun b h => by
  have e : (t ++ { data := #[32] }) ++ b = t ++ (blank ++ b) := ByteArray.append_assoc
  rw [e, join_rl t b h1, h2]
  exact ⟨(join_fl t b).2 ⟨h1, h⟩, rfl⟩
theorem sepP_gap {t g : ByteArray} {l : List ByteArray} (h : sepP t l) (hg : gapP g) : sepP (t ++ g) l := fun b hb => by
  have e : (t ++ g) ++ b = t ++ (g ++ b) := ByteArray.append_assoc
  obtain ⟨h1, h2⟩ := gap_rl hg b
  obtain ⟨h3, h4⟩ := h (g ++ b) (h2 hb)
  rw [e]
  exact ⟨h3, by rw [h4, h1]⟩
theorem sepP_word {t x : ByteArray} {l : List ByteArray} (h : sepP t l) (hx : oneP x [] = true) : fl (t ++ x) = (t ++ x).size ∧ rl (t ++ x) = l ++ [x] := by
  obtain ⟨h1, h2, _, _⟩ := (oneP_is x).1 hx
  obtain ⟨h3, h4⟩ := h x h2
  exact ⟨h3, by rw [h4, h1]⟩
/-- words that stood in the text. -/
theorem parted {t : ByteArray} {L : List ByteArray} (h1 : fl t = t.size) (h2 : rl t = L) (h3 : ∀ x ∈ L, oneP x [] = true) (h4 : L.length ≤ 48) : wordsP t [] = (0, wFil [] 0 L) ∧ (wFil [] 0 L).length = L.length ∧ ∀ (i : Nat) (hi : i < L.length), (wFil [] 0 L)[i]? = some (L[i], i) := by
  have he : errP t = 0 := by
    unfold errP
    rw [if_pos h1, h2]
    exact wErr_small (fun r hr => ((oneP_is r).1 (h3 r hr)).2.2.2) h4
  refine ⟨by rw [words_nil he, h2], wFil_length _ _, fun i hi => ?_⟩
  rw [wFil_get hi, ((oneP_is _).1 (h3 _ (List.getElem_mem hi))).2.2.1, Nat.zero_add]
theorem and_low21 (c : Int) : 0 ≤ bits .and .i64 c 2097151 ∧ bits .and .i64 c 2097151 ≤ 2097151 := by
  have h127 : (BitVec.ofInt 64 2097151).toNat = 2 ^ 21 - 1 := by decide
  have key : (BitVec.ofInt 64 c &&& BitVec.ofInt 64 2097151).toNat = (c % ((2 ^ 64 : Nat) : Int)).toNat % 2 ^ 21 := by
    rw [BitVec.toNat_and, BitVec.toNat_ofInt, h127, Nat.and_two_pow_sub_one_eq_mod]
  have e : bits .and .i64 c 2097151 = c % 2097152 := by
    show IntKind.i64.wrap ((BitVec.ofInt 64 c &&& BitVec.ofInt 64 2097151).toNat : Nat) = c % 2097152
    rw [key, IntKind.wrap_i64]
    omega
  rw [e]; omega
/-- string([]rune{c}). -/
theorem rune_string (w : World) (c : Int) (h : ptP c) : (convert 64 9 (.slice (some ⟨w.heap.size, 0, none⟩) 1 1)).run Tryd.prog (w.alloc (.cells #[.int .i32 c] 21)) = .ok (.string (strOf (encI c))) (w.alloc (.cells #[.int .i32 c] 21)) := by
  have e := runes_enc [c] (fun x hx => by rw [List.mem_singleton.1 hx]; exact h)
  have e2 : encL [c] = encI c := by unfold encL; simp
  rw [e2] at e
  rw [← e]
  exact run_convert_runes (P := Tryd.prog) (w.alloc (.cells #[.int .i32 c] 21)) 64 9 21 ⟨w.heap.size, 0, none⟩ 1 1 [c] (by simp) Tryd.underlying64 Tryd.underlying21 Tryd.underlying9 (fun j hj => by
    obtain rfl : j = 0 := by simp at hj; omega
    rw [Addr.add_mid, Nat.zero_add, cell_of_row _ _ _ _ _ _ (blk_alloc_new w _)]; rfl)
def gapE (e : Ending) : Prop := ∃ g, e = .returned (.string g) ∧ gapP g
set_option maxHeartbeats 4000000 in
set_option maxRecDepth 100000 in
theorem gap_any (c : Int) (w : World) (hT : utT w) :
    Calls Tryd.prog 22 #[.int .i64 c] w fun e w' => gapE e ∧ Below w.heap.size w w' := by
  obtain ⟨m, hm⟩ : ∃ m, bits .and .i64 c 2097151 = m := ⟨_, rfl⟩
  have hm0 : 0 ≤ m ∧ m ≤ 2097151 := by rw [← hm]; exact and_low21 c
  obtain ⟨m0, m1⟩ := hm0
  have HT : Hid (ltT w) := (show ltT w from hT.2)
  clear hT
  go_enter Tryd.func22, Tryd.ntmps22
  by_cases h1 : m > 1114111
  · go_wp2
    go_ret
    exact ⟨⟨_, rfl, gapP_blank⟩, Below.refl _ _⟩
  have h1' : m ≤ 1114111 := by omega
  by_cases h2 : m ≥ 55296
  · by_cases h3 : m ≤ 57343
    · go_wp2
      go_ret
      exact ⟨⟨_, rfl, gapP_blank⟩, Below.refl _ _⟩
    · have X := letter_any m w HT.out
      have hp : ptP m := by unfold ptP; omega
      cases hl : letB m with
      | true =>
        rw [hl] at X
        clear hl
        go_wp2_with fail
        refine X.mono ?_
        rintro e w1 ⟨rfl, b1⟩
        clear X
        go_wp2
        go_ret
        exact ⟨⟨_, rfl, gapP_blank⟩, b1⟩
      | false =>
        have HG : Hid (gapP (strOf (encI m))) := (show gapP (strOf (encI m)) from gapP_enc hp hl)
        rw [hl] at X
        clear hl
        go_wp2_with fail
        refine X.mono ?_
        rintro e w1 ⟨rfl, b1⟩
        have B1 : Hid (Below w.heap.size w w1) := (show _ from b1)
        have hr := rune_string w1 m hp
        clear X b1
        go_wp2
        go_ret
        exact ⟨⟨_, rfl, HG.out⟩, B1.out.alloc B1.out.size _⟩
  · have X := letter_any m w HT.out
    have hp : ptP m := by unfold ptP; omega
    cases hl : letB m with
    | true =>
      rw [hl] at X
      clear hl
      go_wp2_with fail
      refine X.mono ?_
      rintro e w1 ⟨rfl, b1⟩
      clear X
      go_wp2
      go_ret
      exact ⟨⟨_, rfl, gapP_blank⟩, b1⟩
    | false =>
      have HG : Hid (gapP (strOf (encI m))) := (show gapP (strOf (encI m)) from gapP_enc hp hl)
      rw [hl] at X
      clear hl
      go_wp2_with fail
      refine X.mono ?_
      rintro e w1 ⟨rfl, b1⟩
      have B1 : Hid (Below w.heap.size w w1) := (show _ from b1)
      have hr := rune_string w1 m hp
      clear X b1
      go_wp2
      go_ret
      exact ⟨⟨_, rfl, HG.out⟩, B1.out.alloc B1.out.size _⟩
end Go.Proofs.YthjfalbchkbdfaaDoor

/- The laws' much and kept; the document's Same. -/
namespace Go.Proofs.YthjfalbchkbdfaaDoor
set_option linter.unusedSimpArgs false
set_option linter.unusedVariables false
open Go.RowKit Go.Deep

def muchP (s : ByteArray) (st : List ByteArray) (e : Ending) : Prop := ∃ b, e = .returned (.bool b) ∧ (b = false → s.size ≤ 2000 ∧ st.length ≤ 100)
end Go.Proofs.YthjfalbchkbdfaaDoor

/- The law WordsJoins walked. -/
namespace Go.Proofs.YthjfalbchkbdfaaDoor
set_option linter.unusedSimpArgs false
set_option linter.unusedVariables false
open Go.RowKit Go.Deep

theorem neqT (ty : TypeId) (q : ByteArray) : binOp .neq ty (.string q) (.string q) = pure (.bool false) := by simp [binOp, Op.stringOp]
end Go.Proofs.YthjfalbchkbdfaaDoor

/- The frame of a law's row: what was read reads behind the call as it did, where nothing old has turned. -/
namespace Go.Proofs.YthjfalbchkbdfaaDoor
open Go.RowKit Go.Deep Go.ChangeShapes Go.WideShapes Go.ChangeAt

theorem below_trodAll {H : Type} {enc : TypeId × Value → H} {P : Program} (hl : laidOutB P = true) {W W' : World} (hb : Below W.heap.size W W') :
    ∀ {ts : List TypeId} {vs : List Value} {ds : List (DataW H)} {ps : List MemPlace}, (∀ t ∈ ts, P.readableRec t = true ∧ t < P.types.size) → DataW.TrodAll enc P W 0 (fun _ => true) true ts vs ds ps → (∀ x ∈ ps, x.block < W.heap.size) →
      DataW.TrodAll enc P W' 0 (fun b => decide (b < W.heap.size)) true ts vs ds ps
  | [], [], [], _, _, h, _ => h
  | t :: ts, v :: vs, d :: ds, ps, hts, h, hlt => by
    obtain ⟨p, q, h1, h2, e⟩ := h
    subst e
    exact ⟨p, q, Below.trod hl (hts t List.mem_cons_self).1 (hts t List.mem_cons_self).2 h1 hb (fun x hx => hlt x (List.mem_append_left _ hx)), below_trodAll hl hb (fun u hu => hts u (List.mem_cons_of_mem _ hu)) h2 (fun x hx => hlt x (List.mem_append_right _ hx)), rfl⟩

/-- WHAT A LAW's ROW ASKS BEHIND THE CALL, where the answer is true and nothing old has turned. -/
theorem law_post {H : Type} {enc : TypeId × Value → H} {P : Program} {spec : ChangeSpec} {f : Func} {W W' : World} {args : Array Value} {ds gs : List (DataW H)} {before : List MemPlace} {tb : TypeId}
    (hl : laidOutB P = true) (hts : ∀ t ∈ f.params.toList, P.readableRec t = true ∧ t < P.types.size) (hvars : spec.vars = []) (hres : f.resultTypes = #[tb]) (hbool : P.underlying tb = some .bool)
    (hspec : spec.fn H (ds ++ gs) = { results := [.lit (.bool true)], args := ds })
    (hW : DataW.Whole enc P f.params.toList spec.vars false W args.toList ds gs before) (hb : Below W.heap.size W W') : spec.post enc P f false true false false W args (.bool true) W' := by
  have hW' := hW
  have hlt := hW.lt
  obtain ⟨p, q, hA, hV, rfl, hfz, hnd⟩ := hW
  rw [hvars] at hV
  obtain ⟨rfl, rfl⟩ := trodVars_none hV
  refine ⟨ds, [], p ++ [], [], p, [], hW', ?_, ?_, ?_, ?_, fun h => by cases h⟩
  · rw [hspec, hres]
    exact trodAll_cons_mk (shut_bool hbool _) trodAll_mk0
  · rw [hspec]
    exact below_trodAll hl hb hts hA (fun x hx => hlt x (List.mem_append_left _ hx))
  · rw [hspec, hvars]; exact hV
  · exact hb.frame _

end Go.Proofs.YthjfalbchkbdfaaDoor

/- The frame of a law's row, where no package variable is laid. -/
namespace Go.Proofs.YthjfalbchkbdfaaDoor
open Go.RowKit Go.Deep Go.ChangeShapes Go.WideShapes Go.ChangeAt
theorem own : ownKnob Tryd.prog.godebug = none := by kernel_rfl
theorem laidOut : laidOutB Tryd.prog = true := by kernel_rfl
end Go.Proofs.YthjfalbchkbdfaaDoor

/- Slices that came in, opened. -/
namespace Go.Proofs.YthjfalbchkbdfaaDoor
open Go.RowKit Go.Deep Go.ChangeShapes Go.WideShapes

theorem bounds_i64 {a : Int} (h : (Lit.int .i64 a).wf = true) : -9223372036854775808 ≤ a ∧ a ≤ 9223372036854775807 := by
  simpa [Lit.wf, IntKind.min, IntKind.max, IntKind.signed, IntKind.bits] using h
/-- A SLICE, opened at every index. -/
theorem open_any {H : Type} {enc : TypeId × Value → H} {P : Program} {w : World} {base b0 : Nat} {sp : Nat → Bool} {held : Bool} {r : Reach} {t e : TypeId} {v : Value} {d : DataW H} {ps : List MemPlace} (c : Nat)
    (hu : P.underlying t = some (.slice e)) (hc : P.cellsOf e = c) (hval : Value.okWide P w r b0 t v) (hd : DataW.Trod enc P w base sp held t v d ps) :
    (v = .slice none 0 0) ∨ ∃ pb po len cap : Nat, v = .slice (some ⟨pb, po, none⟩) len cap ∧ len ≤ cap ∧ cap ≤ maxLen ∧ pb < w.heap.size ∧
      ∀ i, i < len → ∃ (cs' : List Value) (n : Nat) (D : DataW H × List MemPlace), cs'.length = c ∧ (∀ j, j < c → w.cell? ⟨pb, po + i * c + j, none⟩ = cs'[j]?) ∧ DataW.trod enc P w base sp held n e cs' = some D := by
  obtain ⟨a, len, cap, rfl⟩ := okWide_slice hu hval
  obtain ⟨fuel, hf⟩ := hd
  rcases open_slice hu hf with ⟨h0, _⟩ | ⟨a', len', cap', m, n, D, Pl, h0, _, h1, h2, h3, _, h4⟩
  · left; simpa [Value.cells] using h0
  · right
    have h0' : a = some a' ∧ len = len' ∧ cap = cap' := by simpa [Value.cells] using h0
    obtain ⟨rfl, rfl, rfl⟩ := h0'
    have hlm : len ≤ m := by rw [h3]; split <;> omega
    simp only [Value.okWide, hu, Cell.okWide, Cell.ok] at hval
    obtain ⟨_, _, _, hsp, row, cells, hsh, _⟩ := hval
    obtain ⟨pb, po, spot⟩ := a'
    obtain rfl : spot = none := hsp
    refine ⟨pb, po, len, cap, rfl, h1, h2, ?_, fun i hi => ?_⟩
    · unfold World.shape? at hsh
      cases hq : w.heap[pb]? with
      | none => rw [hq] at hsh; cases hsh
      | some o => exact (Array.getElem?_eq_some_iff.1 hq).1
    · obtain ⟨cs', g1, g2⟩ := h4 i (by omega)
      rw [hc] at g1
      obtain ⟨_, hlen, hcell⟩ := World.cells?_some g1
      refine ⟨cs', n, _, hlen, fun j hj => ?_, g2⟩
      have e0 := hcell j (by omega)
      rw [add_add, Addr.add_mid] at e0
      rw [Nat.add_assoc]; exact e0
end Go.Proofs.YthjfalbchkbdfaaDoor

/- A row of ints that came in, opened. -/
namespace Go.Proofs.YthjfalbchkbdfaaDoor
set_option maxRecDepth 100000
open Go.RowKit Go.Deep Go.ChangeShapes Go.WideShapes

def intsAt (w : World) (v : Value) (n : Nat) (f : Nat → Int) : Prop := (v = .slice none 0 0 ∧ n = 0) ∨ ∃ pb po cap : Nat, v = .slice (some ⟨pb, po, none⟩) n cap ∧ n ≤ cap ∧ cap ≤ maxLen ∧ pb < w.heap.size ∧ ∀ i, i < n → w.cell? ⟨pb, po + i, none⟩ = some (.int .i64 (f i)) ∧ -9223372036854775808 ≤ f i ∧ f i ≤ 9223372036854775807
theorem cellsI64 : Tryd.prog.cellsOf 3 = 1 := by kernel_rfl
theorem open_ints {H : Type} {enc : TypeId × Value → H} {w : World} {base b0 : Nat} {sp : Nat → Bool} {held : Bool} {r : Reach} {v : Value} {d : DataW H} {ps : List MemPlace}
    (hval : Value.okWide Tryd.prog w r b0 43 v) (hd : DataW.Trod enc Tryd.prog w base sp held 43 v d ps) : ∃ n f, intsAt w v n f := by
  rcases open_any 1 Tryd.underlying43 cellsI64 hval hd with rfl | ⟨pb, po, len, cap, rfl, h1, h2, h3, h4⟩
  · exact ⟨0, fun _ => 0, Or.inl ⟨rfl, rfl⟩⟩
  · have each : ∀ i, i < len → ∃ z : Int, w.cell? ⟨pb, po + i, none⟩ = some (.int .i64 z) ∧ -9223372036854775808 ≤ z ∧ z ≤ 9223372036854775807 := fun i hi => by
      obtain ⟨cs', n, D, g1, g2, g3⟩ := h4 i hi
      obtain ⟨z, rfl, _, hw⟩ := DataW.trod_int Tryd.underlying3 g3
      have := g2 0 (by omega)
      rw [Nat.mul_one, Nat.add_zero] at this
      exact ⟨z, this, bounds_i64 hw⟩
    obtain ⟨f, hf⟩ := choose_lt each
    exact ⟨len, f, Or.inr ⟨pb, po, cap, rfl, h1, h2, h3, hf⟩⟩
end Go.Proofs.YthjfalbchkbdfaaDoor

/- The law WordsParted walked. -/
namespace Go.Proofs.YthjfalbchkbdfaaDoor
set_option linter.unusedSimpArgs false
set_option linter.unusedVariables false
open Go.RowKit Go.Deep

/-- the text behind j words. -/
def partP (L : List ByteArray) (j : Nat) (t : ByteArray) : Prop := t.size ≤ 200 * j ∧ fl t = t.size ∧ rl t = L.take j ∧ (j = 0 → t = { data := #[] }) ∧ ∀ i (hi : i < L.length), i < j → oneP L[i] [] = true
theorem partP_start (L : List ByteArray) : partP L 0 { data := #[] } := ⟨by decide, rfl, by rw [List.take_zero]; exact rlF_end (Nat.le_refl _) _, fun _ => rfl, fun i hi h => absurd h (Nat.not_lt_zero i)⟩
theorem partP_next {L : List ByteArray} {j : Nat} {t t2 : ByteArray} (h : partP L j t) (hj : j < L.length) (h2 : sepP t2 (L.take j)) (hs : t2.size ≤ 200 * j + 10) (hx : oneP L[j] [] = true) (hx2 : L[j].size ≤ 100) : partP L (j + 1) (t2 ++ L[j]) := by
  obtain ⟨e1, e2⟩ := sepP_word h2 hx
  refine ⟨by rw [ByteArray.size_append]; omega, e1, by rw [e2, List.take_succ_eq_append_getElem hj], fun h => by omega, fun i hi h3 => ?_⟩
  by_cases e : i = j
  · subst e; exact hx
  · exact h.2.2.2.2 i hi (by omega)
theorem partP_sep0 {L : List ByteArray} {t : ByteArray} (h : partP L 0 t) : sepP t (L.take 0) := by
  rw [h.2.2.2.1 rfl]; exact sepP_none
theorem partP_sep {L : List ByteArray} {j : Nat} {t : ByteArray} (h : partP L j t) : sepP (t ++ { data := #[32] }) (L.take j) := sepP_blank h.2.1 h.2.2.1
set_option maxHeartbeats 32000000 in
set_option maxRecDepth 100000 in
theorem wordsParted_any (v : Value) (L : List ByteArray) (n : Nat) (u : Value) (f : Nat → Int) (w : World) (hT : utT w) (hv : strsAt w v L) (hu : intsAt w u n f) :
    Calls Tryd.prog 6 #[v, u] w fun e w' => e = .returned (.bool true) ∧ Below w.heap.size w w' := by
  obtain ⟨va, vc, rfl, _, _, hlm, hvr⟩ := hv.slice
  have hus : ∃ a cap, u = .slice a n cap ∧ n ≤ maxLen ∧ (0 < n → ∃ pb po, a = some ⟨pb, po, none⟩ ∧ pb < w.heap.size ∧ ∀ i, i < n → w.cell? ⟨pb, po + i, none⟩ = some (.int .i64 (f i))) := by
    rcases hu with ⟨rfl, rfl⟩ | ⟨pb, po, cap, rfl, h1, h2, h3, h4⟩
    · exact ⟨none, 0, rfl, Nat.zero_le _, fun h => absurd h (by decide)⟩
    · exact ⟨_, cap, rfl, Nat.le_trans h1 h2, fun _ => ⟨pb, po, rfl, h3, fun i hi => (h4 i hi).1⟩⟩
  obtain ⟨ua, uc, rfl, hum, hur⟩ := hus
  have HT : Hid (utT w) := (show utT w from hT)
  have HVR : Hid _ := hvr
  have HUR : Hid _ := hur
  have hli : (L.length : Int) ≤ 9223372036854775807 := by unfold maxLen at hlm; omega
  have hni : (n : Int) ≤ 9223372036854775807 := by unfold maxLen at hum; omega
  clear hT hv hu hvr hur hlm hum
  go_enter Tryd.func6, Tryd.ntmps6
  by_cases hl : (L.length : Int) > 48
  · have XA := awake_any w HT.out
    go_wp2_with fail
    refine XA.mono ?_
    rintro e w2 ⟨rfl, b2⟩
    clear XA
    go_wp2
    go_ret
    exact ⟨rfl, b2⟩
  by_cases hn : (n : Int) > 200
  · have XA := awake_any w HT.out
    go_wp2_with fail
    refine XA.mono ?_
    rintro e w2 ⟨rfl, b2⟩
    clear XA
    go_wp2
    go_ret
    exact ⟨rfl, b2⟩
  go_wp2_with fail
  go_loopw [5, 6] (fun x y wr => ∃ (j : Nat) (t : ByteArray), x = .string t ∧ y = .int .i64 (j : Int) ∧ j ≤ L.length ∧ partP L j t ∧ Below w.heap.size w wr) (fun _ y _ => L.length - (intOf y).toNat)
  case atStart => exact ⟨0, { data := #[] }, rfl, rfl, Nat.zero_le _, partP_start L, Below.refl _ _⟩
  case round =>
    obtain ⟨j, t, rfl, rfl, hj, hp, hb⟩ := hrel
    have HB : Hid (Below w.heap.size w wr) := (show _ from hb)
    have HP : Hid (partP L j t) := (show _ from hp)
    have hts : t.size ≤ 200 * j := hp.1
    have j0 : (0 : Int) ≤ (j : Int) := by omega
    clear hp
    by_cases hlt : j < L.length
    · have hlt' : (j : Int) < (L.length : Int) := by omega
      obtain ⟨pb, po, rfl, hpb, hcell⟩ := HVR.out (by omega)
      obtain ⟨hc0, hcs⟩ := hcell j _ (List.getElem?_eq_getElem hlt)
      have HC : Hid (∀ wz, Below w.heap.size w wz → wz.cell? ⟨pb, po + j, none⟩ = some (.string L[j])) := (show ∀ wz, Below w.heap.size w wz → wz.cell? ⟨pb, po + j, none⟩ = some (.string L[j]) from fun wz hz => (hz.cell (p := ⟨pb, po + j, none⟩) hpb).trans hc0)
      have hc := HC.out wr hb
      have XO := one_any L[j] hcs (.slice none 0 0) [] wr (HT.out.below hb) (.inl ⟨rfl, rfl⟩)
      have HNEXT : Hid (∀ t2, sepP t2 (L.take j) → t2.size ≤ 200 * j + 10 → oneP L[j] [] = true → L[j].size ≤ 100 → partP L (j + 1) (t2 ++ L[j])) := (show ∀ t2, sepP t2 (L.take j) → t2.size ≤ 200 * j + 10 → oneP L[j] [] = true → L[j].size ≤ 100 → partP L (j + 1) (t2 ++ L[j]) from fun t2 h1 h2 h3 h4 => partP_next HP.out hlt h1 h2 h3 h4)
      have hjl : j ≤ 48 := by omega
      generalize L[j] = q at hc XO HNEXT HC
      clear hcell hc0 hcs hb
      by_cases hq : (q.size : Int) > 100
      · have XA := awake_any wr (HT.out.below HB.out)
        clear XO
        go_wp2_with fail
        refine XA.mono ?_
        rintro e w2 ⟨rfl, b2⟩
        clear XA
        go_wp2
        go_ret
        exact ⟨rfl, HB.out.trans (b2.mono HB.out.size)⟩
      · have hq' : q.size ≤ 100 := by omega
        go_wp2_with fail
        refine XO.mono ?_
        rintro e w2 ⟨rfl, b2⟩
        have B2 : Hid (Below w.heap.size w w2) := (show Below w.heap.size w w2 from HB.out.trans (b2.mono HB.out.size))
        clear XO b2 hc
        have hc := HC.out w2 B2.out
        cases ho : oneP q [] with
        | false =>
          have XA := awake_any w2 (HT.out.below B2.out)
          clear ho
          go_wp2_with fail
          refine XA.mono ?_
          rintro e w3 ⟨rfl, b3⟩
          clear XA
          go_wp2
          go_ret
          exact ⟨rfl, B2.out.trans (b3.mono B2.out.size)⟩
        | true =>
          have HO : Hid (oneP q [] = true) := (show _ from ho)
          have HQ : Hid (q.size ≤ 100) := (show _ from hq')
          clear ho
          by_cases hj0 : j = 0
          · by_cases hg : j < n
            · have h0 : ¬ (j : Int) > 0 := by omega
              have S1 : Hid (sepP t (L.take j)) := (show sepP t (L.take j) from by rw [hj0]; exact partP_sep0 (hj0 ▸ HP.out))
              have HSZ : Hid (t.size ≤ 200 * j + 1) := (show t.size ≤ 200 * j + 1 from by omega)
              have hg' : (j : Int) < (n : Int) := by omega
              obtain ⟨gb, go, rfl, hgb, hgc⟩ := HUR.out (by omega)
              have hcg := (B2.out.cell (p := ⟨gb, go + j, none⟩) hgb).trans (hgc j hg)
              have XG := gap_any (f j) w2 (HT.out.below B2.out)
              have FIN : Hid (∀ g, gapP g → partP L (j + 1) ((t ++ g) ++ q)) := (show ∀ g, gapP g → partP L (j + 1) ((t ++ g) ++ q) from fun g hg => HNEXT.out _ (sepP_gap S1.out hg) (by have := HSZ.out; have := hg.2.1; rw [ByteArray.size_append]; omega) HO.out HQ.out)
              clear hgc hgb hg hj0 S1 hc
              go_wp2_with fail
              refine XG.mono ?_
              rintro e w3 ⟨⟨g, rfl, hgp⟩, b3⟩
              have B3 : Hid (Below w.heap.size w w3) := (show Below w.heap.size w w3 from B2.out.trans (b3.mono B2.out.size))
              have PN := FIN.out g hgp
              have hgs := hgp.2.1
              have hsz := HSZ.out
              have hc := HC.out w3 B3.out
              clear XG b3 hcg hgp FIN
              have hk2 : ¬ (9223372036854775807 < t.size + g.size) := by omega
              have hk3 : ¬ (9223372036854775807 < t.size + g.size + q.size) := by omega
              have HPN : Hid (partP L (j + 1) ((t ++ g) ++ q)) := (show _ from PN)
              clear PN hgs hsz
              go_wp2
              go_light
              exact ⟨⟨j + 1, (t ++ g) ++ q, rfl, by go_num, by omega, HPN.out, B3.out⟩, by simp [intOf]; omega⟩
            · have h0 : ¬ (j : Int) > 0 := by omega
              have S1 : Hid (sepP t (L.take j)) := (show sepP t (L.take j) from by rw [hj0]; exact partP_sep0 (hj0 ▸ HP.out))
              have HSZ : Hid (t.size ≤ 200 * j + 1) := (show t.size ≤ 200 * j + 1 from by omega)
              have hg' : ¬ (j : Int) < (n : Int) := by omega
              have HPN : Hid (partP L (j + 1) (t ++ q)) := (show partP L (j + 1) (t ++ q) from HNEXT.out _ S1.out (by have := HSZ.out; omega) HO.out HQ.out)
              have hk2 : ¬ (9223372036854775807 < t.size + q.size) := by omega
              clear hg hj0 S1
              go_wp2
              go_light
              exact ⟨⟨j + 1, t ++ q, rfl, by go_num, by omega, HPN.out, B2.out⟩, by simp [intOf]; omega⟩
          · by_cases hg : j < n
            · have h0 : (j : Int) > 0 := by omega
              have S1 : Hid (sepP (t ++ { data := #[32] }) (L.take j)) := (show sepP (t ++ { data := #[32] }) (L.take j) from partP_sep HP.out)
              have HSZ : Hid ((t ++ { data := #[32] }).size ≤ 200 * j + 1) := (show (t ++ { data := #[32] }).size ≤ 200 * j + 1 from by rw [ByteArray.size_append]; show t.size + 1 ≤ _; omega)
              have hk1 : ¬ (9223372036854775807 < t.size + 1) := by omega
              have hg' : (j : Int) < (n : Int) := by omega
              obtain ⟨gb, go, rfl, hgb, hgc⟩ := HUR.out (by omega)
              have hcg := (B2.out.cell (p := ⟨gb, go + j, none⟩) hgb).trans (hgc j hg)
              have XG := gap_any (f j) w2 (HT.out.below B2.out)
              have FIN : Hid (∀ g, gapP g → partP L (j + 1) (((t ++ { data := #[32] }) ++ g) ++ q)) := (show ∀ g, gapP g → partP L (j + 1) (((t ++ { data := #[32] }) ++ g) ++ q) from fun g hg => HNEXT.out _ (sepP_gap S1.out hg) (by have := HSZ.out; have := hg.2.1; rw [ByteArray.size_append]; omega) HO.out HQ.out)
              clear hgc hgb hg hj0 S1 hc
              go_wp2_with fail
              refine XG.mono ?_
              rintro e w3 ⟨⟨g, rfl, hgp⟩, b3⟩
              have B3 : Hid (Below w.heap.size w w3) := (show Below w.heap.size w w3 from B2.out.trans (b3.mono B2.out.size))
              have PN := FIN.out g hgp
              have hgs := hgp.2.1
              have hsz := HSZ.out
              have hc := HC.out w3 B3.out
              clear XG b3 hcg hgp FIN
              have hk2 : ¬ (9223372036854775807 < t.size + 1 + g.size) := by omega
              have hk3 : ¬ (9223372036854775807 < t.size + 1 + g.size + q.size) := by omega
              have HPN : Hid (partP L (j + 1) (((t ++ { data := #[32] }) ++ g) ++ q)) := (show _ from PN)
              clear PN hgs hsz
              go_wp2
              go_light
              exact ⟨⟨j + 1, ((t ++ { data := #[32] }) ++ g) ++ q, rfl, by go_num, by omega, HPN.out, B3.out⟩, by simp [intOf]; omega⟩
            · have h0 : (j : Int) > 0 := by omega
              have S1 : Hid (sepP (t ++ { data := #[32] }) (L.take j)) := (show sepP (t ++ { data := #[32] }) (L.take j) from partP_sep HP.out)
              have HSZ : Hid ((t ++ { data := #[32] }).size ≤ 200 * j + 1) := (show (t ++ { data := #[32] }).size ≤ 200 * j + 1 from by rw [ByteArray.size_append]; show t.size + 1 ≤ _; omega)
              have hk1 : ¬ (9223372036854775807 < t.size + 1) := by omega
              have hg' : ¬ (j : Int) < (n : Int) := by omega
              have HPN : Hid (partP L (j + 1) ((t ++ { data := #[32] }) ++ q)) := (show partP L (j + 1) ((t ++ { data := #[32] }) ++ q) from HNEXT.out _ S1.out (by have := HSZ.out; omega) HO.out HQ.out)
              have hk2 : ¬ (9223372036854775807 < t.size + 1 + q.size) := by omega
              clear hg hj0 S1
              go_wp2
              go_light
              exact ⟨⟨j + 1, (t ++ { data := #[32] }) ++ q, rfl, by go_num, by omega, HPN.out, B2.out⟩, by simp [intOf]; omega⟩
    · obtain rfl : j = L.length := by omega
      have hpp := HP.out
      have X := words_any t (by unfold maxLen; omega) (.slice none 0 0) [] wr (HT.out.below hb) (.inl ⟨rfl, rfl⟩)
      obtain ⟨e1, e2, e3⟩ := parted hpp.2.1 (by rw [hpp.2.2.1, List.take_length]) (fun x hx => by
        obtain ⟨i, hi, rfl⟩ := List.getElem_of_mem hx
        exact hpp.2.2.2.2 i hi hi) (by omega)
      rw [e1] at X
      have HE : Hid _ := e3
      generalize wFil [] 0 L = W at X e2 HE
      clear hpp e1 e3 hts hb HP
      go_wp2_with fail
      refine X.mono ?_
      rintro e w2 ⟨rv, rfl, hr, b2⟩
      have B2 : Hid (Below w.heap.size w w2) := (show Below w.heap.size w w2 from HB.out.trans (b2.mono HB.out.size))
      obtain ⟨ra, rc, rfl, hrc, _, hrr⟩ := hr.at
      have HRR : Hid _ := hrr
      have hWl : (W.length : Int) = (L.length : Int) := by omega
      have HWL : Hid (W.length = L.length) := (show _ from e2)
      clear X b2 hr hrr
      rw [e2] at hrc ⊢
      clear e2 hWl
      go_wp2
      go_loopw [9] (fun y wz => ∃ i : Nat, y = .int .i64 (i : Int) ∧ i ≤ L.length ∧ Below w2.heap.size w2 wz) (fun y _ => L.length - (intOf y).toNat)
      case atStart => exact ⟨0, rfl, Nat.zero_le _, Below.refl _ _⟩
      case round =>
        obtain ⟨i, rfl, hi, hbz⟩ := hrel
        have HBZ : Hid (Below w2.heap.size w2 wr) := (show _ from hbz)
        have i0 : (0 : Int) ≤ (i : Int) := by omega
        by_cases hlt : i < L.length
        · have hlt' : (i : Int) < (L.length : Int) := by omega
          obtain ⟨pb, po, rfl, hpb, hcell⟩ := HVR.out (by omega)
          obtain ⟨hc0, _⟩ := hcell i _ (List.getElem?_eq_getElem hlt)
          obtain ⟨gr, rfl, hgr, hcr⟩ := HRR.out (by have := HWL.out; omega)
          have hbb := B2.out.trans (hbz.mono B2.out.size)
          have hc := (hbb.cell (p := ⟨pb, po + i, none⟩) hpb).trans hc0
          have d0 := (hbz.cell (p := ⟨gr, i * 2, none⟩) hgr).trans (hcr i _ (HE.out i hlt)).1
          have d1 := (hbz.cell (p := ⟨gr, i * 2 + 1, none⟩) hgr).trans (hcr i _ (HE.out i hlt)).2
          simp only at d0 d1
          have hG := neqT
          generalize L[i] = q at hc d0
          clear hcell hc0 hcr hgr hpb hbb hbz
          go_upto_region 20 with fail
          go_quiet (fail)
          go_wp2
          go_light
          exact ⟨⟨i + 1, by go_num, by omega, HBZ.out.drewN _⟩, by simp [intOf]; omega⟩
        · obtain rfl : i = L.length := by omega
          have bb := B2.out.trans (hbz.mono B2.out.size)
          have XA := awake_any wr (HT.out.below bb)
          have BB : Hid (Below w.heap.size w wr) := (show _ from bb)
          clear bb hbz
          go_wp2_with fail
          refine XA.mono ?_
          rintro e w3 ⟨rfl, b3⟩
          clear XA
          go_wp2
          go_ret
          exact ⟨rfl, BB.out.trans (b3.mono BB.out.size)⟩
end Go.Proofs.YthjfalbchkbdfaaDoor

/- A row of texts that came in, opened. -/
namespace Go.Proofs.YthjfalbchkbdfaaDoor
set_option maxRecDepth 100000
open Go.RowKit Go.Deep Go.ChangeShapes Go.WideShapes

theorem cellsStr : Tryd.prog.cellsOf 9 = 1 := by kernel_rfl
theorem open_strs {H : Type} {enc : TypeId × Value → H} {w : World} {base b0 : Nat} {sp : Nat → Bool} {held : Bool} {r : Reach} {v : Value} {d : DataW H} {ps : List MemPlace}
    (hval : Value.okWide Tryd.prog w r b0 22 v) (hd : DataW.Trod enc Tryd.prog w base sp held 22 v d ps) : ∃ L, strsAt w v L := by
  rcases open_any 1 Tryd.underlying22 cellsStr hval hd with rfl | ⟨pb, po, len, cap, rfl, h1, h2, h3, h4⟩
  · exact ⟨[], Or.inl ⟨rfl, rfl⟩⟩
  · have each : ∀ i, i < len → ∃ z : ByteArray, w.cell? ⟨pb, po + i, none⟩ = some (.string z) ∧ z.size ≤ maxLen := fun i hi => by
      obtain ⟨cs', n, D, g1, g2, g3⟩ := h4 i hi
      obtain ⟨z, rfl, _, hw⟩ := DataW.trod_string Tryd.underlying9 g3
      have := g2 0 (by omega)
      rw [Nat.mul_one, Nat.add_zero] at this
      exact ⟨z, this, hw⟩
    haveI : Inhabited ByteArray := ⟨ByteArray.empty⟩
    obtain ⟨f, hf⟩ := choose_lt each
    refine ⟨(List.range len).map f, Or.inr ⟨pb, po, cap, by simp, by simpa using h1, h2, h3, fun i s hi => ?_⟩⟩
    rw [List.getElem?_map] at hi
    by_cases hl : i < len
    · rw [List.getElem?_range hl] at hi
      obtain rfl := Option.some.inj hi
      exact hf i hl
    · rw [List.getElem?_eq_none (by simpa using hl)] at hi
      cases hi
end Go.Proofs.YthjfalbchkbdfaaDoor

/- The three tables, as the row lists them; a world that holds them, for the witness. -/
namespace Go.Proofs.YthjfalbchkbdfaaDoor
set_option maxRecDepth 100000
open Go.RowKit Go.Deep Go.ChangeShapes Go.WideShapes Go.ChangeAt Go.Lib Go.Shelf

theorem u8Extra : U8Extra Tryd.prog uRen where
  n3 := by kernel_rfl
  n4 := by kernel_rfl
  y3 := by kernel_rfl
  y4 := by kernel_rfl
  c5 := by kernel_rfl
  c119 := by kernel_rfl
  c138 := by kernel_rfl
/-- the letters' table, as data. -/
def ltData : DataW Unit := .agg ((List.range 43).map fun i => .agg ([ltA i, ltB i].map fun z => .lit (.int .i64 z)))
theorem gLet : Tryd.prog.globalNamed "incipit/utf.letters" = some 0 := by kernel_rfl
theorem gLetType : (Tryd.prog.globals[0]?).map (·.type) = some 77 := by kernel_rfl
theorem cellsInt : Tryd.prog.cellsOf 3 = 1 := by kernel_rfl
theorem cellsSpan : Tryd.prog.cellsOf 76 = 2 := by kernel_rfl
theorem letters_of_reads {w : World} (h : VarReads Tryd.prog w "incipit/utf.letters" ltData) : ltT w := by
  intro i hi
  obtain ⟨g, t, cs, fuel, p, hg, hty, hvar, hd⟩ := h
  obtain rfl := Option.some.inj (gLet.symm.trans hg)
  obtain rfl := Option.some.inj (gLetType.symm.trans hty)
  obtain ⟨fuel', d, q, hdi, he⟩ := array_elem Tryd.underlying77 hd i hi
  simp only [List.getElem?_map, List.getElem?_range hi, Option.map_some, Option.some.injEq] at hdi
  subst hdi
  rw [cellsSpan] at he
  have hcs := ints_of_struct Tryd.underlying76 (fun j f hj => by
    match j, hj with
    | 0, hj => simp at hj; subst hj; exact ⟨Tryd.underlying3, rfl, cellsInt⟩
    | 1, hj => simp at hj; subst hj; exact ⟨Tryd.underlying3, rfl, cellsInt⟩
    | j + 2, hj => simp at hj) (by rw [cellsSpan]; rfl) he
  have e0 := congrArg (·[0]?) hcs
  have e1 := congrArg (·[1]?) hcs
  simp only [List.getElem?_take, List.getElem?_drop] at e0 e1
  constructor
  · rw [World.var?_cell hg hvar (i * 2), ← Array.getElem?_toList]
    simpa using e0
  · rw [World.var?_cell hg hvar (i * 2 + 1), ← Array.getElem?_toList]
    simpa using e1
theorem dFirst : Rows.laid_unicode_utf8_first = firstData := by kernel_rfl
theorem dAccept : (Rows.laid_unicode_utf8_acceptRanges : DataW Unit) = acceptData := by kernel_rfl
theorem dLetters : (Rows.laid_incipit_utf_letters : DataW Unit) = ltData := by kernel_rfl
/-- what the row's list gives. -/
theorem laid_ut {W : World} (h : laidMetH Tryd.prog Rows.wordsTellsRow.laid W) : utT W := by
  have h' : laidMet Tryd.prog [("unicode/utf8.acceptRanges", Rows.laid_unicode_utf8_acceptRanges), ("incipit/utf.letters", Rows.laid_incipit_utf_letters), ("unicode/utf8.first", Rows.laid_unicode_utf8_first)] W := h
  have h1 := laidMet.reads h' (n := "unicode/utf8.first") (d := Rows.laid_unicode_utf8_first) (by simp)
  have h2 := laidMet.reads h' (n := "unicode/utf8.acceptRanges") (d := Rows.laid_unicode_utf8_acceptRanges) (by simp)
  have h3 := laidMet.reads h' (n := "incipit/utf.letters") (d := Rows.laid_incipit_utf_letters) (by simp)
  rw [dFirst] at h1
  rw [dAccept] at h2
  rw [dLetters] at h3
  exact ⟨utf8Tabs_of_reads { uLays with } u8Extra h1 h2, letters_of_reads h3⟩
/-- the tables' blocks, laid. -/
def lObj : Obj → Obj
  | .cells _ t frozen => .cells lrow t frozen
  | o => o
def fObj : Obj → Obj
  | .cells _ t frozen => .cells ((List.range 256).map fun c => Value.int .u8 (firstT c)).toArray t frozen
  | o => o
def aObj : Obj → Obj
  | .cells _ t frozen => .cells ((List.range 16).flatMap fun i => [Value.int .u8 (accLo i), Value.int .u8 (accHi i)]).toArray t frozen
  | o => o
end Go.Proofs.YthjfalbchkbdfaaDoor
