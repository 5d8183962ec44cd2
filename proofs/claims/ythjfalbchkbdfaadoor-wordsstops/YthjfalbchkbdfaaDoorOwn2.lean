import Derived.Lib.SlicesS
import Derived.Deep.Light
import Derived.Deep.AppendLies
import Derived.KernelRfl
import Derived.Lib.Strings
import Derived.BigQuiet
import Derived.RangeFuncNested
import Derived.RangeFuncBound
import Derived.RangeFuncCalls
import Derived.RangeFuncLeaves
import Derived.Shelf.Abstract
import Derived.Shelf.RegionOpen
import Derived.WalkKit
import Derived.OwnWalkIn
import Derived.TacticsInMore
import Derived.LoopNIn
import Derived.LoopIn
import Derived.IntWalk
import Derived.OrdersIn
import Derived.Deep.RegionHeld3
import Derived.RangeFuncOwn
import Derived.Laws.Cover1
import Derived.Test.YthjfalbchkbdfaaDoorOwn1
set_option linter.unusedVariables false
set_option linter.unusedSimpArgs false
/- Layer 9, pure: the runs of a text. -/
namespace Go.Proofs.YthjfalbchkbdfaaDoor
set_option linter.unusedVariables false

/-- here a run of letters (or of what is none) ends. -/
def stopP (s : ByteArray) (b : Bool) (k : Nat) : Prop := (nx s k).2 = 0 ∨ letB ((nx s k).1 : Int) ≠ b
instance (s : ByteArray) (b : Bool) (k : Nat) : Decidable (stopP s b k) := by unfold stopP; infer_instance
def psF (s : ByteArray) (b : Bool) : Nat → Nat → Nat
  | 0, k => k
  | f + 1, k => if stopP s b k then k else psF s b f (k + (nx s k).2)
theorem stop_end {s : ByteArray} {b : Bool} {k : Nat} (h : s.size ≤ k) : stopP s b k := .inl (by rw [nx_end h])
theorem psF_more (s : ByteArray) (b : Bool) : ∀ f g k, s.size ≤ k + f → s.size ≤ k + g → psF s b f k = psF s b g k
  | 0, 0, k, _, _ => rfl
  | 0, g + 1, k, h, _ => by rw [psF, psF, if_pos (stop_end (by omega))]
  | f + 1, 0, k, _, h => by rw [psF, psF, if_pos (stop_end (by omega))]
  | f + 1, g + 1, k, h1, h2 => by
    rw [psF, psF]
    by_cases e : stopP s b k
    · rw [if_pos e, if_pos e]
    · have : (nx s k).2 ≠ 0 := fun h => e (.inl h)
      rw [if_neg e, if_neg e]; exact psF_more s b f g _ (by omega) (by omega)
/-- where it ends, from k on. -/
def ps (s : ByteArray) (b : Bool) (k : Nat) : Nat := psF s b s.size k
theorem ps_stop {s : ByteArray} {b : Bool} {k : Nat} (h : stopP s b k) : ps s b k = k := by
  unfold ps
  cases s.size with
  | zero => rfl
  | succ f => rw [psF, if_pos h]
theorem ps_step {s : ByteArray} {b : Bool} {k : Nat} (h : ¬ stopP s b k) : ps s b k = ps s b (k + (nx s k).2) := by
  unfold ps
  rw [psF_more s b s.size (s.size + 1) k (by omega) (by omega), psF, if_neg h]
theorem ps_go (s : ByteArray) (b : Bool) : ∀ d k, s.size = k + d → (k ≤ ps s b k ∧ ps s b k ≤ s.size) ∧ stopP s b (ps s b k) := by
  intro d
  induction d using Nat.strongRecOn with
  | ind d ih =>
    intro k hk
    by_cases e : stopP s b k
    · rw [ps_stop e]; exact ⟨by omega, e⟩
    · have hz : (nx s k).2 ≠ 0 := fun h => e (.inl h)
      have hs := nx_size s k
      rw [ps_step e]
      have := ih (d - (nx s k).2) (by omega) (k + (nx s k).2) (by omega)
      exact ⟨by omega, this.2⟩
theorem ps_ge {s : ByteArray} {b : Bool} {k : Nat} (h : k ≤ s.size) : k ≤ ps s b k := (ps_go s b (s.size - k) k (by omega)).1.1
theorem ps_le {s : ByteArray} {b : Bool} {k : Nat} (h : k ≤ s.size) : ps s b k ≤ s.size := (ps_go s b (s.size - k) k (by omega)).1.2
theorem go_size {s : ByteArray} {b : Bool} {k : Nat} (h : ¬ stopP s b k) : 0 < (nx s k).2 ∧ k + (nx s k).2 ≤ s.size := by
  have hz : (nx s k).2 ≠ 0 := fun h' => h (.inl h')
  have hs := nx_size s k
  omega
/-- the runs from k on. -/
def rlF (s : ByteArray) : Nat → Nat → List ByteArray
  | 0, _ => []
  | f + 1, k => if ps s true (ps s false k) = ps s false k then [] else s.extract (ps s false k) (ps s true (ps s false k)) :: rlF s f (ps s true (ps s false k))
theorem rlF_end {s : ByteArray} {k : Nat} (h : s.size ≤ k) : ∀ f, rlF s f k = []
  | 0 => rfl
  | f + 1 => by rw [rlF, ps_stop (b := false) (stop_end h), ps_stop (stop_end h), if_pos rfl]
theorem rlF_more (s : ByteArray) : ∀ f g k, s.size ≤ k + f → s.size ≤ k + g → rlF s f k = rlF s g k
  | 0, g, k, h, _ => by rw [rlF_end (by omega), rlF_end (by omega)]
  | f + 1, 0, k, _, h => by rw [rlF_end (by omega), rlF_end (by omega)]
  | f + 1, g + 1, k, h1, h2 => by
    rw [rlF, rlF]
    by_cases e : ps s true (ps s false k) = ps s false k
    · rw [if_pos e, if_pos e]
    · rw [if_neg e, if_neg e]
      by_cases hk : k ≤ s.size
      · have h3 := ps_ge (b := false) hk
        have h4 := ps_le (b := false) hk
        have h5 := ps_ge (b := true) h4
        rw [rlF_more s f g _ (by omega) (by omega)]
      · exact absurd (by rw [ps_stop (b := false) (stop_end (by omega)), ps_stop (stop_end (by omega))]) e
def rlAt (s : ByteArray) (k : Nat) : List ByteArray := rlF s s.size k
def rl (s : ByteArray) : List ByteArray := rlAt s 0
theorem rlAt_end {s : ByteArray} {k : Nat} (h : ps s true (ps s false k) = ps s false k) : rlAt s k = [] := by
  unfold rlAt
  cases s.size with
  | zero => rfl
  | succ f => rw [rlF, if_pos h]
theorem rlAt_next {s : ByteArray} {k : Nat} (h : ps s true (ps s false k) ≠ ps s false k) : rlAt s k = s.extract (ps s false k) (ps s true (ps s false k)) :: rlAt s (ps s true (ps s false k)) := by
  unfold rlAt
  rw [rlF_more s s.size (s.size + 1) k (by omega) (by omega), rlF, if_neg h]
/-- a run, with the place behind it. -/
theorem run_pos {s : ByteArray} {k : Nat} (hk : k ≤ s.size) (h : ps s true (ps s false k) ≠ ps s false k) : k ≤ ps s false k ∧ ps s false k < ps s true (ps s false k) ∧ ps s true (ps s false k) ≤ s.size := by
  have h3 := ps_ge (b := false) hk
  have h4 := ps_le (b := false) hk
  have h5 := ps_ge (b := true) h4
  have h6 := ps_le (b := true) h4
  omega
/-- behind m of a text's runs: a place from which on the others are. -/
theorem rlAt_place (s : ByteArray) : ∀ m, m ≤ (rl s).length → ∃ k, k ≤ s.size ∧ m ≤ k ∧ (rl s).drop m = rlAt s k
  | 0, _ => ⟨0, by omega, by omega, rfl⟩
  | m + 1, h => by
    obtain ⟨k, hk, hm, e⟩ := rlAt_place s m (by omega)
    have hl : ((rl s).drop m).length ≠ 0 := by rw [List.length_drop]; omega
    by_cases he : ps s true (ps s false k) = ps s false k
    · rw [e, rlAt_end he] at hl; exact absurd rfl hl
    · have := run_pos hk he
      refine ⟨ps s true (ps s false k), by omega, by omega, ?_⟩
      have hd : (rl s).drop (m + 1) = ((rl s).drop m).drop 1 := by rw [List.drop_drop]
      rw [hd, e, rlAt_next he]; rfl
theorem rlF_size (s : ByteArray) : ∀ f k r, r ∈ rlF s f k → r.size ≤ s.size
  | 0, k, r, h => by cases h
  | f + 1, k, r, h => by
    rw [rlF] at h
    split at h
    · cases h
    · rcases List.mem_cons.1 h with rfl | h
      · rw [ByteArray.size_extract]; omega
      · exact rlF_size s f _ r h
theorem rl_size {s r : ByteArray} (h : r ∈ rl s) : r.size ≤ s.size := rlF_size s s.size 0 r h
theorem rl_length (s : ByteArray) : (rl s).length ≤ s.size := by
  obtain ⟨k, h1, h2, _⟩ := rlAt_place s (rl s).length (Nat.le_refl _)
  omega
end Go.Proofs.YthjfalbchkbdfaaDoor

/- Rows of texts. -/
namespace Go.Proofs.YthjfalbchkbdfaaDoor
open Go.RowKit Go.Deep

/-- a row of texts. -/
def strsAt (w : World) (v : Value) (L : List ByteArray) : Prop := (v = .slice none 0 0 ∧ L = []) ∨ ∃ pb po cap : Nat, v = .slice (some ⟨pb, po, none⟩) L.length cap ∧ L.length ≤ cap ∧ cap ≤ maxLen ∧ pb < w.heap.size ∧ ∀ i s, L[i]? = some s → w.cell? ⟨pb, po + i, none⟩ = some (.string s) ∧ s.size ≤ maxLen
theorem strsAt.below {w w' : World} {v : Value} {L : List ByteArray} (h : strsAt w v L) (hb : Below w.heap.size w w') : strsAt w' v L := by
  rcases h with h | ⟨pb, po, cap, e, h1, h2, h3, h4⟩
  · exact .inl h
  · exact .inr ⟨pb, po, cap, e, h1, h2, Nat.lt_of_lt_of_le h3 hb.size, fun i s hi => ⟨(hb.cell (p := ⟨pb, po + i, none⟩) h3).trans (h4 i s hi).1, (h4 i s hi).2⟩⟩
theorem strsAt.slice {w : World} {v : Value} {L : List ByteArray} (h : strsAt w v L) : ∃ a c, v = .slice a L.length c ∧ L.length ≤ c ∧ c ≤ maxLen ∧ L.length ≤ maxLen ∧ (0 < L.length → ∃ pb po, a = some ⟨pb, po, none⟩ ∧ pb < w.heap.size ∧ ∀ i s, L[i]? = some s → w.cell? ⟨pb, po + i, none⟩ = some (.string s) ∧ s.size ≤ maxLen) := by
  rcases h with ⟨rfl, rfl⟩ | ⟨pb, po, cap, e, h1, h2, h3, h4⟩
  · exact ⟨none, 0, rfl, Nat.le_refl _, Nat.zero_le _, Nat.zero_le _, fun h => absurd h (by simp)⟩
  · exact ⟨_, cap, e, h1, h2, Nat.le_trans h1 h2, fun _ => ⟨pb, po, rfl, h3, h4⟩⟩
/-- is a text among others? -/
def inS (l : List ByteArray) (x : ByteArray) : Bool := l.any fun y => y.toList == x.toList
theorem inS_hit {L : List ByteArray} {x y : ByteArray} {j : Nat} (h : L[j]? = some y) (e : (y.toList == x.toList) = true) : inS L x = true :=
  List.any_eq_true.2 ⟨y, List.mem_of_getElem? h, e⟩
theorem inS_none {L : List ByteArray} {x : ByteArray} (h : ∀ (i : Nat) (y : ByteArray), L[i]? = some y → (y.toList == x.toList) = false) : inS L x = false := by
  rw [Bool.eq_false_iff]
  intro hc
  obtain ⟨y, hy, e⟩ := List.any_eq_true.1 hc
  obtain ⟨i, hi⟩ := List.getElem?_of_mem hy
  rw [h i y hi] at e
  cases e
end Go.Proofs.YthjfalbchkbdfaaDoor

/- Layer 8, pure: what is small; one behind the other; a beginning. -/
namespace Go.Proofs.YthjfalbchkbdfaaDoor
set_option linter.unusedVariables false
open Go.RowKit Go.Deep

def smN (b : Nat) : Nat := if 65 ≤ b ∧ b ≤ 90 then b + 32 else b
theorem smS_size (s : ByteArray) : (smS s).size = s.size := by unfold smS; rw [strOf_size, List.length_map, sBytes_length]
end Go.Proofs.YthjfalbchkbdfaaDoor

/- Layer 9, pure: the words of a text; the document's way of going through its runs. -/
namespace Go.Proofs.YthjfalbchkbdfaaDoor
set_option linter.unusedVariables false

/-- the words from place i on, behind those that were found. -/
def wGo (st : List ByteArray) : List (ByteArray × Nat) → Nat → List ByteArray → Nat × List (ByteArray × Nat)
  | acc, _, [] => (0, acc)
  | acc, i, r :: t => if 24 < r.size then (3, []) else if 48 ≤ i then (7, []) else wGo st (if inS st (smS r) then acc else acc ++ [(smS r, i)]) (i + 1) t
/-- the error, and the words. -/
def wordsP (s : ByteArray) (st : List ByteArray) : Nat × List (ByteArray × Nat) := if fl s = s.size then wGo st [] 0 (rl s) else (8, [])
def oneP (s : ByteArray) (st : List ByteArray) : Bool := match wordsP s st with
  | (0, [x]) => x.1.toList == s.toList
  | _ => false
theorem sBytes_append (a b : ByteArray) : sBytes (a ++ b) = sBytes a ++ sBytes b := by
  unfold sBytes; simp [ByteArray.data_append]
theorem smS_append (a b : ByteArray) : smS (a ++ b) = smS a ++ smS b := by
  unfold smS; rw [sBytes_append, List.map_append, strOf_append]
theorem extract_join (s : ByteArray) (i j k : Nat) (h1 : i ≤ j) (h2 : j ≤ k) : s.extract i j ++ s.extract j k = s.extract i k := by
  apply ByteArray.ext
  simp [ByteArray.data_append, ByteArray.data_extract, Array.extract_append_extract, Nat.min_eq_left h1, Nat.max_eq_right h2]
theorem rlAt_gap {s : ByteArray} {k : Nat} (h : ¬ stopP s false k) : rlAt s k = rlAt s (k + (nx s k).2) := by
  have e := ps_step h
  by_cases he : ps s true (ps s false k) = ps s false k
  · rw [rlAt_end he, rlAt_end (by rw [← e]; exact he)]
  · rw [rlAt_next he, rlAt_next (k := k + (nx s k).2) (by rw [← e]; exact he), ← e]
theorem rlAt_run {s : ByteArray} {k : Nat} (h : ¬ stopP s true k) : rlAt s k = s.extract k (ps s true k) :: rlAt s (ps s true k) := by
  have hz := go_size h
  have hs : stopP s false k := .inr (by
    have : letB ((nx s k).1 : Int) = true := by
      rcases hb : letB ((nx s k).1 : Int) with _ | _
      · exact absurd (.inr (by rw [hb]; decide)) h
      · rfl
    rw [this]; decide)
  have e := ps_stop hs
  have h1 := ps_step h
  have h2 := ps_ge (b := true) hz.2
  rw [rlAt_next (by rw [e]; omega), e]
theorem rlAt_last (s : ByteArray) : rlAt s s.size = [] := rlF_end (Nat.le_refl _) _
/-- the document, at byte k: what is out, which run is under way. -/
def midP (s : ByteArray) (out : List ByteArray) (run : ByteArray) (k : Nat) : Prop :=
  k ≤ s.size ∧ flAt s k = s.size ∧ ((run.size = 0 ∧ out ++ (rlAt s k).map smS = (rl s).map smS) ∨
    ∃ b, b < k ∧ run = smS (s.extract b k) ∧ out ++ smS (s.extract b (ps s true k)) :: (rlAt s (ps s true k)).map smS = (rl s).map smS)
theorem midP.start {s : ByteArray} (h : fl s = s.size) : midP s [] ByteArray.empty 0 := ⟨Nat.zero_le _, h, .inl ⟨rfl, rfl⟩⟩
theorem midP.more {s : ByteArray} {out : List ByteArray} {run : ByteArray} {k : Nat} (h : midP s out run k) (hk : k < s.size) : 0 < (nx s k).2 ∧ k + (nx s k).2 ≤ s.size ∧ flAt s (k + (nx s k).2) = s.size := by
  have hz : (nx s k).2 ≠ 0 := fun hz => by have := flAt_stop hz; rw [h.2.1] at this; omega
  have := nx_size s k
  refine ⟨by omega, by omega, ?_⟩
  rw [← flAt_step hz]; exact h.2.1
theorem size_zero {a : ByteArray} (h : a.size = 0) : a = ByteArray.empty := by
  apply ByteArray.ext
  exact Array.eq_empty_of_size_eq_zero h
theorem empty_join (a : ByteArray) : ByteArray.empty ++ a = a := by apply ByteArray.ext; simp [ByteArray.data_append]
theorem midP.letter {s : ByteArray} {out : List ByteArray} {run : ByteArray} {k : Nat} (h : midP s out run k) (hk : k < s.size) (hl : letB ((nx s k).1 : Int) = true) :
    midP s out (run ++ smS (s.extract k (k + (nx s k).2))) (k + (nx s k).2) := by
  obtain ⟨h1, h2, h3⟩ := h.more hk
  have hs : ¬ stopP s true k := fun hs => by
    rcases hs with hs | hs
    · omega
    · exact hs hl
  have e := ps_step hs
  refine ⟨h2, h3, .inr ?_⟩
  obtain ⟨_, _, ⟨hr, ho⟩ | ⟨b, hb, hr, ho⟩⟩ := h
  · refine ⟨k, by omega, by rw [size_zero hr, empty_join], ?_⟩
    rw [← ho, rlAt_run hs, List.map_cons, e]
  · refine ⟨b, by omega, by rw [hr, ← smS_append, extract_join _ _ _ _ (by omega) (by omega)], ?_⟩
    rw [← e]; exact ho
theorem midP.other {s : ByteArray} {out : List ByteArray} {run : ByteArray} {k : Nat} (h : midP s out run k) (hk : k < s.size) (hl : letB ((nx s k).1 : Int) = false) :
    midP s (if run.size = 0 then out else out ++ [run]) ByteArray.empty (k + (nx s k).2) := by
  obtain ⟨h1, h2, h3⟩ := h.more hk
  have hs : ¬ stopP s false k := fun hs => by
    rcases hs with hs | hs
    · omega
    · exact hs hl
  have ht : stopP s true k := .inr (by rw [hl]; decide)
  have e := rlAt_gap hs
  refine ⟨h2, h3, .inl ⟨rfl, ?_⟩⟩
  obtain ⟨hk', _, ⟨hr, ho⟩ | ⟨b, hb, hr, ho⟩⟩ := h
  · rw [if_pos hr, ← ho, e]
  · have hz : run.size ≠ 0 := by rw [hr, smS_size, ByteArray.size_extract]; omega
    rw [if_neg hz, ← ho, ps_stop ht, e, hr]; simp
theorem midP.done {s : ByteArray} {out : List ByteArray} {run : ByteArray} (h : midP s out run s.size) : (if run.size = 0 then out else out ++ [run]) = (rl s).map smS := by
  have ht : stopP s true s.size := stop_end (Nat.le_refl _)
  obtain ⟨hk', _, ⟨hr, ho⟩ | ⟨b, hb, hr, ho⟩⟩ := h
  · rw [if_pos hr, ← ho, rlAt_last]; simp
  · have hz : run.size ≠ 0 := by rw [hr, smS_size, ByteArray.size_extract]; omega
    rw [if_neg hz, ← ho, ps_stop ht, rlAt_last, hr]; simp
end Go.Proofs.YthjfalbchkbdfaaDoor

/- append of a slice of elements of any size, also of none. -/
namespace Go.Proofs.YthjfalbchkbdfaaDoor
set_option linter.unusedSimpArgs false
set_option linter.unusedVariables false
open Go.RowKit Go.Deep
section
variable {P : Program}
theorem row_append (w : World) (t ty e : TypeId) (z : Value) (size bytes : Nat) (ht : P.underlying t = some (.slice e)) (hi : (P.info? e).map (fun i => (i.zero, i.size, i.bytes)) = some (some z, size, bytes)) (hz : z.cells.size = size) (hsz : 0 < size)
    (B : Nat) (v : Value) (n : Nat) (xs : List Value) (hv : w.ownsRow B e size v n xs) (sv : Value) (m : Nat) (news : List Value) (hl : news.length = m * size)
    (hs : ∃ a c, sv = .slice a m c ∧ (0 < m → ∃ qb qo, a = some ⟨qb, qo, none⟩ ∧ ∀ (j : Nat) (u : Value), news[j]? = some u → w.cell? ⟨qb, qo + j, none⟩ = some u)) (h1 : ∀ u ∈ news, u.oneCell' = true)
    (h63 : n + m ≤ maxLen) (hb : (n + m) * bytes ≤ 140737488355328) (hB : B ≤ w.heap.size) :
    ∃ a c w', (Builtin.append_ #[t, t] ty #[v, sv]).run P w = .ok (.slice a (n + m) c) w' ∧ w'.ownsRow B e size (.slice a (n + m) c) (n + m) (xs ++ news) ∧ w.grownBy w' v.ownBlock ∧
      ((Value.slice a (n + m) c).ownBlock = v.ownBlock ∨ (Value.slice a (n + m) c).ownBlock = some w.heap.size) := by
  cases hq : P.info? e with
  | none => simp [hq] at hi
  | some i =>
    simp only [hq, Option.map_some, Option.some.injEq, Prod.mk.injEq] at hi
    obtain ⟨hz', hs', hb'⟩ := hi
    obtain ⟨a, c, rfl, ha⟩ := hs
    by_cases h0 : m = 0
    · subst h0
      have hn0 : news = [] := List.length_eq_zero_iff.1 (by omega)
      subst hn0
      have hv' := hv
      obtain ⟨hl', h | ⟨g, cap, cur, rfl, hg, hbk, hc, hm, hcs, htk⟩⟩ := hv
      · obtain ⟨rfl, rfl⟩ := h
        exact ⟨none, 0, w, run_append_nil w t ty e ht (by rw [hq]; rfl) none 0 0 (Nat.le_refl _) a c, by simpa using hv', World.grownBy.refl _ _, Or.inl rfl⟩
      · exact ⟨_, cap, w, run_append_nil w t ty e ht (by rw [hq]; rfl) _ n cap hc a c, by simpa using hv', World.grownBy.refl _ _, Or.inl rfl⟩
    · obtain ⟨qb, qo, rfl, hc⟩ := ha (by omega)
      obtain ⟨g, cap, w', hr, ho, hg, hat, hlt⟩ := run_append_lies (P := P) w t ty B e i z size bytes ht hq hz' hs' hb' hz hsz v n xs hv ⟨qb, qo, none⟩ m c news hl (fun j u hu => by rw [Addr.add_mid]; exact hc j u hu) h1 (by omega) h63 hb hB w.heap.size rfl
      exact ⟨_, cap, w', hr, ho, hg, by
        rcases hat with h | h
        · exact Or.inl h.symm
        · exact Or.inr (by rw [h]; rfl)⟩
theorem ownsRow_far {w w' : World} {B e size : Nat} {v : Value} {n : Nat} {xs : List Value} (h : w.ownsRow B e size v n xs) (hb : ∀ k, v.ownBlock = some k → w'.heap[k]? = w.heap[k]?) : w'.ownsRow B e size v n xs := by
  obtain ⟨hl, h | ⟨g, cap, cur, rfl, hg, hbk, hr⟩⟩ := h
  · exact ⟨hl, Or.inl h⟩
  · exact ⟨hl, Or.inr ⟨g, cap, cur, rfl, hg, by rw [hb g rfl]; exact hbk, hr⟩⟩
theorem ownsRow_block {w : World} {B e size : Nat} {v : Value} {n : Nat} {xs : List Value} (h : w.ownsRow B e size v n xs) (k : Nat) (hk : v.ownBlock = some k) : B ≤ k ∧ k < w.heap.size := by
  obtain ⟨_, h | ⟨g, cap, cur, rfl, hB, hb, _⟩⟩ := h
  · rw [h.1] at hk; cases hk
  · obtain rfl : g = k := by simpa [Value.ownBlock] using hk
    exact ⟨hB, (Array.getElem?_eq_some_iff.1 hb).1⟩
theorem ownsRow_lower {w : World} {B C e size : Nat} {v : Value} {n : Nat} {xs : List Value} (h : w.ownsRow B e size v n xs) (hC : C ≤ B) : w.ownsRow C e size v n xs := by
  obtain ⟨hl, h | ⟨g, cap, cur, rfl, hg, hr⟩⟩ := h
  · exact ⟨hl, Or.inl h⟩
  · exact ⟨hl, Or.inr ⟨g, cap, cur, rfl, by omega, hr⟩⟩
theorem ownsRow_slice {w : World} {B e size : Nat} {v : Value} {n : Nat} {xs : List Value} (h : w.ownsRow B e size v n xs) : ∃ a c, v = .slice a n c ∧ n ≤ c ∧ c ≤ maxLen ∧ (0 < n → ∃ g, a = some ⟨g, 0, none⟩ ∧ g < w.heap.size ∧ B ≤ g ∧ ∀ (j : Nat) (u : Value), xs[j]? = some u → w.cell? ⟨g, j, none⟩ = some u) := by
  obtain ⟨hl, h | ⟨g, cap, cur, rfl, hg, hbk, hc, hm, hcs, htk⟩⟩ := h
  · obtain ⟨rfl, rfl⟩ := h
    exact ⟨none, 0, rfl, Nat.le_refl _, by unfold maxLen; omega, fun h => by omega⟩
  · refine ⟨_, cap, rfl, hc, hm, fun _ => ⟨g, rfl, (Array.getElem?_eq_some_iff.1 hbk).1, hg, fun j u hu => ?_⟩⟩
    rw [cell_of_row _ _ _ _ _ _ hbk]
    have hj : j < n * size := by rw [← hl]; exact (List.getElem?_eq_some_iff.1 hu).1
    rw [← htk, List.getElem?_take, if_pos hj, Array.getElem?_toList] at hu
    exact hu
end
end Go.Proofs.YthjfalbchkbdfaaDoor

/- Rows of texts of one's own. -/
namespace Go.Proofs.YthjfalbchkbdfaaDoor
set_option linter.unusedSimpArgs false
set_option linter.unusedVariables false
open Go.RowKit Go.Deep

theorem strsAt.one (w : World) (x : ByteArray) (hx : x.size ≤ maxLen) : strsAt (w.alloc (.cells #[.string x] 9)) (.slice (some ⟨w.heap.size, 0, none⟩) 1 1) [x] :=
  .inr ⟨w.heap.size, 0, 1, rfl, Nat.le_refl _, by unfold maxLen; omega, by simp, fun i s hi => by
    match i, hi with
    | 0, hi =>
      obtain rfl := Option.some.inj hi
      exact ⟨by rw [cell_of_row _ _ _ _ _ _ (blk_alloc_new w _)]; rfl, hx⟩⟩
theorem strsAt.two (w : World) (x y : ByteArray) (hx : x.size ≤ maxLen) (hy : y.size ≤ maxLen) : strsAt (w.alloc (.cells #[.string x, .string y] 9)) (.slice (some ⟨w.heap.size, 0, none⟩) 2 2) [x, y] :=
  .inr ⟨w.heap.size, 0, 2, rfl, Nat.le_refl _, by unfold maxLen; omega, by simp, fun i s hi => by
    match i, hi with
    | 0, hi =>
      obtain rfl := Option.some.inj hi
      exact ⟨by rw [cell_of_row _ _ _ _ _ _ (blk_alloc_new w _)]; rfl, hx⟩
    | 1, hi =>
      obtain rfl := Option.some.inj hi
      exact ⟨by rw [cell_of_row _ _ _ _ _ _ (blk_alloc_new w _)]; rfl, hy⟩⟩
/-- texts, in memory of one's own. -/
def newStrs (w : World) (B : Nat) (v : Value) (L : List ByteArray) : Prop := w.ownsRow B 9 1 v L.length (L.map Value.string) ∧ ∀ s ∈ L, s.size ≤ maxLen
theorem newStrs.zero (w : World) (B : Nat) : newStrs w B (.slice none 0 0) [] := ⟨⟨rfl, .inl ⟨rfl, rfl⟩⟩, fun s h => by cases h⟩
theorem newStrs.empty (w : World) (B : Nat) (hB : B ≤ w.heap.size) : newStrs (w.alloc (.cells #[] 9)) B (.slice (some ⟨w.heap.size, 0, none⟩) 0 0) [] :=
  ⟨⟨rfl, Or.inr ⟨w.heap.size, 0, #[], rfl, hB, blk_alloc_new _ _, Nat.le_refl _, by unfold maxLen; omega, rfl, rfl⟩⟩, fun s h => by cases h⟩
theorem newStrs.below {w w' : World} {B : Nat} {v : Value} {L : List ByteArray} (h : newStrs w B v L) (hb : Below w.heap.size w w') : newStrs w' B v L :=
  ⟨ownsRow_far h.1 fun k hk => hb.block k (ownsRow_block h.1 k hk).2, h.2⟩
theorem newStrs.slice {w : World} {B : Nat} {v : Value} {L : List ByteArray} (h : newStrs w B v L) : ∃ a c, v = .slice a L.length c := by
  obtain ⟨a, c, e, _⟩ := ownsRow_slice h.1; exact ⟨a, c, e⟩
theorem newStrs.at {w : World} {B : Nat} {v : Value} {L : List ByteArray} (h : newStrs w B v L) : strsAt w v L := by
  obtain ⟨⟨hl, h1 | ⟨g, cap, cur, rfl, hg, hbk, hc, hm, hcs, htk⟩⟩, h2⟩ := h
  · exact .inl ⟨h1.1, List.length_eq_zero_iff.1 h1.2⟩
  · refine .inr ⟨g, 0, cap, rfl, hc, hm, (Array.getElem?_eq_some_iff.1 hbk).1, fun i s hi => ⟨?_, h2 s (List.mem_of_getElem? hi)⟩⟩
    rw [cell_of_row _ _ _ _ _ _ hbk]
    have hi' : i < L.length := (List.getElem?_eq_some_iff.1 hi).1
    have h3 : (L.map Value.string)[i]? = some (.string s) := by rw [List.getElem?_map, hi]; rfl
    rw [← htk, List.getElem?_take, if_pos (by omega), Array.getElem?_toList] at h3
    rw [Nat.zero_add]
    exact h3
theorem infoStr : (Tryd.prog.info? 9).map (fun i => (i.zero, i.size, i.bytes)) = some (some (.string ByteArray.empty), 1, 16) := by kernel_rfl
/-- append of texts. -/
theorem strs_append (w : World) (B : Nat) (v : Value) (L : List ByteArray) (hv : newStrs w B v L) (u : Value) (M : List ByteArray) (hu : strsAt w u M) (hn : L.length + M.length < 1000000) (hB : B ≤ w.heap.size) :
    ∃ v' w', (Builtin.append_ #[22, 22] 22 #[v, u]).run Tryd.prog w = .ok v' w' ∧ newStrs w' B v' (L ++ M) ∧ w.grownBy w' v.ownBlock := by
  obtain ⟨ua, uc, rfl, _, _, _, hc⟩ := hu.slice
  have hM : ∀ s ∈ M, s.size ≤ maxLen := fun s hs => by
    obtain ⟨i, hi⟩ := List.getElem?_of_mem hs
    obtain ⟨_, _, _, _, h⟩ := hc (List.length_pos_of_mem hs)
    exact (h i s hi).2
  obtain ⟨a', c', w', hr, ho', hg, _⟩ := row_append (P := Tryd.prog) w 22 22 9 _ 1 16 Tryd.underlying22 infoStr (by rfl) (by omega)
    B v _ _ hv.1 (.slice ua M.length uc) M.length (M.map Value.string) (by simp)
    ⟨_, _, rfl, fun h => by
      obtain ⟨pb, po, rfl, _, hcell⟩ := hc h
      refine ⟨pb, po, rfl, fun j x hj => ?_⟩
      rw [List.getElem?_map] at hj
      cases hm : M[j]? with
      | none => rw [hm] at hj; cases hj
      | some s =>
        rw [hm] at hj
        obtain rfl := Option.some.inj hj
        exact (hcell j s hm).1⟩
    (fun x hx => by
      obtain ⟨s, _, rfl⟩ := List.mem_map.1 hx
      rfl) (by unfold maxLen; omega) (by omega) hB
  refine ⟨_, w', hr, ⟨?_, fun s hs => ?_⟩, hg⟩
  · rw [List.map_append, List.length_append]; exact ho'
  · rcases List.mem_append.1 hs with h | h
    · exact hv.2 s h
    · exact hM s h
theorem strs_grown {w w' : World} {B : Nat} {v : Value} {L : List ByteArray} {w0 : World} (hv : newStrs w B v L) (hg : w.grownBy w' v.ownBlock) (hb : Below w0.heap.size w0 w) (hB : w0.heap.size ≤ B) : Below w0.heap.size w0 w' :=
  hb.grown hg hb.size fun k hk => Nat.le_trans hB (ownsRow_block hv.1 k hk).1
end Go.Proofs.YthjfalbchkbdfaaDoor

/- The document's Runs. -/
namespace Go.Proofs.YthjfalbchkbdfaaDoor
set_option linter.unusedSimpArgs false
set_option linter.unusedVariables false
open Go.RowKit Go.Deep

theorem midP.small {s : ByteArray} {out : List ByteArray} {run : ByteArray} {k : Nat} (h : midP s out run k) : run.size ≤ k ∧ out.length ≤ s.size := by
  obtain ⟨h1, _, ⟨h2, h3⟩ | ⟨b, h2, h3, h4⟩⟩ := h
  · refine ⟨by omega, ?_⟩
    have := congrArg List.length h3
    simp only [List.length_append, List.length_map, List.length_cons] at this
    have := rl_length s
    omega
  · refine ⟨by rw [h3, smS_size, ByteArray.size_extract]; omega, ?_⟩
    have := congrArg List.length h4
    simp only [List.length_append, List.length_map, List.length_cons] at this
    have := rl_length s
    omega
theorem neq_empty (ty : TypeId) {r : ByteArray} (h : r.size ≠ 0) : binOp .neq ty (.string r) (.string { data := #[] }) = pure (.bool true) := by
  have e : (r.toList == ByteArray.empty.toList) = false := by
    rw [Lib.bytes_beq_false_iff]
    intro hc
    apply h
    rw [hc]; rfl
  show binOp .neq ty (.string r) (.string ByteArray.empty) = _
  simp only [binOp, Op.stringOp, e, Bool.not_false]
theorem neq_same (ty : TypeId) : binOp .neq ty (.string { data := #[] }) (.string { data := #[] }) = pure (.bool false) := by
  have e : (ByteArray.empty.toList == ByteArray.empty.toList) = true := by rw [Lib.bytes_beq_iff]
  show binOp .neq ty (.string ByteArray.empty) (.string ByteArray.empty) = _
  simp only [binOp, Op.stringOp, e, Bool.not_true]
set_option maxHeartbeats 8000000 in
set_option maxRecDepth 100000 in
theorem rwruns_any (s : ByteArray) (hs : s.size ≤ 900000) (hf : fl s = s.size) (w : World) :
    Calls Tryd.prog 29 #[.string s] w fun e w' => ∃ rv, e = .returned rv ∧ newStrs w' w.heap.size rv ((rl s).map smS) ∧ Below w.heap.size w w' := by
  have HS : Hid (s.size ≤ 900000) := (show _ from hs)
  have hm : (s.size : Int) ≤ 900000 := by omega
  have HF : Hid (fl s = s.size) := (show _ from hf)
  clear hs hf
  go_enter Tryd.func29, Tryd.ntmps29
  go_wp2_with fail
  go_loopw [3, 4, 5, 6, 7] (fun x y z c n wr => ∃ (k : Nat) (out : List ByteArray) (r : ByteArray), y = .string r ∧ z = .int .i64 (k : Int) ∧ midP s out r k ∧ newStrs wr w.heap.size x out ∧ Below w.heap.size w wr) (fun _ _ z _ _ _ => s.size - (intOf z).toNat)
  case atStart => exact ⟨0, [], ByteArray.empty, rfl, rfl, midP.start HF.out, newStrs.zero _ _, Below.refl _ _⟩
  case round =>
    obtain ⟨k, out, r, rfl, rfl, hmid, hn, hb⟩ := hrel
    have HM : Hid (midP s out r k) := (show _ from hmid)
    have HB : Hid (Below w.heap.size w wr) := (show _ from hb)
    have k0 : (0 : Int) ≤ (k : Int) := by omega
    have hks := hmid.1
    obtain ⟨hrs, hos⟩ := hmid.small
    obtain ⟨xa, xc, hx⟩ := hn.slice
    subst hx
    have HN : Hid (newStrs wr w.heap.size (.slice xa out.length xc) out) := (show _ from hn)
    clear hmid hb hn
    by_cases hlt : k < s.size
    · have hlt' : (k : Int) < (s.size : Int) := by omega
      have X := rnext_any s (by unfold maxLen; omega) ((k : Nat) : Int) (by omega) wr
      rw [nxI_nat] at X
      obtain ⟨hz0, hz1, _⟩ := midP.more HM.out hlt
      have ML : Hid (letB ((nx s k).1 : Int) = true → midP s out (r ++ smS (s.extract k (k + (nx s k).2))) (k + (nx s k).2)) := (show letB ((nx s k).1 : Int) = true → midP s out (r ++ smS (s.extract k (k + (nx s k).2))) (k + (nx s k).2) from fun h => midP.letter HM.out hlt h)
      have MO : Hid (letB ((nx s k).1 : Int) = false → midP s (if r.size = 0 then out else out ++ [r]) ByteArray.empty (k + (nx s k).2)) := (show letB ((nx s k).1 : Int) = false → midP s (if r.size = 0 then out else out ++ [r]) ByteArray.empty (k + (nx s k).2) from fun h => midP.other HM.out hlt h)
      generalize nx s k = q at X hz0 hz1 ML MO
      obtain ⟨c, z⟩ := q
      simp only at X hz0 hz1 ML MO
      have z0 : (k : Int) + (z : Int) ≤ (s.size : Int) := by omega
      go_wp2_with fail
      refine X.mono ?_
      rintro e w1 ⟨rfl, b1⟩
      have B1 : Hid (Below w.heap.size w w1) := (show Below w.heap.size w w1 from HB.out.trans (b1.mono HB.out.size))
      have N1 : Hid (newStrs w1 w.heap.size (.slice xa out.length xc) out) := (show newStrs w1 w.heap.size (.slice xa out.length xc) out from HN.out.below b1)
      clear X b1
      have XL := rletter_any (c : Int) w1
      go_wp2_with fail
      refine XL.mono ?_
      rintro e w2 ⟨rfl, b2⟩
      have B2 : Hid (Below w.heap.size w w2) := (show Below w.heap.size w w2 from B1.out.trans (b2.mono B1.out.size))
      have N2 : Hid (newStrs w2 w.heap.size (.slice xa out.length xc) out) := (show newStrs w2 w.heap.size (.slice xa out.length xc) out from N1.out.below b2)
      clear XL b2
      cases hl : letB (c : Int) with
      | true =>
        have M2 : Hid (midP s out (r ++ smS (s.extract k (k + z))) (k + z)) := (show midP s out (r ++ smS (s.extract k (k + z))) (k + z) from ML.out hl)
        have hes : (s.extract k (k + z)).size = z := by rw [ByteArray.size_extract]; omega
        have XS := rsmall_any (s.extract k (k + z)) (by rw [hes]; unfold maxLen; omega) w2
        have hqs : (smS (s.extract k (k + z))).size = z := by rw [smS_size, hes]
        have e1 : ((k : Int) + (z : Int)).toNat = k + z := by omega
        generalize smS (s.extract k (k + z)) = q at XS M2 hqs
        have hcat : ¬ (9223372036854775807 < r.size + q.size) := by omega
        clear hl ML MO
        go_wp2_with fail
        refine XS.mono ?_
        rintro e w3 ⟨rfl, b3⟩
        have B3 : Hid (Below w.heap.size w w3) := (show Below w.heap.size w w3 from B2.out.trans (b3.mono B2.out.size))
        have N3 : Hid (newStrs w3 w.heap.size (.slice xa out.length xc) out) := (show newStrs w3 w.heap.size (.slice xa out.length xc) out from N2.out.below b3)
        clear XS b3
        go_wp2
        go_light
        exact ⟨⟨k + z, out, r ++ q, rfl, by rw [Int.natCast_add], M2.out, N3.out, B3.out⟩, by simp [intOf]; omega⟩
      | false =>
        have M2 := MO.out hl
        by_cases hr : r.size = 0
        · rw [if_pos hr] at M2
          obtain rfl : r = { data := #[] } := size_zero hr
          have HM2 : Hid (midP s out ByteArray.empty (k + z)) := (show _ from M2)
          have hG := neq_same
          clear hl ML MO M2 hr hrs
          go_wp2
          go_light
          exact ⟨⟨k + z, out, ByteArray.empty, rfl, by rw [Int.natCast_add], HM2.out, N2.out, B2.out⟩, by simp [intOf]; omega⟩
        · rw [if_neg hr] at M2
          have HM2 : Hid (midP s (out ++ [r]) ByteArray.empty (k + z)) := (show _ from M2)
          have hG := fun ty => neq_empty ty hr
          obtain ⟨w3, hw3⟩ : ∃ w3, w3 = w2.alloc (.cells #[.string r] 9) := ⟨_, rfl⟩
          have hrm : r.size ≤ maxLen := by unfold maxLen; omega
          have u3 : strsAt w3 (.slice (some ⟨w2.heap.size, 0, none⟩) 1 1) [r] := by rw [hw3]; exact strsAt.one w2 r hrm
          have b3 : Below w2.heap.size w2 w3 := by rw [hw3]; exact (Below.refl _ _).alloc (Nat.le_refl _) _
          have n3 := newStrs.below N2.out b3
          obtain ⟨v', w4, hr4, hn4, hg4⟩ := strs_append w3 w.heap.size _ out n3 _ [r] u3 (by simp; have := HS.out; omega) (Nat.le_trans B2.out.size b3.size)
          have b4 := strs_grown n3 hg4 (B2.out.trans (b3.mono B2.out.size)) (Nat.le_refl _)
          obtain ⟨va, vc, hv'⟩ := hn4.slice
          subst hv'
          rw [List.length_append, List.length_singleton] at hn4 hr4
          have N4 : Hid (newStrs w4 w.heap.size (.slice va (out.length + 1) vc) (out ++ [r])) := (show _ from hn4)
          have B4 : Hid _ := b4
          clear hl ML MO M2 hr hn4 b4 hg4 n3 b3 u3 hrm
          go_wp2_with (at_builtin; refine wpList_append_run rfl _ _ _ rfl rfl rfl (by rw [← hw3]; exact hr4) ?_)
          go_light
          exact ⟨⟨k + z, out ++ [r], ByteArray.empty, rfl, by rw [Int.natCast_add], HM2.out, N4.out, B4.out⟩, by simp [intOf]; omega⟩
    · obtain rfl : k = s.size := by omega
      have M2 := midP.done HM.out
      by_cases hr : r.size = 0
      · rw [if_pos hr] at M2
        obtain rfl : r = { data := #[] } := size_zero hr
        have HM2 : Hid (out = (rl s).map smS) := (show _ from M2)
        have hG := neq_same
        clear M2 hr hrs
        go_wp2
        go_ret
        exact ⟨_, rfl, by rw [← HM2.out]; exact HN.out, HB.out⟩
      · rw [if_neg hr] at M2
        have HM2 : Hid (out ++ [r] = (rl s).map smS) := (show _ from M2)
        have hG := fun ty => neq_empty ty hr
        obtain ⟨w3, hw3⟩ : ∃ w3, w3 = wr.alloc (.cells #[.string r] 9) := ⟨_, rfl⟩
        have hrm : r.size ≤ maxLen := by unfold maxLen; omega
        have u3 : strsAt w3 (.slice (some ⟨wr.heap.size, 0, none⟩) 1 1) [r] := by rw [hw3]; exact strsAt.one wr r hrm
        have b3 : Below wr.heap.size wr w3 := by rw [hw3]; exact (Below.refl _ _).alloc (Nat.le_refl _) _
        have n3 := newStrs.below HN.out b3
        obtain ⟨v', w4, hr4, hn4, hg4⟩ := strs_append w3 w.heap.size _ out n3 _ [r] u3 (by simp; have := HS.out; omega) (Nat.le_trans HB.out.size b3.size)
        have b4 := strs_grown n3 hg4 (HB.out.trans (b3.mono HB.out.size)) (Nat.le_refl _)
        obtain ⟨va, vc, hv'⟩ := hn4.slice
        subst hv'
        rw [List.length_append, List.length_singleton] at hn4 hr4
        have N4 : Hid (newStrs w4 w.heap.size (.slice va (out.length + 1) vc) (out ++ [r])) := (show _ from hn4)
        have B4 : Hid _ := b4
        clear M2 hr hn4 b4 hg4 n3 b3 u3 hrm
        go_wp2_with (at_builtin; refine wpList_append_run rfl _ _ _ rfl rfl rfl (by rw [← hw3]; exact hr4) ?_)
        go_ret
        exact ⟨_, rfl, by rw [← HM2.out]; exact N4.out, B4.out⟩
end Go.Proofs.YthjfalbchkbdfaaDoor

/- A text among others. -/
namespace Go.Proofs.YthjfalbchkbdfaaDoor
set_option linter.unusedSimpArgs false
set_option linter.unusedVariables false
open Go.RowKit Go.Deep

set_option maxHeartbeats 4000000 in
set_option maxRecDepth 100000 in
theorem sindex_any (v : Value) (L : List ByteArray) (x : ByteArray) (w : World) (hv : strsAt w v L) :
    Calls Tryd.prog 38 #[v, .string x] w fun e w' => (∃ i : Int, e = .returned (.int .i64 i) ∧ decide (0 ≤ i) = inS L x) ∧ w' = w := by
  obtain ⟨a, c, rfl, hlc, _, hl, hrow⟩ := hv.slice
  have hm : (L.length : Int) ≤ 9223372036854775807 := by unfold maxLen at hl; omega
  have HROW : Hid _ := hrow
  have HV : Hid (∀ (i : Nat) (y : ByteArray), L[i]? = some y → (y.toList == x.toList) = true → inS L x = true) := (show _ from fun i y h e => inS_hit h e)
  have HN : Hid ((∀ (i : Nat) (y : ByteArray), L[i]? = some y → (y.toList == x.toList) = false) → inS L x = false) := (show _ from inS_none)
  generalize inS L x = B at HV HN ⊢
  clear hv hrow hl hlc
  go_enter Tryd.func38, Tryd.ntmps38
  go_wp2
  go_loopw [8] (fun i wr => ∃ j : Nat, j ≤ L.length ∧ i = .int .i64 (j : Int) ∧ (∀ (k : Nat) (y : ByteArray), k < j → L[k]? = some y → (y.toList == x.toList) = false) ∧ wr = w) (fun i _ => L.length - (intOf i).toNat)
  case atStart => exact ⟨0, Nat.zero_le _, rfl, fun k y h => absurd h (Nat.not_lt_zero k), rfl⟩
  case round =>
    obtain ⟨j, hj, rfl, hno, rfl⟩ := hrel
    have HNO : Hid (∀ (k : Nat) (y : ByteArray), k < j → L[k]? = some y → (y.toList == x.toList) = false) := (show _ from hno)
    have j0 : (0 : Int) ≤ (j : Int) := by omega
    clear hno
    by_cases hlt : j < L.length
    · obtain ⟨pb, po, rfl, hpb, hcell⟩ := HROW.out (by omega)
      have hget : L[j]? = some L[j] := List.getElem?_eq_getElem hlt
      obtain ⟨hc, _⟩ := hcell j _ hget
      have HG : Hid (L[j]? = some L[j]) := (show _ from hget)
      generalize L[j] = y at hc HG
      have j1 : (j : Int) < (L.length : Int) := by omega
      have hcl : ∀ z : Nat, z = po + j → wr.cell? ⟨pb, z, none⟩ = some (.string y) := fun z hz => by rw [hz]; exact hc
      clear hcell hget
      cases hq : (y.toList == x.toList) with
      | true =>
        have hr : B = true := HV.out j y HG.out hq
        have hq2 : (x.toList == y.toList) = true := by rw [Lib.bytes_beq_iff] at hq ⊢; exact hq.symm
        clear hq
        go_wp2
        go_ret
        exact ⟨⟨_, rfl, by rw [hr]; simp⟩, rfl⟩
      | false =>
        have HQ : Hid ((y.toList == x.toList) = false) := (show _ from hq)
        have hq2 : (x.toList == y.toList) = false := by rw [Lib.bytes_beq_false_iff] at hq ⊢; exact fun h => hq h.symm
        clear hq
        go_wp2
        go_light
        refine ⟨⟨j + 1, by omega, by go_num, fun k y' hk h => ?_, by first | rfl | trivial⟩, by simp [intOf]; omega⟩
        by_cases hk' : k = j
        · subst hk'
          obtain rfl := Option.some.inj (HG.out.symm.trans h)
          exact HQ.out
        · exact HNO.out k y' (by omega) h
    · obtain rfl : j = L.length := by omega
      have hr : B = false := HN.out fun i y h => HNO.out i y (List.getElem?_eq_some_iff.1 h).1 h
      go_wp2
      go_ret
      exact ⟨⟨_, rfl, by rw [hr]; rfl⟩, rfl⟩
theorem scontains_any (v : Value) (L : List ByteArray) (x : ByteArray) (w : World) (hv : strsAt w v L) :
    Calls Tryd.prog 27 #[v, .string x] w fun e w' => e = .returned (.bool (inS L x)) ∧ w' = w := by
  have X := sindex_any v L x w hv
  clear hv
  go_enter Tryd.func27, Tryd.ntmps27
  go_wp2_with fail
  refine X.mono ?_
  rintro e w' ⟨⟨i, rfl, hi⟩, hw⟩
  obtain rfl := hw.symm
  have HI : Hid (decide (0 ≤ i) = inS L x) := (show _ from hi)
  clear hw X hi
  go_wp2
  go_ret
  exact ⟨by rw [← HI.out]; rfl, rfl⟩
set_option maxHeartbeats 4000000 in
set_option maxRecDepth 100000 in
theorem rin_any (v : Value) (L : List ByteArray) (x : ByteArray) (w : World) (hv : strsAt w v L) :
    Calls Tryd.prog 30 #[v, .string x] w fun e w' => e = .returned (.bool (inS L x)) ∧ w' = w := by
  obtain ⟨a, c, rfl, hlc, _, hl, hrow⟩ := hv.slice
  have hm : (L.length : Int) ≤ 9223372036854775807 := by unfold maxLen at hl; omega
  have HROW : Hid _ := hrow
  have HV : Hid (∀ (i : Nat) (y : ByteArray), L[i]? = some y → (y.toList == x.toList) = true → inS L x = true) := (show _ from fun i y h e => inS_hit h e)
  have HN : Hid ((∀ (i : Nat) (y : ByteArray), L[i]? = some y → (y.toList == x.toList) = false) → inS L x = false) := (show _ from inS_none)
  generalize inS L x = B at HV HN ⊢
  clear hv hrow hl hlc
  go_enter Tryd.func30, Tryd.ntmps30
  go_wp2
  go_loopw [5] (fun i wr => ∃ j : Nat, j ≤ L.length ∧ i = .int .i64 (j : Int) ∧ (∀ (k : Nat) (y : ByteArray), k < j → L[k]? = some y → (y.toList == x.toList) = false) ∧ wr = w) (fun i _ => L.length - (intOf i).toNat)
  case atStart => exact ⟨0, Nat.zero_le _, rfl, fun k y h => absurd h (Nat.not_lt_zero k), rfl⟩
  case round =>
    obtain ⟨j, hj, rfl, hno, rfl⟩ := hrel
    have HNO : Hid (∀ (k : Nat) (y : ByteArray), k < j → L[k]? = some y → (y.toList == x.toList) = false) := (show _ from hno)
    have j0 : (0 : Int) ≤ (j : Int) := by omega
    clear hno
    by_cases hlt : j < L.length
    · obtain ⟨pb, po, rfl, hpb, hcell⟩ := HROW.out (by omega)
      have hget : L[j]? = some L[j] := List.getElem?_eq_getElem hlt
      obtain ⟨hc, _⟩ := hcell j _ hget
      have HG : Hid (L[j]? = some L[j]) := (show _ from hget)
      generalize L[j] = y at hc HG
      have j1 : (j : Int) < (L.length : Int) := by omega
      have hcl : ∀ z : Nat, z = po + j → wr.cell? ⟨pb, z, none⟩ = some (.string y) := fun z hz => by rw [hz]; exact hc
      clear hcell hget
      cases hq : (y.toList == x.toList) with
      | true =>
        have hr : B = true := HV.out j y HG.out hq
        have hq2 := hq
        clear hq
        go_wp2
        go_ret
        exact ⟨by rw [hr]; rfl, rfl⟩
      | false =>
        have HQ : Hid ((y.toList == x.toList) = false) := (show _ from hq)
        have hq2 := hq
        clear hq
        go_wp2
        go_light
        refine ⟨⟨j + 1, by omega, by go_num, fun k y' hk h => ?_, by first | rfl | trivial⟩, by simp [intOf]; omega⟩
        by_cases hk' : k = j
        · subst hk'
          obtain rfl := Option.some.inj (HG.out.symm.trans h)
          exact HQ.out
        · exact HNO.out k y' (by omega) h
    · obtain rfl : j = L.length := by omega
      have hr : B = false := HN.out fun i y h => HNO.out i y (List.getElem?_eq_some_iff.1 h).1 h
      go_wp2
      go_ret
      exact ⟨by rw [hr]; rfl, rfl⟩
end Go.Proofs.YthjfalbchkbdfaaDoor

/- Rows of words of one's own. -/
namespace Go.Proofs.YthjfalbchkbdfaaDoor
set_option linter.unusedSimpArgs false
set_option linter.unusedVariables false
open Go.RowKit Go.Deep

def wCells (x : ByteArray × Nat) : List Value := [.string x.1, .int .i64 (x.2 : Int)]
/-- words, in memory of one's own. -/
def newWords (w : World) (B : Nat) (v : Value) (l : List (ByteArray × Nat)) : Prop := w.ownsRow B 46 2 v l.length (l.flatMap wCells)
theorem wCells_get (l : List (ByteArray × Nat)) : ∀ i x, l[i]? = some x → (l.flatMap wCells)[i * 2]? = some (.string x.1) ∧ (l.flatMap wCells)[i * 2 + 1]? = some (.int .i64 (x.2 : Int)) := by
  induction l with
  | nil => intro i x h; simp at h
  | cons y t ih =>
    intro i x h
    cases i with
    | zero =>
      obtain rfl : y = x := by simpa using h
      exact ⟨rfl, rfl⟩
    | succ i =>
      have := ih i x (by simpa using h)
      have e1 : (i + 1) * 2 = i * 2 + 2 := by omega
      have e2 : (i + 1) * 2 + 1 = i * 2 + 1 + 2 := by omega
      rw [e1, show i * 2 + 2 + 1 = i * 2 + 1 + 2 by omega]
      exact this
/-- what is read of them. -/
def wordRowAt (w : World) (v : Value) (l : List (ByteArray × Nat)) : Prop := ∃ a c, v = .slice a l.length c ∧ l.length ≤ c ∧ c ≤ maxLen ∧ (0 < l.length → ∃ g, a = some ⟨g, 0, none⟩ ∧ g < w.heap.size ∧ ∀ i x, l[i]? = some x → w.cell? ⟨g, i * 2, none⟩ = some (.string x.1) ∧ w.cell? ⟨g, i * 2 + 1, none⟩ = some (.int .i64 (x.2 : Int)))
theorem newWords.at {w : World} {B : Nat} {v : Value} {l : List (ByteArray × Nat)} (h : newWords w B v l) : wordRowAt w v l := by
  obtain ⟨a, c, rfl, h1, h2, h3⟩ := ownsRow_slice h
  refine ⟨a, c, rfl, h1, h2, fun hl => ?_⟩
  obtain ⟨g, rfl, hg, _, hc⟩ := h3 hl
  exact ⟨g, rfl, hg, fun i x hx => ⟨hc _ _ (wCells_get l i x hx).1, hc _ _ (wCells_get l i x hx).2⟩⟩
theorem wordRowAt.below {w w' : World} {v : Value} {l : List (ByteArray × Nat)} (h : wordRowAt w v l) (hb : Below w.heap.size w w') : wordRowAt w' v l := by
  obtain ⟨a, c, rfl, h1, h2, h3⟩ := h
  refine ⟨a, c, rfl, h1, h2, fun hl => ?_⟩
  obtain ⟨g, rfl, hg, hc⟩ := h3 hl
  exact ⟨g, rfl, Nat.lt_of_lt_of_le hg hb.size, fun i x hx => ⟨(hb.cell (p := ⟨g, i * 2, none⟩) hg).trans (hc i x hx).1, (hb.cell (p := ⟨g, i * 2 + 1, none⟩) hg).trans (hc i x hx).2⟩⟩
theorem newWords.none (w : World) (B : Nat) : newWords w B (.slice none 0 0) [] := ⟨rfl, .inl ⟨rfl, rfl⟩⟩
theorem newWords.far {w w' : World} {B : Nat} {v : Value} {l : List (ByteArray × Nat)} (h : newWords w B v l) (hb : ∀ k, v.ownBlock = some k → w'.heap[k]? = w.heap[k]?) : newWords w' B v l := ownsRow_far h hb
theorem infoWord : (Tryd.prog.info? 46).map (fun i => (i.zero, i.size, i.bytes)) = some (some (.agg #[.string ByteArray.empty, .int .i64 0]), 2, 24) := by kernel_rfl
/-- append of one word. -/
theorem words_append (w : World) (B : Nat) (v : Value) (l : List (ByteArray × Nat)) (hv : newWords w B v l) (x : ByteArray × Nat) (b : Nat) (hb : w.heap[b]? = some (.cells #[.string x.1, .int .i64 (x.2 : Int)] 46 (0, 0))) (hn : l.length < 1000000) (hB : B ≤ w.heap.size) :
    ∃ v' w', (Builtin.append_ #[25, 25] 25 #[v, .slice (some ⟨b, 0, none⟩) 1 1]).run Tryd.prog w = .ok v' w' ∧ newWords w' B v' (l ++ [x]) ∧ w.grownBy w' v.ownBlock := by
  obtain ⟨a', c', w', hr, ho', hg, _⟩ := row_append (P := Tryd.prog) w 25 25 46 _ 2 24 Tryd.underlying25 infoWord (by rfl) (by omega)
    B v _ _ hv (.slice (some ⟨b, 0, none⟩) 1 1) 1 (wCells x) rfl
    ⟨_, _, rfl, fun _ => ⟨b, 0, rfl, fun j u hj => by
      rw [Nat.zero_add, cell_of_row _ _ _ _ _ _ hb]
      match j, hj with
      | 0, hj => exact hj
      | 1, hj => exact hj⟩⟩
    (fun u hu => by
      rcases List.mem_cons.1 hu with rfl | hu
      · rfl
      · rcases List.mem_cons.1 hu with rfl | hu
        · rfl
        · cases hu) (by unfold maxLen; omega) (by omega) hB
  refine ⟨_, w', hr, ?_, hg⟩
  unfold newWords
  rw [List.flatMap_append, List.length_append, show [x].flatMap wCells = wCells x from List.append_nil _]
  exact ho'
section
variable {P : Program}
/-- two results, each of which lies in memory. -/
theorem results_plain2 {fn : Func} {p q : Tmp} {t1 t2 : TypeId} (h : fn.results = #[.cell p t1, .cell q t2]) (tmps : Array Value) (w : World) (g1 g2 : Nat) (v1 v2 : Value) (d1 d2 : TypeDesc)
    (hp : tmps.getD p undef = .pointer (some ⟨g1, 0, none⟩)) (hq : tmps.getD q undef = .pointer (some ⟨g2, 0, none⟩)) (hu1 : P.underlying t1 = some d1) (hu2 : P.underlying t2 = some d2)
    (hd1 : (match d1 with | .struct _ | .array _ _ => true | _ => false) = false) (hd2 : (match d2 with | .struct _ | .array _ _ => true | _ => false) = false)
    (h1 : w.cell? ⟨g1, 0, none⟩ = some v1) (h2 : w.cell? ⟨g2, 0, none⟩ = some v2) : (results fn tmps).run P w = .ok (.tuple #[v1, v2]) w := by
  have hp' : tmps[p]?.getD undef = .pointer (some ⟨g1, 0, none⟩) := by simpa using hp
  have hq' : tmps[q]?.getD undef = .pointer (some ⟨g2, 0, none⟩) := by simpa using hq
  have a1 : (isAgg t1).run P w = .ok false w := by
    unfold isAgg
    rw [Sem.run_bind, run_underlying hu1 w]
    cases d1 <;> simp_all
  have a2 : (isAgg t2).run P w = .ok false w := by
    unfold isAgg
    rw [Sem.run_bind, run_underlying hu2 w]
    cases d2 <;> simp_all
  simp [results, h, hp', hq', asAddr, loadVar, Sem.run_bind, a1, a2, h1, h2, go_sem]
end
end Go.Proofs.YthjfalbchkbdfaaDoor

/- The three tables that texts are read by. -/
namespace Go.Proofs.YthjfalbchkbdfaaDoor
open Go.RowKit Go.Deep

/-- the program's three tables. -/
def utT (w : World) : Prop := u8T w ∧ ltT w
theorem utT.below {w w' : World} (h : utT w) (hb : Below w.heap.size w w') : utT w' := ⟨h.1.below hb, h.2.below hb⟩
end Go.Proofs.YthjfalbchkbdfaaDoor

/- words.past. -/
namespace Go.Proofs.YthjfalbchkbdfaaDoor
set_option linter.unusedSimpArgs false
set_option linter.unusedVariables false
open Go.RowKit Go.Deep

set_option maxHeartbeats 4000000 in
set_option maxRecDepth 100000 in
theorem past_any (s : ByteArray) (hs : s.size ≤ maxLen) (k : Nat) (hk : k ≤ s.size) (b : Bool) (w : World) (hT : utT w) :
    Calls Tryd.prog 37 #[.string s, .int .i64 (k : Int), .bool b] w fun e w' => e = .returned (.int .i64 (ps s b k : Int)) ∧ Below w.heap.size w w' := by
  have hm : (s.size : Int) ≤ 9223372036854775807 := by unfold maxLen at hs; omega
  have HT : Hid (utT w) := (show utT w from hT)
  obtain ⟨R, hR⟩ : ∃ R, R = ps s b k := ⟨_, rfl⟩
  rw [← hR]
  have HR : Hid (R = ps s b k) := (show R = ps s b k from hR)
  clear hT hs hR
  go_enter Tryd.func37, Tryd.ntmps37
  go_wp2_with fail
  go_loopw [1, 7, 8] (fun i c z wr => ∃ m : Nat, m ≤ s.size ∧ i = .int .i64 (m : Int) ∧ ps s b m = R ∧ Below w.heap.size w wr) (fun i _ _ _ => s.size - (intOf i).toNat)
  case atStart => exact ⟨k, hk, rfl, HR.out.symm, Below.refl _ _⟩
  case round =>
    obtain ⟨m, hmm, rfl, hp, hb⟩ := hrel
    have HB : Hid (Below w.heap.size w wr) := (show Below w.heap.size w wr from hb)
    have X := next_any s ((m : Nat) : Int) (by omega) wr (HT.out.below hb).1
    rw [nxI_nat] at X
    have HS := ps_stop (s := s) (b := b) (k := m)
    have HG := ps_step (s := s) (b := b) (k := m)
    have HZ := go_size (s := s) (b := b) (k := m)
    unfold stopP at HS HG HZ
    generalize nx s m = cz at X HS HG HZ
    obtain ⟨c, z⟩ := cz
    simp only at X HS HG HZ
    have HH : Hid ((z = 0 ∨ letB (c : Int) ≠ b → m = R) ∧ (¬ (z = 0 ∨ letB (c : Int) ≠ b) → ps s b (m + z) = R ∧ 0 < z ∧ m + z ≤ s.size)) := (show _ from ⟨fun h => by rw [← hp, HS h], fun h => ⟨by rw [← hp, HG h], HZ h⟩⟩)
    clear HS HG HZ hb hp
    go_wp2_with fail
    refine X.mono ?_
    rintro e w1 ⟨rfl, b1⟩
    have B1 : Hid (Below w.heap.size w w1) := (show Below w.heap.size w w1 from HB.out.trans (b1.mono HB.out.size))
    clear X b1
    by_cases hz : z = 0
    · subst hz
      go_wp2_with fail
      go_wp2
      go_ret
      have e : m = R := HH.out.1 (.inl trivial)
      exact ⟨by rw [← e]; rfl, B1.out⟩
    · have hz' : ¬ (z : Int) = 0 := by omega
      have Y := letter_any (c : Int) w1 (HT.out.below B1.out).2
      go_wp2_with fail
      refine Y.mono ?_
      rintro e w2 ⟨rfl, b2⟩
      have B2 : Hid (Below w.heap.size w w2) := (show Below w.heap.size w w2 from B1.out.trans (b2.mono B1.out.size))
      clear Y b2
      by_cases hl : letB (c : Int) = b
      · have hq := HH.out.2 (fun h => h.elim hz (fun h => h hl))
        have HQ : Hid (ps s b (m + z) = R) := (show ps s b (m + z) = R from hq.1)
        have z1 : (m : Int) + (z : Int) ≤ (s.size : Int) := by omega
        have z2 : 0 < z := hq.2.1
        have hl' : (letB (c : Int) == b) = true := by rw [hl]; cases b <;> rfl
        clear hq
        generalize letB (c : Int) = L at hl hl' ⊢
        go_wp2
        go_light
        exact ⟨⟨m + z, by omega, by rw [Int.natCast_add], HQ.out, B2.out⟩, by simp [intOf]; omega⟩
      · have e : m = R := HH.out.1 (.inr hl)
        have hl' : (letB (c : Int) == b) = false := by simpa using hl
        generalize letB (c : Int) = L at hl hl' ⊢
        clear hl
        go_wp2
        go_ret
        exact ⟨by rw [← e]; rfl, B2.out⟩
end Go.Proofs.YthjfalbchkbdfaaDoor

/- A region that draws its order: what holds from some operation on may be held from there on. -/
namespace Go.Proofs.YthjfalbchkbdfaaDoor
open Go.RowKit Go.Deep

section
variable {P : Program} {md : Region.Mode} {l : List Oper} {Q : Exit → Act → World → Prop}
variable {S : World → Prop}
/-- two operations of which either may come up. -/
theorem take_pair {i j : Nat} {oi oj : Oper} {fuel : Nat} {listed : Array Bool} {a : Act} {w : World} (hi : l[i]? = some oi) (hj : l[j]? = some oj) (hr : Region.ready md l.toArray listed = [i, j])
    (hw : Region.wanted oi (yielded l.toArray a.tmps) = true) (hv : Region.wanted oj (yielded l.toArray a.tmps) = true)
    (h1 : ∀ K' : Act → World → Prop, Shut (∀ a w, S w → (S w → wpAnyH P md l.toArray Q S fuel (listed.setIfInBounds i true) a w) → K' a w) → Oper.wp P oi a w K' Q)
    (h2 : ∀ K' : Act → World → Prop, Shut (∀ a w, S w → (S w → wpAnyH P md l.toArray Q S fuel (listed.setIfInBounds j true) a w) → K' a w) → Oper.wp P oj a w K' Q) : wpAnyH P md l.toArray Q S (fuel + 1) listed a w :=
  wpAnyH_ready hr (by simp) (AllReadyH.cons ((list_toArray_get l i).trans hi) (fun K' hK => by rw [if_pos hw]; exact h1 K' hK)
    (AllReadyH.cons ((list_toArray_get l j).trans hj) (fun K' hK => by rw [if_pos hv]; exact h2 K' hK) AllReadyH.nil))
end
end Go.Proofs.YthjfalbchkbdfaaDoor

/- A range over a function that hands out a known list, whose rounds always go on. -/
namespace Go.Proofs.YthjfalbchkbdfaaDoor
open Go.RowKit Go.Shelf

/-- an iterator that hands out ys, and turns nothing itself. -/
def hands {α : Type} (n : Nat) (P : Program) (gf : Nat) (lb : Array Value) (encs : α → Array Value) (ys : List α) (w : World) : Prop :=
  ∀ (l : Nat) (J : Nat → World → Prop) (W : World), Below w.heap.size w W → (∀ k W, J k W → J k W.drew) → J 0 W →
    (∀ k (hk : k < ys.length) W1, J k W1 → YieldAt Fence.wide (n - 1) P l (encs ys[k]) W1 fun e W' => e = .returned (.bool true) ∧ J (k + 1) W') →
    CallsIn Fence.wide n P gf (#[.func (.yield l) #[] #[]] ++ lb) W fun e W' => (∃ v, e = .returned v) ∧ J ys.length W'

/-- behind a round's body: it goes on, what is no cells lies as it lay. -/
def goesOn (I : Nat → World → Prop) (k : Nat) (W : World) : Exit → Act → World → Prop
  | .normal, _, W' => KeepsOthers W W' ∧ I k W'
  | _, _, _ => False

end Go.Proofs.YthjfalbchkbdfaaDoor

/- A region in a round of a range over a function, by its plain walk; a range whose body keeps what the call has made. -/
namespace Go.Proofs.YthjfalbchkbdfaaDoor
open Go.RowKit Go.Shelf

/-- Q at the normal end alone. -/
def Calm (Q : Exit → Act → World → Prop) : Exit → Act → World → Prop
  | .normal, a, w => Q .normal a w
  | _, _, _ => False
theorem Calm.no {Q : Exit → Act → World → Prop} (h : LetsOut (Calm Q)) : False := by obtain ⟨_, _, h⟩ := h; exact h
def plainOp (o : Oper) : Bool := match o.op with | .defer _ => false | _ => true
section
variable {P : Program} {ops : Array Oper} {Q : Exit → Act → World → Prop} {S : World → Prop} {md : Region.Mode}
end
/-- append in a fence, by what its run comes to. -/
theorem wpListIn_append_run {F : Fence} {n : Nat} {P : Program} {ops : Array Oper} {rest : List Oper} {o : Oper} {a : Act} {w w' : World} {Q : Exit → Act → World → Prop} {v y r : Value} (hgd : o.guard = none) (s x : Operand) (t : TypeId)
    (ho : o.op = Op.call { callee := Callee.builtin Builtin.append, args := #[s, x], argTypes := #[t, t] }) (hs : a.eval s = v) (hx : a.eval x = y)
    (hr : (Builtin.append_ #[t, t] o.type #[v, y]).run P w = .ok r w') (h : wpListIn F n P ops Q rest (a.put o.dst r) w') : wpListIn F n P ops Q (o :: rest) a w := by
  refine wpListIn_plain hgd fun K hK' => ?_
  unfold Oper.wpIn
  refine ⟨?_, ?_⟩
  · simp [Oper.about, ho, resolve, Target.leads, Sem.run_pure]
  · rw [Oper.semAt_plain F _ _ (by rw [ho]; intro c hc'; cases hc')]
    simp [execOp, ho, resolve, invoke, builtin, hs, hx, hr, Result.andThen]
    exact hK' _ _ h
/-- behind a round's body: it goes on, the loop's two blocks lie as they lay. -/
def goesAt (D : Nat) (I : Nat → World → Prop) (k : Nat) (W : World) : Exit → Act → World → Prop
  | .normal, _, W' => W'.heap[D]? = W.heap[D]? ∧ W'.heap[D + 1]? = W.heap[D + 1]? ∧ I k W'
  | _, _, _ => False
end Go.Proofs.YthjfalbchkbdfaaDoor

/- A range over a function that goes on by itself between its rounds, and whose rounds go on, or leave the function. -/
namespace Go.Proofs.YthjfalbchkbdfaaDoor
set_option linter.unusedSimpArgs false
set_option linter.unusedVariables false
open Go.RowKit Go.Shelf

/-- an iterator that hands out ys, until it is told to stop; between the rounds it makes memory of its own at most. -/
def handsE {α : Type} (n : Nat) (P : Program) (gf : Nat) (lb : Array Value) (encs : α → Array Value) (ys : List α) (R : World → Prop) : Prop :=
  ∀ (l : Nat) (J Jx : Nat → World → Prop) (W : World), (∀ k W, J k W → R W) →
    (∀ k W W', J k W → Below W.heap.size W W' → J k W') → (∀ k W W', Jx k W → Below W.heap.size W W' → Jx k W') → J 0 W →
    (∀ k (hk : k < ys.length) W1, J k W1 → YieldAt Fence.wide (n - 1) P l (encs ys[k]) W1 fun e W' => (e = .returned (.bool true) ∧ J (k + 1) W') ∨ (e = .returned (.bool false) ∧ Jx k W')) →
    CallsIn Fence.wide n P gf (#[.func (.yield l) #[] #[]] ++ lb) W fun e W' => (∃ v, e = .returned v) ∧ (J ys.length W' ∨ ∃ k, k < ys.length ∧ Jx k W')

/-- behind a round's body: it goes on, or leaves the function; the loop's two blocks lie as they lay. -/
def goesX (D : Nat) (I Ix : Nat → World → Prop) (k : Nat) (W : World) : Exit → Act → World → Prop
  | .normal, _, W' => W'.heap[D]? = W.heap[D]? ∧ W'.heap[D + 1]? = W.heap[D + 1]? ∧ I (k + 1) W'
  | .ret, _, W' => W'.heap[D]? = W.heap[D]? ∧ W'.heap[D + 1]? = W.heap[D + 1]? ∧ Ix k W'
  | _, _, _ => False

theorem wpIn_range_stop {α : Type} {n : Nat} {P : Program} {g : Operand} {ps : Array Tmp} {assign body : Code} {Q : Exit → Act → World → Prop} {a : Act} {w : World}
    {gf : Nat} {lb : Array Value} (hg : a.eval g = .func (.func gf) #[] lb) (eg : ∀ args w, (callFunc gf args).run P w = .ok (.enter gf args) w)
    {encs : α → Array Value} {ys : List α} {R : World → Prop} (hseq : handsE (n - 1) P gf lb encs ys R) (hps : ∀ x, (encs x).size = ps.size)
    (I Ix : Nat → World → Prop) (hI : ∀ k W x y, I k W → W.heap[w.heap.size + 1]? = some (.loop x) → I k (W.putObj (w.heap.size + 1) (.loop y))) (hIx : ∀ k W x y, Ix k W → W.heap[w.heap.size + 1]? = some (.loop x) → Ix k (W.putObj (w.heap.size + 1) (.loop y)))
    (hR : ∀ k W, I k W → R W) (hg1 : ∀ k W W', I k W → Below W.heap.size W W' → I k W') (hg2 : ∀ k W W', Ix k W → Below W.heap.size W W' → Ix k W')
    (h0 : ∀ o o', I 0 ((w.alloc o).alloc o')) (a₁ : α → Act)
    (hassign : ∀ (l : Nat) (x : α) (W : World) (K : Act → World → Prop), K (a₁ x) W →
      assign.wpIn (Fence.wide.inRound l) (n - 1 - 1) P (Exit.then K (fun _ _ _ => False)) { tmps := (ps.zip (encs x)).foldl (fun t (p, v) => t.setIfInBounds p v) a.tmps, defers := [] } W)
    (hbody : ∀ (l k : Nat) (hk : k < ys.length) (W : World) (x : Loop), I k W → W.heap[w.heap.size]? = some (.deferred (some [])) → W.heap[w.heap.size + 1]? = some (.loop x) → body.wpIn (Fence.wide.inRound l) (n - 1 - 1) P (goesX w.heap.size I Ix k W) (a₁ ys[k]) W)
    (hdone : ∀ (W : World), I ys.length W → W.heap[w.heap.size]? = some (.deferred (some [])) → Q .normal { a with defers := { target := .collected w.heap.size, args := #[] } :: a.defers } W)
    (hstop : ∀ (k : Nat) (W : World), k < ys.length → Ix k W → W.heap[w.heap.size]? = some (.deferred (some [])) → Q .ret { a with defers := { target := .collected w.heap.size, args := #[] } :: a.defers } W) :
    (Code.rangeFunc g ps assign body).wpIn Fence.wide n P Q a w := by
  refine wpIn_rangeFunc fun fn hfn => ?_
  obtain ⟨mk, hmk⟩ : ∃ mk : LoopState → Option Code → Loop, mk = fun st pe => { state := st, pending := pe, fn, tmps := a.tmps, params := ps, assign, body, defers := w.heap.size } := ⟨_, rfl⟩
  obtain ⟨W1, hW1⟩ : ∃ W1, W1 = (w.alloc (.deferred (some []))).alloc (.loop (mk .ready none)) := ⟨_, rfl⟩
  have b1 : Below w.heap.size w W1 := by rw [hW1]; exact ((Below.refl _ _).alloc (Nat.le_refl _) _).alloc (by simp) _
  have c1 : W1.heap[w.heap.size + 1]? = some (.loop (mk .ready none)) := by
    rw [hW1]; have := World.alloc_heap_new (w.alloc (.deferred (some []))) (.loop (mk .ready none)); rwa [World.size_alloc] at this
  have d1 : W1.heap[w.heap.size]? = some (.deferred (some [])) := by
    rw [hW1]; exact (Below.heap_alloc _ _ _ (by simp)).trans (World.alloc_heap_new w _)
  have i1 : I 0 W1 := by rw [hW1]; exact h0 _ _
  refine ⟨w.heap.size + 1, [{ target := .collected w.heap.size, args := #[] }], W1, { target := .fn (.func gf) lb, args := #[.func (.yield (w.heap.size + 1)) #[] #[]] }, W1, gf, #[.func (.yield (w.heap.size + 1)) #[] #[]] ++ lb, W1, ?_, ?_, ?_, ?_, ?_, ?_⟩
  · rw [hW1, hmk]; exact run_enterLoop_outer _ _ _ _ _
  · simp only [resolve, hg]; simp [go_sem]
  · exact fun _ _ => trivial
  · simp [invoke, go_sem, eg]
  · exact fun h => absurd h (by simp [Fence.wide])
  · refine (hseq (w.heap.size + 1) (fun k W => I k W ∧ W.heap[w.heap.size + 1]? = some (.loop (mk .ready none)) ∧ W.heap[w.heap.size]? = some (.deferred (some [])))
      (fun k W => Ix k W ∧ W.heap[w.heap.size + 1]? = some (.loop (mk .done (some .ret))) ∧ W.heap[w.heap.size]? = some (.deferred (some []))) W1 (fun k W h => hR k W h.1)
      (fun k W W' h hb => ⟨hg1 k W W' h.1 hb, (hb.block _ (Array.getElem?_eq_some_iff.1 h.2.1).1).trans h.2.1, (hb.block _ (Array.getElem?_eq_some_iff.1 h.2.2).1).trans h.2.2⟩)
      (fun k W W' h hb => ⟨hg2 k W W' h.1 hb, (hb.block _ (Array.getElem?_eq_some_iff.1 h.2.1).1).trans h.2.1, (hb.block _ (Array.getElem?_eq_some_iff.1 h.2.2).1).trans h.2.2⟩) ⟨i1, c1, d1⟩ ?_).mono ?_
    · rintro k hk W ⟨hi, hl, hD⟩
      have hlt : w.heap.size + 1 < W.heap.size := (Array.getElem?_eq_some_iff.1 hl).1
      have hy := run_yield (P := P) (args := encs ys[k]) hl (by rw [hmk]; exact hps _)
      have hrec : mk .ready none = { state := .ready, pending := none, fn := fn, tmps := a.tmps, params := ps, assign := assign, body := body, defers := w.heap.size } := by rw [hmk]
      have hrec2 : mk .done (some .ret) = { state := .done, pending := some .ret, fn := fn, tmps := a.tmps, params := ps, assign := assign, body := body, defers := w.heap.size } := by rw [hmk]
      rw [hrec] at hy
      have hbg := run_beginRound (P := P) hl (by rw [hmk])
      obtain ⟨W2, hW2⟩ : ∃ W2, W2 = W.putObj (w.heap.size + 1) (.loop { mk .ready none with state := .busy }) := ⟨_, rfl⟩
      rw [← hW2] at hbg
      have l2 : W2.heap[w.heap.size + 1]? = some (.loop { mk .ready none with state := .busy }) := by rw [hW2]; exact World.putObj_heap_same hlt
      have e2 : W2.heap[w.heap.size]? = some (.deferred (some [])) := by rw [hW2]; exact (World.putObj_heap_other (by omega)).trans hD
      have i2 : I k W2 := by rw [hW2]; exact hI _ _ _ _ hi hl
      refine ⟨fn, _, assign, body, hy, roundIn_of_wpIn hfn (hassign _ ys[k] W _ ⟨W2, hbg, wpIn_mono (hbody _ k hk W2 _ i2 e2 l2) ?_⟩)⟩
      rintro e a3 W3 hp
      cases e with
      | normal =>
        obtain ⟨hkD, hkl, hi3⟩ := hp
        have l3 := hkl.trans l2
        have hen := run_endRound (P := P) none l3
        refine ⟨_, _, hen, .inl ⟨rfl, hI _ _ _ _ hi3 l3, ?_, (World.putObj_heap_other (by omega)).trans (hkD.trans e2)⟩⟩
        rw [World.putObj_heap_same (Array.getElem?_eq_some_iff.1 l3).1, hrec]; rfl
      | ret =>
        obtain ⟨hkD, hkl, hi3⟩ := hp
        have l3 := hkl.trans l2
        have hen := run_endRound (P := P) (some .ret) l3
        refine ⟨_, _, hen, .inr ⟨rfl, hIx _ _ _ _ hi3 l3, ?_, (World.putObj_heap_other (by omega)).trans (hkD.trans e2)⟩⟩
        rw [World.putObj_heap_same (Array.getElem?_eq_some_iff.1 l3).1, hrec, hrec2]; rfl
      | exit id => exact hp.elim
      | goto t => exact hp.elim
      | panic ch => exact hp.elim
      | outgrown => exact hp.elim
    · rintro e W2 ⟨⟨v, rfl⟩, ⟨hi, hl, hD⟩ | ⟨k, hk, hi, hl, hD⟩⟩
      · have hen := run_endLoop (P := P) hl (by rw [hmk]; simp)
        refine ⟨none, _, by rw [hmk] at hen; exact hen, ?_⟩
        exact hdone _ (hI _ _ _ _ hi hl) ((World.putObj_heap_other (by omega)).trans hD)
      · have hen := run_endLoop (P := P) hl (by rw [hmk]; simp)
        refine ⟨some .ret, _, by rw [hmk] at hen; exact hen, ?_⟩
        exact wpIn_ret (hstop k _ hk (hIx _ _ _ _ hi hl) ((World.putObj_heap_other (by omega)).trans hD))
end Go.Proofs.YthjfalbchkbdfaaDoor

/- One value in a block of its own. -/
namespace Go.Proofs.YthjfalbchkbdfaaDoor
open Go.RowKit Go.Deep

/-- a box. -/
def boxAt (w : World) (b : Nat) (t : TypeId) (u : Value) : Prop := w.rowIs b t 1 (fun _ => u)
theorem boxAt.new (w : World) (t : TypeId) (u : Value) : boxAt (w.alloc (.cells #[u] t)) w.heap.size t u := rowIs_new w _ t 1 _ rfl fun i hi => by
  obtain rfl : i = 0 := by omega
  rfl
theorem boxAt.cells {w : World} {b : Nat} {t : TypeId} {u : Value} (h : boxAt w b t u) : w.cell? ⟨b, 0, none⟩ = some u ∧ w.frozen? ⟨b, 0, none⟩ = false := ⟨World.rowIs.cell h (i := 0) (by omega), World.rowIs.frozen h 0⟩
theorem boxAt.lt {w : World} {b : Nat} {t : TypeId} {u : Value} (h : boxAt w b t u) : b < w.heap.size := by
  obtain ⟨c, h, _⟩ := h; exact (Array.getElem?_eq_some_iff.1 h).1
theorem boxAt.same {w w' : World} {b : Nat} {t : TypeId} {u : Value} (h : boxAt w b t u) (hb : w'.heap[b]? = w.heap[b]?) : boxAt w' b t u := World.rowIs.of_block h hb
theorem boxAt.below {w w' : World} {b : Nat} {t : TypeId} {u : Value} (h : boxAt w b t u) (hb : Below w.heap.size w w') : boxAt w' b t u := h.same (hb.block b h.lt)
theorem boxAt.set {w : World} {b : Nat} {t : TypeId} {u : Value} (h : boxAt w b t u) (u' : Value) : boxAt (w.setCell ⟨b, 0, none⟩ u') b t u' := (World.rowIs.set h 0 u').congr fun i hi => by rw [if_pos (by omega)]
theorem boxAt.other {w : World} {b b' : Nat} {t : TypeId} {u : Value} (h : boxAt w b t u) (hne : b ≠ b') (u' : Value) : boxAt (w.setCell ⟨b', 0, none⟩ u') b t u := h.same (blk_setCell_other _ _ _ _ hne)
theorem boxAt.put {w : World} {b b' : Nat} {t : TypeId} {u : Value} {x y : Loop} (h : boxAt w b t u) (hl : w.heap[b']? = some (.loop x)) : boxAt (w.putObj b' (.loop y)) b t u := h.same (World.putObj_heap_other fun e => by
  obtain ⟨c, hc, _⟩ := h; rw [e, hl] at hc; cases hc)
theorem boxAt.notLoop {w : World} {b D : Nat} {t : TypeId} {u : Value} {o : Obj} (h : boxAt w b t u) (hl : w.heap[D]? = some o) (ho : o.isCells = false) : D ≠ b := fun e => by
  obtain ⟨c, hc, _⟩ := h; rw [← e, hl] at hc; obtain rfl := Option.some.inj hc; cases ho
end Go.Proofs.YthjfalbchkbdfaaDoor

/- words.runs and its iterator. -/
namespace Go.Proofs.YthjfalbchkbdfaaDoor
set_option linter.unusedSimpArgs false
set_option linter.unusedVariables false
open Go.RowKit Go.Shelf Go.Deep
attribute [local go_sem] Oper.semAt_some

/-- what a round is handed: a place, and the run. -/
def runV (x : ByteArray × Nat) : Array Value := #[.int .i64 (x.2 : Int), .string x.1]
def runsL (s : ByteArray) : List (ByteArray × Nat) := (rl s).zipIdx
theorem runsL_length (s : ByteArray) : (runsL s).length = (rl s).length := by unfold runsL; rw [List.length_zipIdx]
theorem runsL_get (s : ByteArray) (k : Nat) (h : k < (runsL s).length) (h' : k < (rl s).length) : (runsL s)[k] = ((rl s)[k], k) := by
  show (rl s).zipIdx[k]'(by rw [List.length_zipIdx]; exact h') = _
  rw [List.getElem_zipIdx]; simp
set_option maxHeartbeats 4000000 in
set_option maxRecDepth 100000 in
theorem runs_any (s : ByteArray) (w : World) :
    Calls Tryd.prog 26 #[.string s] w fun e w' => ∃ p, e = .returned (.func (.func 36) #[] #[.pointer (some ⟨p, 0, none⟩)]) ∧ boxAt w' p 9 (.string s) ∧ p = w.heap.size ∧ Below w.heap.size w w' := by
  go_enter Tryd.func26, Tryd.ntmps26
  go_wp2
  go_ret
  exact ⟨w.heap.size, rfl, boxAt.new _ _ _, rfl, (Below.refl _ _).alloc (Nat.le_refl _) _⟩
set_option maxHeartbeats 4000000 in
set_option maxRecDepth 100000 in
theorem runs1_hands (n p : Nat) (s : ByteArray) (hs : s.size ≤ maxLen) :
    handsE n Tryd.prog 36 #[.pointer (some ⟨p, 0, none⟩)] runV (runsL s) (fun W => utT W ∧ W.cell? ⟨p, 0, none⟩ = some (.string s)) := by
  intro l J Jx W hB hJ hJx h0 hY
  have hm : (s.size : Int) ≤ 9223372036854775807 := by unfold maxLen at hs; omega
  have HR : Hid (∀ k W, J k W → utT W ∧ W.cell? ⟨p, 0, none⟩ = some (.string s)) := (show _ from fun k W h => hB k W h)
  have HY : Hid _ := hY
  have HJ : Hid _ := hJ
  have HX : Hid _ := hJx
  have J0 : Hid (J 0 W) := (show J 0 W from h0)
  have HM : Hid (s.size ≤ maxLen) := (show s.size ≤ maxLen from hs)
  clear hB hJ hJx h0 hY hs
  refine callsIn_of_wp Tryd.func36 rfl trivial ?_ rfl
  simp only [Tryd.ntmps36, List.size_toArray, List.length_cons, List.length_nil, Nat.reduceAdd, Nat.reduceSub, Array.replicate_succ, Array.replicate_zero, List.push_toArray, List.append_toArray, List.nil_append, List.cons_append]
  gi_wp2
  gi_loopw [3, 4] (fun x y wr => ∃ (k t : Nat), x = .int .i64 (t : Int) ∧ y = .int .i64 (k : Int) ∧ t ≤ s.size ∧ k ≤ t ∧ k ≤ (rl s).length ∧ (rl s).drop k = rlAt s t ∧ J k wr) (fun x _ _ => s.size - (intOf x).toNat)
  case atStart => exact ⟨0, 0, rfl, rfl, Nat.zero_le _, Nat.le_refl _, Nat.zero_le _, rfl, J0.out⟩
  case round =>
    obtain ⟨k, t, rfl, rfl, ht, hkt, hk, hdr, hj⟩ := hrel
    clear J0
    obtain ⟨hT, hc⟩ := HR.out k wr hj
    have X := past_any s HM.out t ht false wr hT
    have he1 := @rlAt_end s t
    have he2 := @rlAt_next s t
    have he3 := @run_pos s t ht
    obtain ⟨f, hf⟩ : ∃ f, f = ps s false t := ⟨_, rfl⟩
    rw [← hf] at X he1 he2 he3
    have hfl : f ≤ s.size := by rw [hf]; exact ps_le ht
    have HD : Hid ((rl s).drop k = rlAt s t) := (show _ from hdr)
    have HJ1 : Hid (J k wr) := (show J k wr from hj)
    have H1 : Hid _ := he1
    have H2 : Hid _ := he2
    have H3 : Hid _ := he3
    clear hdr hj hf he1 he2 he3 hT
    gi_wp2_with fail
    refine ⟨trivial, fun h => absurd h (by simp [Fence.wide]), (callsIn_wide.2 X).mono ?_⟩
    rintro e w1 ⟨rfl, b1⟩
    have hj1 := HJ.out k wr w1 HJ1.out b1
    obtain ⟨hT, hc⟩ := HR.out k w1 hj1
    have X2 := past_any s HM.out f hfl true w1 hT
    have hul : f ≤ ps s true f ∧ ps s true f ≤ s.size := ⟨ps_ge hfl, ps_le hfl⟩
    generalize ps s true f = u at X2 H1 H2 H3 hul
    have HJ2 : Hid (J k w1) := (show J k w1 from hj1)
    clear X hT b1 hj1 HJ1
    gi_wp2_with fail
    refine ⟨trivial, fun h => absurd h (by simp [Fence.wide]), (callsIn_wide.2 X2).mono ?_⟩
    rintro e w2 ⟨rfl, b2⟩
    have hj2 := HJ.out k w1 w2 HJ2.out b2
    obtain ⟨hT, hc⟩ := HR.out k w2 hj2
    have HJ3 : Hid (J k w2) := (show J k w2 from hj2)
    clear X2 hT b2 hj2 HJ2
    by_cases he : u = f
    · obtain rfl := he
      have hd := H1.out rfl
      have hke : k = (rl s).length := by
        have := List.drop_eq_nil_iff.1 (HD.out.trans hd)
        omega
      have HE : Hid (J (runsL s).length w2) := (show J (runsL s).length w2 from by rw [runsL_length, ← hke]; exact HJ3.out)
      clear hd hke HJ3
      gi_wp2
      refine ⟨fun _ _ => trivial, ?_⟩
      gi_wp2
      refine bodyPost_ret (results_none rfl _ _ _) rfl ?_
      exact ⟨⟨_, rfl⟩, .inl HE.out⟩
    · have hd := HD.out.trans (H2.out he)
      have hpos := H3.out he
      have hlt : k < (rl s).length := by
        by_cases e : k < (rl s).length
        · exact e
        · rw [List.drop_eq_nil_of_le (by omega)] at hd; cases hd
      have hcons := List.drop_eq_getElem_cons hlt
      have hx : (rl s)[k] = s.extract f u := (List.cons.inj (hcons.symm.trans hd)).1
      have htl : (rl s).drop (k + 1) = rlAt s u := (List.cons.inj (hcons.symm.trans hd)).2
      have hlt' : k < (runsL s).length := by rw [runsL_length]; exact hlt
      obtain ⟨fn, tmps, assign, body, hy, hRo⟩ := HY.out k hlt' w2 HJ3.out
      rw [runsL_get s k hlt' hlt, hx] at hy
      have hy' : (Instr.yield l #[.int .i64 (k : Int), .string (s.extract f u)]).run Tryd.prog w2 = .ok (.round l fn tmps assign body) w2 := hy
      have q1 : ¬ (f : Int) = (u : Int) := by omega
      have q2 : (f : Int) ≤ (u : Int) := by omega
      have q3 : (u : Int) ≤ (s.size : Int) := by omega
      have q4 : (0 : Int) ≤ (f : Int) := by omega
      have q5 : (k : Int) + 1 ≤ (s.size : Int) := by omega
      have HTL : Hid ((rl s).drop (k + 1) = rlAt s u) := (show _ from htl)
      have HLE : Hid _ := (show t < u ∧ u ≤ s.size ∧ k + 1 ≤ u ∧ k < (rl s).length from ⟨by omega, by omega, by omega, hlt⟩)
      clear hd hcons hx htl hlt hlt' hy hpos
      gi_wp2
      refine ⟨fun h => absurd h (by simp [Fence.wide]), hRo.mono ?_⟩
      rintro e W3 (⟨rfl, hJ3⟩ | ⟨rfl, hJ3⟩)
      · have HJ4 : Hid (J (k + 1) W3) := (show J (k + 1) W3 from hJ3)
        clear hJ3
        gi_wp2
        go_roundw
        case rel => exact ⟨k + 1, u, rfl, by go_num, HLE.out.2.1, HLE.out.2.2.1, HLE.out.2.2.2, HTL.out, HJ4.out⟩
        case measure => have := HLE.out; simp [intOf]; omega
      · have HJ4 : Hid (Jx k W3) := (show Jx k W3 from hJ3)
        clear hJ3
        gi_wp2
        refine bodyPost_ret (results_none rfl _ _ _) rfl ?_
        exact ⟨⟨_, rfl⟩, .inr ⟨k, by rw [runsL_length]; exact HLE.out.2.2.2, HJ4.out⟩⟩
end Go.Proofs.YthjfalbchkbdfaaDoor

/- words.Words. -/
namespace Go.Proofs.YthjfalbchkbdfaaDoor
set_option linter.unusedSimpArgs false
set_option linter.unusedVariables false
open Go.RowKit Go.Shelf Go.Deep
attribute [local go_sem] Oper.semAt_some

section
variable {P : Program} {fn : Func} {R : Ending → World → Prop} {a : Act} {w : World} {v : Value} {n : Nat}
theorem bodyPostM_ret (hr : (results fn a.tmps).run P w = .ok v w) (hd : a.defers = []) (hR : R (.returned v) w) : bodyPostM Fence.wide n P fn R .ret a w := by
  show LeavesInM Fence.wide n P fn a.tmps R a.defers .returning w
  rw [hd]
  exact ⟨v, hr, hR⟩
theorem bodyPostM_mark {D : Nat} (hd : a.defers = [{ target := .collected D, args := #[] }]) (hK : w.heap[D]? = some (.deferred (some []))) (hr : (results fn a.tmps).run P (w.putObj D (.deferred none)) = .ok v (w.putObj D (.deferred none))) (hR : R (.returned v) (w.putObj D (.deferred none))) : bodyPostM Fence.wide n P fn R .ret a w := by
  show LeavesInM Fence.wide n P fn a.tmps R a.defers .returning w
  rw [hd]
  exact ⟨by simp, .inl ⟨_, _, rfl, run_takeDeferred hK, ⟨v, hr, hR⟩⟩⟩
end
/-- the three boxes: the stop words, the two results. -/
def boxes3 (v : Value) (w : World) : World := ((w.alloc (.cells #[v] 22)).alloc (.cells #[.slice none 0 0] 25)).alloc (.cells #[.int .i64 0] 26)
theorem boxes3_is (v : Value) (w : World) : (boxes3 v w).heap.size = w.heap.size + 3 ∧ Below w.heap.size w (boxes3 v w) ∧
    boxAt (boxes3 v w) w.heap.size 22 v ∧ boxAt (boxes3 v w) (w.heap.size + 1) 25 (.slice none 0 0) ∧ boxAt (boxes3 v w) (w.heap.size + 1 + 1) 26 (.int .i64 0) := by
  unfold boxes3
  have al : ∀ (w : World) (o : Obj), Below w.heap.size w (w.alloc o) := fun w o => (Below.refl _ _).alloc (Nat.le_refl _) _
  have n1 := boxAt.new w 22 v
  have n2 := boxAt.new (w.alloc (.cells #[v] 22)) 25 (.slice none 0 0)
  have n3 := boxAt.new ((w.alloc (.cells #[v] 22)).alloc (.cells #[.slice none 0 0] 25)) 26 (.int .i64 0)
  refine ⟨by simp, (((Below.refl _ _).alloc (Nat.le_refl _) _).alloc (by simp) _).alloc (by simp; omega) _, (n1.below (al _ _)).below (al _ _), ?_, ?_⟩
  · have := n2.below (al _ (.cells #[.int .i64 0] 26))
    rwa [World.size_alloc] at this
  · rwa [World.size_alloc, World.size_alloc] at n3
/-- the two results, set. -/
theorem two_set {w : World} {b1 b2 : Nat} {t1 t2 : TypeId} {x y : Value} (h1 : boxAt w b1 t1 x) (h2 : boxAt w b2 t2 y) (hne : b1 ≠ b2) (u1 u2 : Value) :
    boxAt ((w.setCell ⟨b1, 0, none⟩ u1).setCell ⟨b2, 0, none⟩ u2) b1 t1 u1 ∧ boxAt ((w.setCell ⟨b1, 0, none⟩ u1).setCell ⟨b2, 0, none⟩ u2) b2 t2 u2 :=
  ⟨(h1.set u1).other hne u2, (h2.other hne.symm u1).set u2⟩
/-- behind k rounds. -/
def wordsI (s : ByteArray) (st : List ByteArray) (v : Value) (w : World) (b3 p D : Nat) (k : Nat) (W : World) : Prop :=
  Below w.heap.size w W ∧ boxAt W p 9 (.string s) ∧ boxAt W w.heap.size 22 v ∧ boxAt W (w.heap.size + 1) 25 (.slice none 0 0) ∧ boxAt W (w.heap.size + 1 + 1) 26 (.int .i64 0) ∧
  ∃ acc lv, boxAt W b3 25 lv ∧ newWords W (D + 2) lv acc ∧ acc.length ≤ k ∧ wGo st acc k ((rl s).drop k) = wGo st [] 0 (rl s)
/-- where a round leaves the function. -/
def wordsX (s : ByteArray) (st : List ByteArray) (w : World) (k : Nat) (W : World) : Prop :=
  Below w.heap.size w W ∧ ∃ e : Nat, boxAt W (w.heap.size + 1) 25 (.slice none 0 0) ∧ boxAt W (w.heap.size + 1 + 1) 26 (.int .i64 (e : Int)) ∧ wGo st [] 0 (rl s) = (e, [])
theorem newWords.notObj {W : World} {B D : Nat} {lv : Value} {acc : List (ByteArray × Nat)} {o : Obj} (h : newWords W B lv acc) (hl : W.heap[D]? = some o) (ho : o.isCells = false) : ∀ k, lv.ownBlock = some k → k ≠ D := by
  intro k hk e
  obtain ⟨_, h | ⟨g, cap, cur, rfl, hg, hbk, _⟩⟩ := h
  · rw [h.1] at hk; cases hk
  · obtain rfl : g = k := by simpa [Value.ownBlock] using hk
    rw [e, hl] at hbk
    obtain rfl := Option.some.inj hbk
    cases ho
theorem below_put {w W : World} {l : Nat} {o : Obj} (h : Below w.heap.size w W) (hl : w.heap.size ≤ l) : Below w.heap.size w (W.putObj l o) :=
  h.trans ⟨rfl, rfl, rfl, by simp [World.putObj], fun j hj => World.putObj_heap_other (by omega)⟩
theorem wordsI.put {s : ByteArray} {st : List ByteArray} {v : Value} {w : World} {b3 p D k : Nat} {W : World} {x y : Loop} (h : wordsI s st v w b3 p D k W) (hD : w.heap.size ≤ D) (hl : W.heap[D + 1]? = some (.loop x)) : wordsI s st v w b3 p D k (W.putObj (D + 1) (.loop y)) := by
  obtain ⟨h1, h2, h3, h4, h5, acc, lv, h6, h7, h8⟩ := h
  exact ⟨below_put h1 (by omega), h2.put hl, h3.put hl, h4.put hl, h5.put hl, acc, lv, h6.put hl, h7.far fun k hk => World.putObj_heap_other fun e => h7.notObj hl rfl k hk e, h8⟩
theorem wordsX.put {s : ByteArray} {st : List ByteArray} {w : World} {D k : Nat} {W : World} {x y : Loop} (h : wordsX s st w k W) (hD : w.heap.size ≤ D) (hl : W.heap[D + 1]? = some (.loop x)) : wordsX s st w k (W.putObj (D + 1) (.loop y)) := by
  obtain ⟨h1, e, h2, h3, h4⟩ := h
  exact ⟨below_put h1 (by omega), e, h2.put hl, h3.put hl, h4⟩
theorem wordsI.below {s : ByteArray} {st : List ByteArray} {v : Value} {w : World} {b3 p D k : Nat} {W W' : World} (h : wordsI s st v w b3 p D k W) (hb : Below W.heap.size W W') : wordsI s st v w b3 p D k W' := by
  obtain ⟨h1, h2, h3, h4, h5, acc, lv, h6, h7, h8⟩ := h
  exact ⟨h1.trans (hb.mono h1.size), h2.below hb, h3.below hb, h4.below hb, h5.below hb, acc, lv, h6.below hb, h7.far fun k hk => hb.block k (ownsRow_block h7 k hk).2, h8⟩
theorem wordsX.below {s : ByteArray} {st : List ByteArray} {w : World} {k : Nat} {W W' : World} (h : wordsX s st w k W) (hb : Below W.heap.size W W') : wordsX s st w k W' := by
  obtain ⟨h1, e, h2, h3, h4⟩ := h
  exact ⟨h1.trans (hb.mono h1.size), e, h2.below hb, h3.below hb, h4⟩
set_option maxHeartbeats 8000000 in
set_option maxRecDepth 100000 in
theorem words_any (s : ByteArray) (hs : s.size ≤ maxLen) (v : Value) (st : List ByteArray) (w : World) (hT : utT w) (hv : strsAt w v st) :
    Calls Tryd.prog 11 #[.string s, v] w fun e w' => ∃ rv, e = .returned (.tuple #[rv, .int .i64 ((wordsP s st).1 : Int)]) ∧ newWords w' w.heap.size rv (wordsP s st).2 ∧ Below w.heap.size w w' := by
  obtain ⟨va, vc, rfl, _⟩ := hv.slice
  obtain ⟨v, hve⟩ : ∃ v, v = Value.slice va st.length vc := ⟨_, rfl⟩
  rw [← hve] at hv
  obtain ⟨s1, b1, r1, r2, r3⟩ := boxes3_is v w
  obtain ⟨w1, hw1⟩ : ∃ w1, w1 = boxes3 v w := ⟨_, rfl⟩
  rw [← hw1] at s1 b1 r1 r2 r3
  have X := may_any s hs w1 (hT.below b1).1
  unfold boxes3 at hw1
  rw [hve] at hw1
  have HVE : Hid (v = Value.slice va st.length vc) := (show _ from hve)
  have HT : Hid (utT w) := (show utT w from hT)
  have HV : Hid (strsAt w v st) := (show strsAt w v st from hv)
  have HS : Hid (s.size ≤ maxLen) := (show _ from hs)
  have B1 : Hid (Below w.heap.size w w1) := (show _ from b1)
  have S1 : Hid (w1.heap.size = w.heap.size + 3) := (show _ from s1)
  have R1 : Hid (boxAt w1 w.heap.size 22 v) := (show _ from r1)
  have R2 : Hid (boxAt w1 (w.heap.size + 1) 25 (.slice none 0 0)) := (show _ from r2)
  have R3 : Hid (boxAt w1 (w.heap.size + 1 + 1) 26 (.int .i64 0)) := (show _ from r3)
  clear hT hv hs b1 s1 r1 r2 r3 hve
  refine (callsIn_wide (n := 3)).1 ?_
  refine callsIn_of_wp_marks Tryd.func11 rfl trivial ?_ rfl
  simp only [Tryd.ntmps11, List.size_toArray, List.length_cons, List.length_nil, Nat.reduceAdd, Nat.reduceSub, Array.replicate_succ, Array.replicate_zero, List.push_toArray, List.append_toArray, List.nil_append, List.cons_append]
  gi_wp2_with fail
  rw [← hw1]
  refine ⟨trivial, (callsIn_wide.2 X).mono ?_⟩
  rintro e w2 ⟨rfl, b2⟩
  clear X hw1
  have B2 : Hid (Below w.heap.size w w2) := (show _ from B1.out.trans (b2.mono B1.out.size))
  have Q1 : Hid (boxAt w2 w.heap.size 22 v) := (show _ from boxAt.below R1.out b2)
  have Q2 : Hid (boxAt w2 (w.heap.size + 1) 25 (.slice none 0 0)) := (show _ from boxAt.below R2.out b2)
  have Q3 : Hid (boxAt w2 (w.heap.size + 1 + 1) 26 (.int .i64 0)) := (show _ from boxAt.below R3.out b2)
  have SZ2 : Hid (w.heap.size + 3 ≤ w2.heap.size) := (show _ from Nat.le_trans (Nat.le_of_eq (Hid.out S1).symm) b2.size)
  clear b2 B1 S1 R1 R2 R3
  by_cases hf : fl s = s.size
  · have hd : decide (fl s = s.size) = true := decide_eq_true hf
    rw [hd]
    obtain ⟨w3, hw3⟩ : ∃ w3, w3 = w2.alloc (.cells #[.slice none 0 0] 25) := ⟨_, rfl⟩
    have XR := runs_any s w3
    gi_wp2_with fail
    rw [← hw3]
    refine ⟨trivial, (callsIn_wide.2 XR).mono ?_⟩
    rintro e w4 ⟨p, rfl, hp, hp3, b4⟩
    clear XR
    have b23 : Below w2.heap.size w2 w3 := by rw [hw3]; exact (Below.refl _ _).alloc (Nat.le_refl _) _
    have n3 : boxAt w3 w2.heap.size 25 (.slice none 0 0) := by rw [hw3]; exact boxAt.new _ _ _
    have b24 : Below w2.heap.size w2 w4 := b23.trans (b4.mono b23.size)
    have S4 : Hid (w2.heap.size + 1 ≤ w4.heap.size) := (show _ from by have h1 := b4.size; rw [hw3, World.size_alloc] at h1; exact h1)
    have B4 : Hid (Below w.heap.size w w4) := (show _ from B2.out.trans (b24.mono B2.out.size))
    have P1 : Hid (boxAt w4 w.heap.size 22 v) := (show _ from Q1.out.below b24)
    have P2 : Hid (boxAt w4 (w.heap.size + 1) 25 (.slice none 0 0)) := (show _ from Q2.out.below b24)
    have P3 : Hid (boxAt w4 (w.heap.size + 1 + 1) 26 (.int .i64 0)) := (show _ from Q3.out.below b24)
    have P4 : Hid (boxAt w4 w2.heap.size 25 (.slice none 0 0)) := (show _ from n3.below b4)
    have P5 : Hid (boxAt w4 p 9 (.string s)) := (show _ from hp)
    have PLT : Hid (p < w4.heap.size) := (show _ from hp.lt)
    have PNE : Hid (p ≠ w2.heap.size) := (show p ≠ w2.heap.size from by
      have h3 : w3.heap.size = w2.heap.size + 1 := by rw [hw3, World.size_alloc]
      omega)
    clear b23 n3 b24 b4 hp hp3 hw3 Q1 Q2 Q3
    have hD : w.heap.size + 3 ≤ w4.heap.size := Nat.le_trans SZ2.out (by have := S4.out; omega)
    have HD : Hid (w.heap.size + 3 ≤ w4.heap.size) := (show _ from hD)
    have hwp : wordsP s st = wGo st [] 0 (rl s) := by unfold wordsP; rw [if_pos hf]
    have HWP : Hid (wordsP s st = wGo st [] 0 (rl s)) := (show _ from hwp)
    clear hwp hD hf hd
    gi_wp2
    refine wpIn_range_stop (gf := 36) (lb := #[.pointer (some ⟨p, 0, none⟩)]) (encs := runV) (ys := runsL s) rfl (enters_of Tryd.func36 (by kernel_rfl) rfl) (runs1_hands 2 p s HS.out) (fun _ => rfl)
      (fun k W => wordsI s st v w w2.heap.size p w4.heap.size k W) (fun k W => wordsX s st w k W)
      (fun k W x y h hl => h.put (by have := HD.out; omega) hl) (fun k W x y h hl => h.put (by have := HD.out; omega) hl)
      (fun k W h => ⟨HT.out.below h.1, h.2.1.cells.1⟩) (fun k W W' h hb => h.below hb) (fun k W W' h hb => h.below hb) (fun o o' => ?start)
      (fun x => { tmps := #[.string s, .slice va st.length vc, undef, .pointer (some ⟨w.heap.size, 0, none⟩), .pointer (some ⟨w.heap.size + 1, 0, none⟩), .pointer (some ⟨w.heap.size + 1 + 1, 0, none⟩), .pointer (some ⟨w2.heap.size, 0, none⟩), .int .i64 (x.2 : Int), .string x.1, undef, .string s,
        .bool true, .bool false, .string s, .func (.func 36) #[] #[.pointer (some ⟨p, 0, none⟩)], .int .i64 (x.2 : Int), .string x.1, undef, undef, undef, undef, undef, undef, undef, undef, undef, undef, undef, undef, undef, undef, undef, undef, undef, undef], defers := [] }) ?assign ?body ?done ?stop
    case start =>
      have bb : Below w4.heap.size w4 ((w4.alloc o).alloc o') := ((Below.refl _ _).alloc (Nat.le_refl _) _).alloc (by simp) _
      exact ⟨B4.out.trans (bb.mono B4.out.size), boxAt.below P5.out bb, boxAt.below P1.out bb, boxAt.below P2.out bb, boxAt.below P3.out bb, [], _, boxAt.below P4.out bb, newWords.none _ _, Nat.le_refl _, rfl⟩
    case assign =>
      intro l x W K hK
      simp only [runV, List.zip_toArray, List.zip_cons_cons, List.zip_nil_left, List.zip_nil_right, List.foldl_toArray, List.foldl_cons, List.foldl_nil, List.setIfInBounds_toArray, List.set_cons_succ, List.set_cons_zero]
      gi_wp2
      exact hK
    case body =>
      rintro l k hk W x hI hDd hDl
      have hk' : k < (rl s).length := by rw [runsL_length] at hk; exact hk
      rw [runsL_get s k hk hk']
      have hcons := List.drop_eq_getElem_cons hk'
      have hmem : (rl s)[k] ∈ rl s := List.getElem_mem hk'
      generalize (rl s)[k] = r at hcons hmem ⊢
      have hrs : r.size ≤ maxLen := Nat.le_trans (rl_size hmem) HS.out
      have hm : (r.size : Int) ≤ 9223372036854775807 := by unfold maxLen at hrs; omega
      have hI2 := hI
      obtain ⟨h1, h2, h3, h4, h5, acc, lv, h6, h7, h8, h9⟩ := hI2
      rw [hcons, wGo] at h9
      obtain ⟨c1, f1⟩ := h4.cells
      obtain ⟨c2, f2⟩ := h5.cells
      have HI : Hid (wordsI s st v w w2.heap.size p w4.heap.size k W) := (show _ from hI)
      have H1 : Hid (Below w.heap.size w W) := (show _ from h1)
      have H4 : Hid (boxAt W (w.heap.size + 1) 25 (.slice none 0 0)) := (show _ from h4)
      have H5 : Hid (boxAt W (w.heap.size + 1 + 1) 26 (.int .i64 0)) := (show _ from h5)
      have HDd : Hid (W.heap[w4.heap.size]? = some (.deferred (some []))) := (show _ from hDd)
      have HDl : Hid (W.heap[w4.heap.size + 1]? = some (.loop x)) := (show _ from hDl)
      have out : ∀ (e : Nat) (a : Act), wGo st [] 0 (rl s) = (e, []) → goesX w4.heap.size (fun k W => wordsI s st v w w2.heap.size p w4.heap.size k W) (fun k W => wordsX s st w k W) k W .ret a ((W.setCell ⟨w.heap.size + 1, 0, none⟩ (.slice none 0 0)).setCell ⟨w.heap.size + 1 + 1, 0, none⟩ (.int .i64 (e : Int))) := fun e _ he => by
        obtain ⟨t1, t2⟩ := two_set h4 h5 (by omega) (.slice none 0 0) (.int .i64 (e : Int))
        have n1 := h4.notLoop hDd rfl
        have n2 := h5.notLoop hDd rfl
        have n3 := h4.notLoop hDl rfl
        have n4 := h5.notLoop hDl rfl
        exact ⟨(blk_setCell_other _ _ _ _ n2).trans (blk_setCell_other _ _ _ _ n1), (blk_setCell_other _ _ _ _ n4).trans (blk_setCell_other _ _ _ _ n3), (h1.setCell (p := ⟨_, 0, none⟩) (Nat.le_succ _) _).setCell (p := ⟨_, 0, none⟩) (Nat.le_trans (Nat.le_succ _) (Nat.le_succ _)) _, e, t1, t2, he⟩
      have OUT : Hid _ := out
      clear out
      by_cases g1 : 24 < r.size
      · rw [if_pos g1] at h9
        have H9 : Hid (wGo st [] 0 (rl s) = (3, [])) := (show _ from h9.symm)
        have g1' : (r.size : Int) > 24 := by omega
        clear h1 h2 h3 h4 h5 h6 h7 h8 h9 hI hDd hDl hcons hmem
        gi_wp2
        exact OUT.out 3 _ H9.out
      · rw [if_neg g1] at h9
        have g1' : ¬ (r.size : Int) > 24 := by omega
        by_cases g2 : 48 ≤ k
        · rw [if_pos g2] at h9
          have H9 : Hid (wGo st [] 0 (rl s) = (7, [])) := (show _ from h9.symm)
          have g2' : (k : Int) ≥ 48 := by omega
          clear h1 h2 h3 h4 h5 h6 h7 h8 h9 hI hDd hDl hcons hmem
          gi_wp2
          exact OUT.out 7 _ H9.out
        · rw [if_neg g2] at h9
          have g2' : ¬ (k : Int) ≥ 48 := by omega
          have XS := small_any r hrs W
          have H9 : Hid (wGo st (if inS st (smS r) then acc else acc ++ [(smS r, k)]) (k + 1) ((rl s).drop (k + 1)) = wGo st [] 0 (rl s)) := (show _ from h9)
          have H8 : Hid (acc.length ≤ k) := (show _ from h8)
          have H2 : Hid (boxAt W p 9 (.string s)) := (show _ from h2)
          have H3 : Hid (boxAt W w.heap.size 22 v) := (show _ from h3)
          have H7 : Hid (newWords W (w4.heap.size + 2) lv acc) := (show _ from h7)
          have H6 : Hid (boxAt W w2.heap.size 25 lv) := (show _ from h6)
          clear OUT h1 h2 h3 h4 h5 h6 h7 h8 h9 hI hDd hDl hcons hmem
          gi_wp2_with fail
          refine ⟨trivial, CallsIn.inRound l ((callsIn_wide.2 XS).mono ?_)⟩
          rintro e W1 ⟨rfl, bs⟩
          have bw : Below w.heap.size w W1 := H1.out.trans (bs.mono H1.out.size)
          have XC := scontains_any v st (smS r) W1 (HV.out.below bw)
          rw [HVE.out] at XC
          have c0 := (boxAt.below H3.out bs).cells.1
          rw [HVE.out] at c0
          have hD1 : W1.heap[w4.heap.size]? = W.heap[w4.heap.size]? := bs.block _ (Array.getElem?_eq_some_iff.1 HDd.out).1
          have hD2 : W1.heap[w4.heap.size + 1]? = W.heap[w4.heap.size + 1]? := bs.block _ (Array.getElem?_eq_some_iff.1 HDl.out).1
          have i2 := boxAt.below H2.out bs
          have i3 := boxAt.below H3.out bs
          have i4 := boxAt.below H4.out bs
          have i5 := boxAt.below H5.out bs
          have i6 := boxAt.below H6.out bs
          have i7 : newWords W1 (w4.heap.size + 2) lv acc := newWords.far H7.out fun k hk => bs.block k (ownsRow_block H7.out k hk).2
          have I2 : Hid (boxAt W1 p 9 (.string s)) := (show _ from i2)
          have I3 : Hid (boxAt W1 w.heap.size 22 v) := (show _ from i3)
          have I4 : Hid (boxAt W1 (w.heap.size + 1) 25 (.slice none 0 0)) := (show _ from i4)
          have I5 : Hid (boxAt W1 (w.heap.size + 1 + 1) 26 (.int .i64 0)) := (show _ from i5)
          have I6 : Hid (boxAt W1 w2.heap.size 25 lv) := (show _ from i6)
          have I7 : Hid (newWords W1 (w4.heap.size + 2) lv acc) := (show _ from i7)
          have BW : Hid (Below w.heap.size w W1) := (show _ from bw)
          have HD1 : Hid _ := hD1
          have HD2 : Hid _ := hD2
          clear XS bs bw hD1 hD2 i2 i3 i4 i5 i6 i7 c1 f1 c2 f2
          gi_wp2_with fail
          refine ⟨trivial, CallsIn.inRound l ((callsIn_wide.2 XC).mono ?_)⟩
          rintro e W2 ⟨rfl, hw⟩
          obtain rfl := hw.symm
          clear XC hw c0
          cases hin : inS st (smS r) with
          | true =>
            have H99 : Hid (wGo st acc (k + 1) ((rl s).drop (k + 1)) = wGo st [] 0 (rl s)) := (show wGo st acc (k + 1) ((rl s).drop (k + 1)) = wGo st [] 0 (rl s) from by have := H9.out; rw [if_pos hin] at this; exact this)
            clear hin
            gi_wp2
            exact ⟨HD1.out, HD2.out, BW.out, I2.out, I3.out, I4.out, I5.out, acc, lv, I6.out, I7.out, Nat.le_succ_of_le H8.out, H99.out⟩
          | false =>
            have H99 : Hid (wGo st (acc ++ [(smS r, k)]) (k + 1) ((rl s).drop (k + 1)) = wGo st [] 0 (rl s)) := (show wGo st (acc ++ [(smS r, k)]) (k + 1) ((rl s).drop (k + 1)) = wGo st [] 0 (rl s) from by have := H9.out; rw [if_neg (by rw [hin]; decide)] at this; exact this)
            clear hin
            generalize smS r = word at H99 ⊢
            obtain ⟨la, lc, rfl, _⟩ := ownsRow_slice I7.out
            have hsz : w4.heap.size + 2 ≤ W1.heap.size := (Array.getElem?_eq_some_iff.1 (HD2.out.trans HDl.out)).1
            obtain ⟨W3, hW3⟩ : ∃ W3, W3 = W1.alloc (.cells #[.string word, .int .i64 (k : Int)] 46) := ⟨_, rfl⟩
            have b3 : Below W1.heap.size W1 W3 := by rw [hW3]; exact (Below.refl _ _).alloc (Nat.le_refl _) _
            have n3 : W3.heap[W1.heap.size]? = some (.cells #[.string word, .int .i64 (k : Int)] 46 (0, 0)) := by rw [hW3]; exact World.alloc_heap_new _ _
            have o3 : newWords W3 (w4.heap.size + 2) (.slice la acc.length lc) acc := newWords.far I7.out fun k hk => b3.block k (ownsRow_block I7.out k hk).2
            obtain ⟨v', w8, hr8, ho8, hg8⟩ := words_append W3 (w4.heap.size + 2) _ acc o3 (word, k) W1.heap.size n3 (by have := H8.out; omega) (Nat.le_trans hsz b3.size)
            have far : ∀ j, j < w4.heap.size + 2 → w8.heap[j]? = W1.heap[j]? := fun j hj => (hg8.block j (by have := b3.size; omega) (fun e => by have := (ownsRow_block o3 j e.symm).1; omega)).trans (b3.block j (by omega))
            have hb3 : w2.heap.size < w4.heap.size := by have := S4.out; omega
            have l6 := boxAt.same I6.out (far w2.heap.size (by omega))
            obtain ⟨c3, f3⟩ := I6.out.cells
            obtain ⟨c8, f8⟩ := l6.cells
            have nl : ∀ j, v'.ownBlock = some j → j ≠ w2.heap.size := fun j hj => by have := (ownsRow_block ho8 j hj).1; omega
            have hw8 : Below w.heap.size w w8 := by
              refine (BW.out.trans (b3.mono BW.out.size)).grown hg8 (by have := BW.out.size; have := b3.size; omega) fun j hj => ?_
              have h1 := (ownsRow_block o3 j hj).1
              have h2 := HD.out
              omega
            have FIN : Hid ((w8.setCell ⟨w2.heap.size, 0, none⟩ v').heap[w4.heap.size]? = W.heap[w4.heap.size]? ∧ (w8.setCell ⟨w2.heap.size, 0, none⟩ v').heap[w4.heap.size + 1]? = W.heap[w4.heap.size + 1]? ∧ wordsI s st v w w2.heap.size p w4.heap.size (k + 1) (w8.setCell ⟨w2.heap.size, 0, none⟩ v')) := (show (w8.setCell ⟨w2.heap.size, 0, none⟩ v').heap[w4.heap.size]? = W.heap[w4.heap.size]? ∧ (w8.setCell ⟨w2.heap.size, 0, none⟩ v').heap[w4.heap.size + 1]? = W.heap[w4.heap.size + 1]? ∧ wordsI s st v w w2.heap.size p w4.heap.size (k + 1) (w8.setCell ⟨w2.heap.size, 0, none⟩ v') from by
              have h2 := SZ2.out
              have pne : p < w4.heap.size := PLT.out
              have q1 : w4.heap.size ≠ w2.heap.size := by omega
              have q2 : w4.heap.size + 1 ≠ w2.heap.size := by omega
              have q3 : w.heap.size ≠ w2.heap.size := by omega
              have q4 : w.heap.size + 1 ≠ w2.heap.size := by omega
              have q5 : w.heap.size + 1 + 1 ≠ w2.heap.size := by omega
              refine ⟨(blk_setCell_other _ _ _ _ q1).trans ((far _ (by omega)).trans HD1.out), (blk_setCell_other _ _ _ _ q2).trans ((far _ (by omega)).trans HD2.out), hw8.setCell (p := ⟨w2.heap.size, 0, none⟩) (by show w.heap.size ≤ w2.heap.size; omega) _,
                (boxAt.same I2.out (far p (by omega))).other PNE.out _, (boxAt.same I3.out (far _ (by omega))).other q3 _, (boxAt.same I4.out (far _ (by omega))).other q4 _, (boxAt.same I5.out (far _ (by omega))).other q5 _,
                acc ++ [(word, k)], v', l6.set v', newWords.far ho8 fun j hj => blk_setCell_other _ _ _ _ (nl j hj), by rw [List.length_append]; have := H8.out; simp; omega, H99.out⟩)
            have hdw : v'.cells = #[v'] := by
              obtain ⟨a', c', rfl, _⟩ := ownsRow_slice ho8
              rfl
            obtain ⟨va', vc', hv', _⟩ := ownsRow_slice ho8
            subst hv'
            clear hsz b3 n3 o3 ho8 hg8 far l6 nl hw8 hdw
            gi_wp2_with (gi_at_builtin; refine wpListIn_append_run rfl _ _ _ rfl rfl rfl (by rw [← hW3]; exact hr8) ?_)
            rw [List.length_append, List.length_singleton] at FIN
            exact FIN.out
    case done =>
      rintro W hI hK
      obtain ⟨h1, h2, h3, h4, h5, acc, lv, h6, h7, h8, h9⟩ := hI
      rw [runsL_length, List.drop_length] at h9
      obtain ⟨c1, f1⟩ := h4.cells
      obtain ⟨c2, f2⟩ := h5.cells
      obtain ⟨la, lc, rfl, _⟩ := ownsRow_slice h7
      obtain ⟨c3, f3⟩ := h6.cells
      have H1 : Hid (Below w.heap.size w W) := (show _ from h1)
      have H4 : Hid (boxAt W (w.heap.size + 1) 25 (.slice none 0 0)) := (show _ from h4)
      have H5 : Hid (boxAt W (w.heap.size + 1 + 1) 26 (.int .i64 0)) := (show _ from h5)
      have H7 : Hid (newWords W (w4.heap.size + 2) (.slice la acc.length lc) acc) := (show _ from h7)
      have HK : Hid (W.heap[w4.heap.size]? = some (.deferred (some []))) := (show _ from hK)
      have H9 : Hid ((0, acc) = wGo st [] 0 (rl s)) := (show _ from h9)
      clear h1 h2 h3 h4 h5 h6 h7 h8 h9 hK
      gi_wp2
      obtain ⟨t1, t2⟩ := two_set H4.out H5.out (by omega) (.slice la acc.length lc) (.int .i64 0)
      have hlt1 := boxAt.notLoop H4.out HK.out rfl
      have hlt2 := boxAt.notLoop H5.out HK.out rfl
      have hK' : ((W.setCell ⟨w.heap.size + 1, 0, none⟩ (.slice la acc.length lc)).setCell ⟨w.heap.size + 1 + 1, 0, none⟩ (.int .i64 0)).heap[w4.heap.size]? = some (.deferred (some [])) := (blk_setCell_other _ _ _ _ hlt2).trans ((blk_setCell_other _ _ _ _ hlt1).trans HK.out)
      have n7 : ∀ k, (Value.slice la acc.length lc).ownBlock = some k → k ≠ w.heap.size + 1 ∧ k ≠ w.heap.size + 1 + 1 := fun k hk => by
        have h1 := (ownsRow_block H7.out k hk).1
        have h2 := HD.out
        omega
      have b7 := (H1.out.setCell (p := ⟨w.heap.size + 1, 0, none⟩) (Nat.le_succ _) (.slice la acc.length lc)).setCell (p := ⟨w.heap.size + 1 + 1, 0, none⟩) (Nat.le_trans (Nat.le_succ _) (Nat.le_succ _)) (.int .i64 0)
      have o7 : newWords ((W.setCell ⟨w.heap.size + 1, 0, none⟩ (.slice la acc.length lc)).setCell ⟨w.heap.size + 1 + 1, 0, none⟩ (.int .i64 0)) (w4.heap.size + 2) (.slice la acc.length lc) acc := newWords.far H7.out fun k hk => (blk_setCell_other _ _ _ _ (n7 k hk).2).trans (blk_setCell_other _ _ _ _ (n7 k hk).1)
      generalize (W.setCell ⟨w.heap.size + 1, 0, none⟩ (.slice la acc.length lc)).setCell ⟨w.heap.size + 1 + 1, 0, none⟩ (.int .i64 0) = W9 at t1 t2 hK' b7 o7 ⊢
      have t1' := t1.same (w' := W9.putObj w4.heap.size (.deferred none)) (World.putObj_heap_other (t1.notLoop hK' rfl).symm)
      have t2' := t2.same (w' := W9.putObj w4.heap.size (.deferred none)) (World.putObj_heap_other (t2.notLoop hK' rfl).symm)
      have o8 : newWords (W9.putObj w4.heap.size (.deferred none)) w.heap.size (.slice la acc.length lc) acc := ownsRow_lower (newWords.far o7 fun k hk => World.putObj_heap_other (o7.notObj hK' rfl k hk)) (by have := HD.out; omega)
      refine bodyPostM_mark rfl hK' (results_plain2 rfl _ _ (w.heap.size + 1) (w.heap.size + 1 + 1) (.slice la acc.length lc) (.int .i64 0) _ _ rfl rfl Tryd.underlying25 Tryd.underlying26 rfl rfl t1'.cells.1 t2'.cells.1) ?_
      have hwp := HWP.out.trans H9.out.symm
      exact ⟨_, by rw [hwp]; rfl, by rw [hwp]; exact o8, below_put b7 (by have := HD.out; omega)⟩
    case stop =>
      rintro k W hk ⟨h1, e, h2, h3, h4⟩ hK
      have h2' := h2.same (w' := W.putObj w4.heap.size (.deferred none)) (World.putObj_heap_other (h2.notLoop hK rfl).symm)
      have h3' := h3.same (w' := W.putObj w4.heap.size (.deferred none)) (World.putObj_heap_other (h3.notLoop hK rfl).symm)
      refine bodyPostM_mark rfl hK (results_plain2 rfl _ _ (w.heap.size + 1) (w.heap.size + 1 + 1) (.slice none 0 0) (.int .i64 (e : Int)) _ _ rfl rfl Tryd.underlying25 Tryd.underlying26 rfl rfl h2'.cells.1 h3'.cells.1) ?_
      have hwp := HWP.out.trans h4
      exact ⟨_, by rw [hwp], by rw [hwp]; exact newWords.none _ _, below_put h1 (by have := HD.out; omega)⟩
  · have hd : decide (fl s = s.size) = false := decide_eq_false hf
    rw [hd]
    obtain ⟨c1, f1⟩ := Q2.out.cells
    obtain ⟨c2, f2⟩ := Q3.out.cells
    gi_wp2
    obtain ⟨t1, t2⟩ := two_set Q2.out Q3.out (by omega) (.slice none 0 0) (.int .i64 8)
    refine bodyPostM_ret (results_plain2 rfl _ _ (w.heap.size + 1) (w.heap.size + 1 + 1) (.slice none 0 0) (.int .i64 8) _ _ rfl rfl Tryd.underlying25 Tryd.underlying26 rfl rfl t1.cells.1 t2.cells.1) rfl ?_
    have hwp : wordsP s st = (8, []) := by unfold wordsP; rw [if_neg hf]
    exact ⟨_, by rw [hwp]; rfl, by rw [hwp]; exact newWords.none _ _, (B2.out.setCell (p := ⟨_, 0, none⟩) (Nat.le_succ _) _).setCell (p := ⟨_, 0, none⟩) (Nat.le_trans (Nat.le_succ _) (Nat.le_succ _)) _⟩
end Go.Proofs.YthjfalbchkbdfaaDoor

/- Layer 9, pure: runs by themselves, and of texts one behind the other. -/
namespace Go.Proofs.YthjfalbchkbdfaaDoor
set_option linter.unusedVariables false

/-- a blank between. -/
def blank : ByteArray := { data := #[32] }
end Go.Proofs.YthjfalbchkbdfaaDoor

/- Layer 9, pure: the error hangs on the runs alone; the words that are left. -/
namespace Go.Proofs.YthjfalbchkbdfaaDoor
set_option linter.unusedVariables false

def wErr : Nat → List ByteArray → Nat
  | _, [] => 0
  | i, r :: t => if 24 < r.size then 3 else if 48 ≤ i then 7 else wErr (i + 1) t
def wFil (st : List ByteArray) : Nat → List ByteArray → List (ByteArray × Nat)
  | _, [] => []
  | i, r :: t => if inS st (smS r) then wFil st (i + 1) t else (smS r, i) :: wFil st (i + 1) t
theorem wGo_is (st : List ByteArray) : ∀ (l : List ByteArray) (acc : List (ByteArray × Nat)) (i : Nat), wGo st acc i l = (wErr i l, if wErr i l = 0 then acc ++ wFil st i l else [])
  | [], acc, i => by simp [wGo, wErr, wFil]
  | r :: t, acc, i => by
    rw [wGo, wErr]
    by_cases h1 : 24 < r.size
    · rw [if_pos h1, if_pos h1]; rfl
    · rw [if_neg h1, if_neg h1]
      by_cases h2 : 48 ≤ i
      · rw [if_pos h2, if_pos h2]; rfl
      · rw [if_neg h2, if_neg h2, wGo_is st t _ (i + 1), wFil]
        by_cases h3 : inS st (smS r) = true
        · rw [if_pos h3, if_pos h3]
        · rw [if_neg h3, if_neg h3]
          congr 1
          split
          · simp
          · rfl
def errP (s : ByteArray) : Nat := if fl s = s.size then wErr 0 (rl s) else 8
theorem wordsP_is (s : ByteArray) (st : List ByteArray) : wordsP s st = (errP s, if errP s = 0 then wFil st 0 (rl s) else []) := by
  unfold wordsP errP
  by_cases h : fl s = s.size
  · rw [if_pos h, if_pos h, wGo_is]; simp
  · rw [if_neg h, if_neg h]; rfl
end Go.Proofs.YthjfalbchkbdfaaDoor

/- words.One. -/
namespace Go.Proofs.YthjfalbchkbdfaaDoor
set_option linter.unusedSimpArgs false
set_option linter.unusedVariables false
open Go.RowKit Go.Deep

theorem oneP_one {s : ByteArray} {st : List ByteArray} {x : ByteArray × Nat} (h : (wordsP s st).2 = [x]) : oneP s st = (x.1.toList == s.toList) := by
  have e : wordsP s st = (errP s, (wordsP s st).2) := by rw [wordsP_is]
  rw [h] at e
  have h0 : errP s = 0 := by
    by_cases e0 : errP s = 0
    · exact e0
    · rw [wordsP_is, if_neg e0] at h; cases h
  unfold oneP
  rw [e, h0]
  rfl
theorem oneP_else {s : ByteArray} {st : List ByteArray} (h : (wordsP s st).2.length ≠ 1) : oneP s st = false := by
  unfold oneP
  generalize wordsP s st = q at h
  obtain ⟨e, l⟩ := q
  match e, l, h with
  | 0, [x], h => exact absurd rfl h
  | 0, [], _ => rfl
  | 0, _ :: _ :: _, _ => rfl
  | e + 1, [], _ => rfl
  | e + 1, _ :: _, _ => rfl
/-- the first one of some words, in memory. -/
theorem wordRowAt.first {w : World} {v : Value} {x : ByteArray × Nat} (h : wordRowAt w v [x]) : ∃ g c, v = .slice (some ⟨g, 0, none⟩) 1 c ∧ 1 ≤ c ∧ w.cell? ⟨g, 0, none⟩ = some (.string x.1) ∧ w.cell? ⟨g, 1, none⟩ = some (.int .i64 (x.2 : Int)) := by
  obtain ⟨a, c, rfl, h1, _, h3⟩ := h
  obtain ⟨g, rfl, _, h4⟩ := h3 (by simp)
  exact ⟨g, c, rfl, h1, h4 0 x rfl⟩
set_option maxHeartbeats 4000000 in
set_option maxRecDepth 100000 in
theorem one_any (s : ByteArray) (hs : s.size ≤ maxLen) (v : Value) (st : List ByteArray) (w : World) (hT : utT w) (hv : strsAt w v st) :
    Calls Tryd.prog 15 #[.string s, v] w fun e w' => e = .returned (.bool (oneP s st)) ∧ Below w.heap.size w w' := by
  have X := words_any s hs v st w hT hv
  have H1 : Hid (∀ x, (wordsP s st).2 = [x] → oneP s st = (x.1.toList == s.toList)) := (show _ from fun x h => oneP_one h)
  have H2 : Hid ((wordsP s st).2.length ≠ 1 → oneP s st = false) := (show _ from oneP_else)
  have HL : Hid ((wordsP s st).2.length ≤ maxLen ∨ True) := (show _ from .inr trivial)
  generalize oneP s st = B at H1 H2 ⊢
  generalize wordsP s st = q at X H1 H2
  obtain ⟨er, l⟩ := q
  simp only at X H1 H2
  clear hT hv hs HL
  go_enter Tryd.func15, Tryd.ntmps15
  go_wp2_with fail
  refine X.mono ?_
  rintro e w1 ⟨rv, rfl, hn, b1⟩
  have ha := newWords.at hn
  have B1 : Hid (Below w.heap.size w w1) := (show _ from b1)
  clear X hn b1
  by_cases h1 : l.length = 1
  · obtain ⟨x, rfl⟩ := List.length_eq_one_iff.1 h1
    have hb := H1.out x rfl
    obtain ⟨g, c, rfl, hc, c0, _⟩ := ha.first
    obtain ⟨x1, x2⟩ := x
    simp only at c0 hb
    have HB : Hid (B = (x1.toList == s.toList)) := (show _ from hb)
    clear ha h1 hb H1 H2
    cases hq : (x1.toList == s.toList) with
    | true =>
      have HB' : Hid (B = true) := (show B = true from HB.out.trans hq)
      go_wp2
      go_ret
      exact ⟨by rw [HB'.out]; rfl, B1.out⟩
    | false =>
      have HB' : Hid (B = false) := (show B = false from HB.out.trans hq)
      go_wp2
      go_ret
      exact ⟨by rw [HB'.out]; rfl, B1.out⟩
  · have hb := H2.out h1
    obtain ⟨a, c, rfl, _, _, _⟩ := ha
    have h1' : ¬ (l.length : Int) = 1 := by omega
    have HB : Hid (B = false) := (show B = false from hb)
    clear hb H1 H2 h1
    go_wp2
    go_ret
    exact ⟨by rw [HB.out]; rfl, B1.out⟩
end Go.Proofs.YthjfalbchkbdfaaDoor

/- The document's Words, One. -/
namespace Go.Proofs.YthjfalbchkbdfaaDoor
set_option linter.unusedSimpArgs false
set_option linter.unusedVariables false
open Go.RowKit Go.Deep

theorem newWords.slice {w : World} {B : Nat} {v : Value} {l : List (ByteArray × Nat)} (h : newWords w B v l) : ∃ a c, v = .slice a l.length c := by
  obtain ⟨a, c, rfl, _⟩ := ownsRow_slice h; exact ⟨a, c, rfl⟩
set_option maxHeartbeats 8000000 in
set_option maxRecDepth 100000 in
theorem rwords_any (s : ByteArray) (hs : s.size ≤ 900000) (v : Value) (st : List ByteArray) (w : World) (hv : strsAt w v st) :
    Calls Tryd.prog 12 #[.string s, v] w fun e w' => ∃ rv, e = .returned (.tuple #[rv, .int .i64 ((wordsP s st).1 : Int)]) ∧ newWords w' w.heap.size rv (wordsP s st).2 ∧ Below w.heap.size w w' := by
  obtain ⟨va, vc, rfl, hvc, _, _, _⟩ := hv.slice
  have HS : Hid (s.size ≤ 900000) := (show _ from hs)
  have X := rmay_any s (by unfold maxLen; omega) w
  have HV : Hid (strsAt w (.slice va st.length vc) st) := (show _ from hv)
  clear hv hs
  go_enter Tryd.func12, Tryd.ntmps12
  go_wp2_with fail
  refine X.mono ?_
  rintro e w1 ⟨rfl, b1⟩
  have B1 : Hid (Below w.heap.size w w1) := (show _ from b1)
  clear X b1
  by_cases hf : fl s = s.size
  · have XR := rwruns_any s HS.out hf w1
    have hd : decide (fl s = s.size) = true := decide_eq_true hf
    have hwp : wordsP s st = wGo st [] 0 (rl s) := by unfold wordsP; rw [if_pos hf]
    have HWP : Hid (wordsP s st = wGo st [] 0 (rl s)) := (show _ from hwp)
    rw [hd]
    clear hf hwp hd
    go_wp2_with fail
    refine XR.mono ?_
    rintro e w2 ⟨lv, rfl, hn, b2⟩
    clear XR
    have B2 : Hid (Below w.heap.size w w2) := (show Below w.heap.size w w2 from B1.out.trans (b2.mono B1.out.size))
    have hat := hn.at
    obtain ⟨la, lc, rfl, hlc, _, hl, hrow⟩ := hat.slice
    rw [List.length_map] at *
    have hll := rl_length s
    have hs9 := HS.out
    have hm : ((rl s).length : Int) ≤ 9223372036854775807 := by omega
    have HLL : Hid ((rl s).length ≤ 900000) := (show (rl s).length ≤ 900000 from by omega)
    have HR : Hid _ := hrow
    clear hn hat hrow b2 hl hs9 hll
    go_wp2
    go_loopw [7, 8] (fun x i wr => ∃ (j : Nat) (acc : List (ByteArray × Nat)), i = .int .i64 (j : Int) ∧ j ≤ (rl s).length ∧ newWords wr w2.heap.size x acc ∧ acc.length ≤ j ∧ wGo st acc j ((rl s).drop j) = wGo st [] 0 (rl s) ∧ Below w2.heap.size w2 wr) (fun _ i _ => (rl s).length - (intOf i).toNat)
    case atStart => exact ⟨0, [], rfl, Nat.zero_le _, newWords.none _ _, Nat.le_refl _, rfl, Below.refl _ _⟩
    case round =>
      obtain ⟨j, acc, rfl, hj, hn, hal, hgo, hb⟩ := hrel
      obtain ⟨xa, xc, hx⟩ := hn.slice
      subst hx
      have HN : Hid (newWords wr w2.heap.size (.slice xa acc.length xc) acc) := (show _ from hn)
      have HB : Hid (Below w2.heap.size w2 wr) := (show _ from hb)
      have j0 : (0 : Int) ≤ (j : Int) := by omega
      have HA : Hid (acc.length ≤ j) := (show _ from hal)
      by_cases hlt : j < (rl s).length
      · have hlt' : (j : Int) < ((rl s).length : Int) := by omega
        obtain ⟨pb, po, rfl, hpb, hcell⟩ := HR.out (by omega)
        have hg : ((rl s).map smS)[j]? = some (smS (rl s)[j]) := by rw [List.getElem?_map, List.getElem?_eq_getElem hlt]; rfl
        obtain ⟨hc0, hcs⟩ := hcell j _ hg
        have hc := (hb.cell (p := ⟨pb, po + j, none⟩) hpb).trans hc0
        rw [List.drop_eq_getElem_cons hlt, wGo] at hgo
        have hsz : ((rl s)[j]).size = (smS (rl s)[j]).size := by rw [smS_size]
        rw [hsz] at hgo
        generalize smS (rl s)[j] = q at hc hgo hcs
        have PB : Hid (pb < w2.heap.size) := (show _ from hpb)
        clear hg hc0 hcell hn hb hal hpb hsz hj
        by_cases g1 : 24 < q.size
        · rw [if_pos g1] at hgo
          have H9 : Hid (wordsP s st = (3, [])) := (show wordsP s st = (3, []) from HWP.out.trans hgo.symm)
          have g1' : (q.size : Int) > 24 := by omega
          clear hgo
          go_wp2
          refine bodyPost_ret (results_tmp2 rfl _ _ _) rfl ?_
          exact ⟨_, by rw [H9.out]; rfl, by rw [H9.out]; exact newWords.none _ _, B2.out.trans (HB.out.mono B2.out.size)⟩
        · rw [if_neg g1] at hgo
          have g1' : ¬ (q.size : Int) > 24 := by omega
          by_cases g2 : 48 ≤ j
          · rw [if_pos g2] at hgo
            have H9 : Hid (wordsP s st = (7, [])) := (show wordsP s st = (7, []) from HWP.out.trans hgo.symm)
            have g2' : (j : Int) ≥ 48 := by omega
            clear hgo
            go_wp2
            refine bodyPost_ret (results_tmp2 rfl _ _ _) rfl ?_
            exact ⟨_, by rw [H9.out]; rfl, by rw [H9.out]; exact newWords.none _ _, B2.out.trans (HB.out.mono B2.out.size)⟩
          · rw [if_neg g2] at hgo
            have g2' : ¬ (j : Int) ≥ 48 := by omega
            have HG : Hid (wGo st (if inS st q then acc else acc ++ [(q, j)]) (j + 1) ((rl s).drop (j + 1)) = wGo st [] 0 (rl s)) := (show _ from hgo)
            have XI := rin_any (.slice va st.length vc) st q wr (HV.out.below (B2.out.trans (HB.out.mono B2.out.size)))
            clear hgo
            go_wp2_with fail
            refine XI.mono ?_
            rintro e w3 ⟨rfl, hw3⟩
            obtain rfl := hw3.symm
            clear XI hw3
            cases hin : inS st q with
            | true =>
              have HG2 : Hid (wGo st acc (j + 1) ((rl s).drop (j + 1)) = wGo st [] 0 (rl s)) := (show wGo st acc (j + 1) ((rl s).drop (j + 1)) = wGo st [] 0 (rl s) from by have := HG.out; rw [if_pos hin] at this; exact this)
              clear hin
              go_wp2
              go_light
              exact ⟨⟨j + 1, acc, by go_num, by omega, HN.out, by have := HA.out; omega, HG2.out, HB.out⟩, by simp [intOf]; omega⟩
            | false =>
              have HG2 : Hid (wGo st (acc ++ [(q, j)]) (j + 1) ((rl s).drop (j + 1)) = wGo st [] 0 (rl s)) := (show wGo st (acc ++ [(q, j)]) (j + 1) ((rl s).drop (j + 1)) = wGo st [] 0 (rl s) from by have := HG.out; rw [if_neg (by rw [hin]; decide)] at this; exact this)
              obtain ⟨w4, hw4⟩ : ∃ w4, w4 = wr.alloc (.cells #[.string q, .int .i64 (j : Int)] 46) := ⟨_, rfl⟩
              have b4 : Below wr.heap.size wr w4 := by rw [hw4]; exact (Below.refl _ _).alloc (Nat.le_refl _) _
              have n4 : w4.heap[wr.heap.size]? = some (.cells #[.string q, .int .i64 (j : Int)] 46 (0, 0)) := by rw [hw4]; exact World.alloc_heap_new _ _
              have o4 : newWords w4 w2.heap.size (.slice xa acc.length xc) acc := newWords.far HN.out fun k hk => b4.block k (ownsRow_block HN.out k hk).2
              obtain ⟨v', w8, hr8, ho8, hg8⟩ := words_append w4 w2.heap.size _ acc o4 (q, j) wr.heap.size n4 (by have := HA.out; have := HLL.out; omega) (Nat.le_trans HB.out.size b4.size)
              have b8 : Below w2.heap.size w2 w8 := (HB.out.trans (b4.mono HB.out.size)).grown hg8 (Nat.le_trans HB.out.size b4.size) fun k hk => (ownsRow_block o4 k hk).1
              obtain ⟨va8, vc8, hv8⟩ := ho8.slice
              subst hv8
              rw [List.length_append, List.length_singleton] at ho8 hr8
              have H8 : Hid (newWords w8 w2.heap.size (.slice va8 (acc.length + 1) vc8) (acc ++ [(q, j)])) := (show _ from ho8)
              have B8 : Hid (Below w2.heap.size w2 w8) := (show _ from b8)
              clear hin b4 n4 o4 ho8 hg8 b8
              go_wp2_with (at_builtin; refine wpList_append_run rfl _ _ _ rfl rfl rfl (by rw [← hw4]; exact hr8) ?_)
              go_light
              exact ⟨⟨j + 1, acc ++ [(q, j)], by go_num, by omega, H8.out, by have := HA.out; simp; omega, HG2.out, B8.out⟩, by simp [intOf]; omega⟩
      · obtain rfl : j = (rl s).length := by omega
        rw [List.drop_length, wGo] at hgo
        have H9 : Hid (wordsP s st = (0, acc)) := (show wordsP s st = (0, acc) from HWP.out.trans hgo.symm)
        clear hn hb hal hgo
        go_wp2
        refine bodyPost_ret (results_tmp2 rfl _ _ _) rfl ?_
        exact ⟨_, by rw [H9.out]; rfl, by rw [H9.out]; exact ownsRow_lower HN.out B2.out.size, B2.out.trans (HB.out.mono B2.out.size)⟩
  · have hd : decide (fl s = s.size) = false := decide_eq_false hf
    have hwp : wordsP s st = (8, []) := by unfold wordsP; rw [if_neg hf]
    have HWP : Hid (wordsP s st = (8, [])) := (show _ from hwp)
    rw [hd]
    clear hf hwp hd
    go_wp2
    refine bodyPost_ret (results_tmp2 rfl _ _ _) rfl ?_
    exact ⟨_, by rw [HWP.out]; rfl, by rw [HWP.out]; exact newWords.none _ _, B1.out⟩
set_option maxHeartbeats 4000000 in
set_option maxRecDepth 100000 in
theorem rone_any (s : ByteArray) (hs : s.size ≤ 900000) (v : Value) (st : List ByteArray) (w : World) (hv : strsAt w v st) :
    Calls Tryd.prog 16 #[.string s, v] w fun e w' => e = .returned (.bool (oneP s st)) ∧ Below w.heap.size w w' := by
  have X := rwords_any s hs v st w hv
  have H0 : Hid ((wordsP s st).1 ≠ 0 → oneP s st = false) := (show (wordsP s st).1 ≠ 0 → oneP s st = false from fun h => by
    unfold oneP
    generalize wordsP s st = q at h
    obtain ⟨e, l⟩ := q
    cases e with
    | zero => exact absurd rfl h
    | succ e => rfl)
  have H1 : Hid (∀ x, (wordsP s st).2 = [x] → oneP s st = (x.1.toList == s.toList)) := (show _ from fun x h => oneP_one h)
  have H2 : Hid ((wordsP s st).2.length ≠ 1 → oneP s st = false) := (show _ from oneP_else)
  have HE : Hid ((wordsP s st).1 ≠ 0 → (wordsP s st).2 = []) := (show (wordsP s st).1 ≠ 0 → (wordsP s st).2 = [] from fun h => by
    rw [wordsP_is] at h ⊢
    simp only at h ⊢
    rw [if_neg h])
  generalize oneP s st = B at H0 H1 H2 ⊢
  generalize wordsP s st = q at X H0 H1 H2 HE
  obtain ⟨er, l⟩ := q
  simp only at X H0 H1 H2 HE
  clear hv hs
  go_enter Tryd.func16, Tryd.ntmps16
  go_wp2_with fail
  refine X.mono ?_
  rintro e w1 ⟨rv, rfl, hn, b1⟩
  have ha := newWords.at hn
  have B1 : Hid (Below w.heap.size w w1) := (show _ from b1)
  clear X hn b1
  by_cases h0 : er = 0
  · subst h0
    by_cases h1 : l.length = 1
    · obtain ⟨x, rfl⟩ := List.length_eq_one_iff.1 h1
      have hb := H1.out x rfl
      obtain ⟨g, c, rfl, hc, c0, _⟩ := ha.first
      obtain ⟨x1, x2⟩ := x
      simp only at c0 hb
      have HB : Hid (B = (x1.toList == s.toList)) := (show _ from hb)
      clear ha h1 hb H0 H1 H2 HE
      cases hq : (x1.toList == s.toList) with
      | true =>
        have HB' : Hid (B = true) := (show B = true from HB.out.trans hq)
        go_wp2
        go_ret
        exact ⟨by rw [HB'.out]; rfl, B1.out⟩
      | false =>
        have HB' : Hid (B = false) := (show B = false from HB.out.trans hq)
        go_wp2
        go_ret
        exact ⟨by rw [HB'.out]; rfl, B1.out⟩
    · have hb := H2.out h1
      obtain ⟨a, c, rfl, _, _, _⟩ := ha
      have h1' : ¬ (l.length : Int) = 1 := by omega
      have HB : Hid (B = false) := (show B = false from hb)
      clear hb H0 H1 H2 HE h1
      go_wp2
      go_ret
      exact ⟨by rw [HB.out]; rfl, B1.out⟩
  · have hb := H0.out h0
    obtain ⟨a, c, rfl, _, _, _⟩ := ha
    have h0' : ¬ (er : Int) = 0 := by omega
    have HB : Hid (B = false) := (show B = false from hb)
    clear hb H0 H1 H2 HE h0
    go_wp2
    go_ret
    exact ⟨by rw [HB.out]; rfl, B1.out⟩
end Go.Proofs.YthjfalbchkbdfaaDoor

/- words.MayStops. -/
namespace Go.Proofs.YthjfalbchkbdfaaDoor
set_option linter.unusedSimpArgs false
set_option linter.unusedVariables false
open Go.RowKit Go.Deep

/-- may a stop word stand at its place? -/
def mayA (one : Bool) (i : Nat) (p x : ByteArray) : Bool := one && (decide (i = 0) || Op.bytesLess p.toList x.toList)
def maySt (st : List ByteArray) (i : Nat) : Bool := mayA (oneP (st.getD i ByteArray.empty) []) i (st.getD (i - 1) ByteArray.empty) (st.getD i ByteArray.empty)
def mayP (st : List ByteArray) : Bool := decide (st.length ≤ 32) && (List.range st.length).all (maySt st)
theorem mayP_much {st : List ByteArray} (h : ¬ st.length ≤ 32) : mayP st = false := by unfold mayP; rw [decide_eq_false h]; rfl
theorem mayP_no {st : List ByteArray} {i : Nat} (hi : i < st.length) (h : maySt st i = false) : mayP st = false := by
  have e : (List.range st.length).all (maySt st) = false := by
    rw [Bool.eq_false_iff]
    intro hc
    have := List.all_eq_true.1 hc i (List.mem_range.2 hi)
    rw [h] at this
    cases this
  unfold mayP
  rw [e]
  exact Bool.and_false _
theorem mayP_yes {st : List ByteArray} (h : st.length ≤ 32) (ha : ∀ i, i < st.length → maySt st i = true) : mayP st = true := by
  unfold mayP
  rw [decide_eq_true h, List.all_eq_true.2 fun i hi => ha i (List.mem_range.1 hi)]; rfl
set_option maxHeartbeats 8000000 in
set_option maxRecDepth 100000 in
theorem mayStops_any (v : Value) (st : List ByteArray) (w : World) (hT : utT w) (hv : strsAt w v st) :
    Calls Tryd.prog 17 #[v] w fun e w' => e = .returned (.bool (mayP st)) ∧ Below w.heap.size w w' := by
  obtain ⟨va, vc, rfl, hvc, _, hl, hrow⟩ := hv.slice
  have hm : (st.length : Int) ≤ 9223372036854775807 := by unfold maxLen at hl; omega
  have M1 : Hid (¬ st.length ≤ 32 → mayP st = false) := (show _ from mayP_much)
  have M2 : Hid (∀ i, i < st.length → maySt st i = false → mayP st = false) := (show _ from fun i hi h => mayP_no hi h)
  have M3 : Hid (st.length ≤ 32 → (∀ i, i < st.length → maySt st i = true) → mayP st = true) := (show _ from mayP_yes)
  generalize mayP st = B at M1 M2 M3 ⊢
  have HT : Hid (utT w) := (show utT w from hT)
  have HR : Hid _ := hrow
  clear hT hv hrow hl
  go_enter Tryd.func17, Tryd.ntmps17
  by_cases h32 : st.length ≤ 32
  · have h32' : ¬ (st.length : Int) > 32 := by omega
    go_wp2
    go_loopw [10] (fun i wr => ∃ j : Nat, j ≤ st.length ∧ i = .int .i64 (j : Int) ∧ (∀ k, k < j → maySt st k = true) ∧ Below w.heap.size w wr) (fun i _ => st.length - (intOf i).toNat)
    case atStart => exact ⟨0, Nat.zero_le _, rfl, fun k h => absurd h (Nat.not_lt_zero k), Below.refl _ _⟩
    case round =>
      obtain ⟨j, hj, rfl, hall, hb⟩ := hrel
      have HA : Hid (∀ k, k < j → maySt st k = true) := (show _ from hall)
      have HB : Hid (Below w.heap.size w wr) := (show _ from hb)
      have j0 : (0 : Int) ≤ (j : Int) := by omega
      clear hall
      by_cases hlt : j < st.length
      · obtain ⟨pb, po, rfl, hpb, hcell⟩ := HR.out (by omega)
        have cellAt : ∀ i, i < st.length → wr.cell? ⟨pb, po + i, none⟩ = some (.string (st.getD i ByteArray.empty)) ∧ (st.getD i ByteArray.empty).size ≤ maxLen := fun i hi => by
          have h1 := hcell i (st.getD i ByteArray.empty) (by rw [List.getD_eq_getElem?_getD, List.getElem?_eq_getElem hi]; rfl)
          exact ⟨(hb.cell (p := ⟨pb, po + i, none⟩) hpb).trans h1.1, h1.2⟩
        obtain ⟨cj, sj⟩ := cellAt j hlt
        have XO := one_any (st.getD j ByteArray.empty) sj (.slice none 0 0) [] wr (HT.out.below hb) (.inl ⟨rfl, rfl⟩)
        have hS : maySt st j = mayA (oneP (st.getD j ByteArray.empty) []) j (st.getD (j - 1) ByteArray.empty) (st.getD j ByteArray.empty) := rfl
        have CA : Hid _ := cellAt
        obtain ⟨one, hone⟩ : ∃ one, one = oneP (st.getD j ByteArray.empty) [] := ⟨_, rfl⟩
        rw [← hone] at XO hS
        obtain ⟨x, hx⟩ : ∃ x, x = st.getD j ByteArray.empty := ⟨_, rfl⟩
        rw [← hx] at XO hS cj
        obtain ⟨y, hy⟩ : ∃ y, y = st.getD (j - 1) ByteArray.empty := ⟨_, rfl⟩
        rw [← hy] at hS
        have HS : Hid (maySt st j = mayA one j y x) := (show _ from hS)
        have HY : Hid (y = st.getD (j - 1) ByteArray.empty) := (show _ from hy)
        have j1 : (j : Int) < (st.length : Int) := by omega
        have cjl : ∀ z : Nat, z = po + j → wr.cell? ⟨pb, z, none⟩ = some (.string x) := fun z hz => by rw [hz]; exact cj
        clear hcell cellAt hone hx hy hS sj
        go_wp2_with fail
        refine XO.mono ?_
        rintro e w1 ⟨rfl, b1⟩
        have B1 : Hid (Below w.heap.size w w1) := (show _ from HB.out.trans (b1.mono HB.out.size))
        have BB : Hid (Below wr.heap.size wr w1) := (show _ from b1)
        clear XO b1 cj cjl hb
        cases one with
        | false =>
          have hr : B = false := M2.out j hlt HS.out
          go_wp2
          go_ret
          exact ⟨by rw [hr]; rfl, B1.out⟩
        | true =>
          by_cases hj0 : j = 0
          · have hr : maySt st j = true := by rw [HS.out, hj0]; rfl
            have HR2 : Hid (maySt st j = true) := (show _ from hr)
            have hj0' : ¬ (j : Int) > 0 := by omega
            clear hr hj0
            go_wp2
            go_light
            refine ⟨⟨j + 1, by omega, by go_num, fun k hk => ?_, B1.out⟩, by simp [intOf]; omega⟩
            by_cases hk' : k = j
            · rw [hk']; exact HR2.out
            · exact HA.out k (by omega)
          · have hj0' : (j : Int) > 0 := by omega
            obtain ⟨cy, _⟩ := CA.out (j - 1) (by omega)
            rw [← HY.out] at cy
            have hpl : pb < wr.heap.size := Nat.lt_of_lt_of_le hpb HB.out.size
            have cy1 : ∀ z : Nat, z = po + (j - 1) → w1.cell? ⟨pb, z, none⟩ = some (.string y) := fun z hz => by rw [hz]; exact (BB.out.cell (p := ⟨pb, po + (j - 1), none⟩) hpl).trans cy
            have e1 : (j : Int) - 1 = ((j - 1 : Nat) : Int) := by omega
            have e2 : ((j - 1 : Nat) : Int) < (st.length : Int) := by omega
            clear cy
            cases hq : Op.bytesLess y.toList x.toList with
            | true =>
              have hr : maySt st j = true := by rw [HS.out]; unfold mayA; rw [hq]; simp
              have HR2 : Hid (maySt st j = true) := (show _ from hr)
              clear hr
              go_wp2
              go_light
              refine ⟨⟨j + 1, by omega, by go_num, fun k hk => ?_, B1.out⟩, by simp [intOf]; omega⟩
              by_cases hk' : k = j
              · rw [hk']; exact HR2.out
              · exact HA.out k (by omega)
            | false =>
              have hr0 : maySt st j = false := by rw [HS.out]; unfold mayA; rw [hq, decide_eq_false hj0]; rfl
              have hr : B = false := M2.out j hlt hr0
              clear hr0
              go_wp2
              go_ret
              exact ⟨by rw [hr]; rfl, B1.out⟩
      · obtain rfl : j = st.length := by omega
        have hr : B = true := M3.out h32 HA.out
        go_wp2
        go_ret
        exact ⟨by rw [hr]; rfl, HB.out⟩
  · have h32' : (st.length : Int) > 32 := by omega
    have hr := M1.out h32
    go_wp2
    go_ret
    exact ⟨by rw [hr]; rfl, Below.refl _ _⟩
end Go.Proofs.YthjfalbchkbdfaaDoor

/- awake: the chapter's examples. -/
namespace Go.Proofs.YthjfalbchkbdfaaDoor
set_option linter.unusedSimpArgs false
set_option linter.unusedVariables false
open Go.RowKit Go.Deep

theorem kw1 : wordsP { data := #[84, 104, 101, 32, 99, 97, 116, 44, 32, 116, 104, 101, 32, 67, 65, 84, 45, 51, 33] } [{ data := #[116, 104, 101] }] = (0, [({ data := #[99, 97, 116] }, 1), ({ data := #[99, 97, 116] }, 3), ({ data := #[51] }, 4)]) := by kernel_rfl
theorem kw2 : wordsP { data := #[255] } [] = (8, []) := by kernel_rfl
theorem ko1 : oneP { data := #[99, 97, 116] } [] = true := by kernel_rfl
theorem ko2 : oneP { data := #[67, 97, 116] } [] = false := by kernel_rfl
theorem ko3 : oneP { data := #[97, 32, 99, 97, 116] } [] = false := by kernel_rfl
theorem ko4 : oneP { data := #[116, 104, 101] } [{ data := #[116, 104, 101] }] = false := by kernel_rfl
theorem km1 : mayP [{ data := #[97] }, { data := #[116, 104, 101] }] = true := by kernel_rfl
theorem km2 : mayP [{ data := #[116, 104, 101] }, { data := #[97] }] = false := by kernel_rfl
theorem km3 : mayP [{ data := #[97, 32, 98] }] = false := by kernel_rfl
set_option maxHeartbeats 8000000 in
set_option maxRecDepth 100000 in
theorem awake_any (w : World) (hT : utT w) :
    Calls Tryd.prog 10 #[] w fun e w' => e = .returned (.bool true) ∧ Below w.heap.size w w' := by
  have HT : Hid (utT w) := (show utT w from hT)
  have lenM : ∀ n : Nat, n ≤ 100 → n ≤ maxLen := fun n h => by unfold maxLen; omega
  have HLEN : Hid (∀ n : Nat, n ≤ 100 → n ≤ maxLen) := (show _ from lenM)
  clear hT lenM
  go_enter Tryd.func10, Tryd.ntmps10
  obtain ⟨v1, hv1⟩ : ∃ v, v = w.alloc (.cells #[.string { data := #[116, 104, 101] }] 9) := ⟨_, rfl⟩
  have st1 : strsAt v1 (.slice (some ⟨w.heap.size, 0, none⟩) 1 1) [{ data := #[116, 104, 101] }] := by rw [hv1]; exact strsAt.one _ { data := #[116, 104, 101] } (HLEN.out _ (by decide))
  have bb1 : Below w.heap.size w v1 := by rw [hv1]; exact (Below.refl w.heap.size w).alloc (Below.refl w.heap.size w).size _
  have X1 := words_any { data := #[84, 104, 101, 32, 99, 97, 116, 44, 32, 116, 104, 101, 32, 67, 65, 84, 45, 51, 33] } (HLEN.out _ (by decide)) _ [{ data := #[116, 104, 101] }] v1 (HT.out.below bb1) st1
  rw [kw1] at X1
  go_wp2_with fail
  rw [← hv1]
  refine X1.mono ?_
  rintro e w1 ⟨r1, rfl, n1, b1⟩
  have B1 : Hid (Below w.heap.size w w1) := (show Below w.heap.size w w1 from bb1.trans (b1.mono bb1.size))
  have BN1 : Hid (Below v1.heap.size v1 w1) := (show _ from b1)
  obtain ⟨a1, c1, rfl, hc1, hm1, hr1⟩ := newWords.at n1
  obtain ⟨g, rfl, hg, hcell⟩ := hr1 (by simp)
  have HC : Hid _ := hcell
  have HG : Hid (g < w1.heap.size) := (show _ from hg)
  simp only [List.length_cons, List.length_nil, Nat.zero_add, Nat.reduceAdd] at hc1
  clear n1 hr1 hcell hg hm1
  clear X1 b1 st1 bb1 hv1
  have X2 := words_any { data := #[255] } (HLEN.out _ (by decide)) _ [] w1 (HT.out.below B1.out) (.inl ⟨rfl, rfl⟩)
  rw [kw2] at X2
  go_wp2_with fail
  refine X2.mono ?_
  rintro e w2 ⟨r2, rfl, n2, b2⟩
  have B2 : Hid (Below w.heap.size w w2) := (show Below w.heap.size w w2 from B1.out.trans (b2.mono B1.out.size))
  have BN2 : Hid (Below w1.heap.size w1 w2) := (show _ from b2)
  obtain ⟨a2, c2, rfl, hc2, hm2, hr2⟩ := newWords.at n2
  clear n2 hr2 hm2 hc2
  have k0 : w2.cell? ⟨g, 0, none⟩ = some (.string { data := #[99, 97, 116] }) ∧ w2.cell? ⟨g, 1, none⟩ = some (.int .i64 1) := ⟨(BN2.out.cell (p := ⟨g, 0, none⟩) HG.out).trans (HC.out 0 _ rfl).1, (BN2.out.cell (p := ⟨g, 1, none⟩) HG.out).trans (HC.out 0 _ rfl).2⟩
  have k1 : w2.cell? ⟨g, 2, none⟩ = some (.string { data := #[99, 97, 116] }) ∧ w2.cell? ⟨g, 3, none⟩ = some (.int .i64 3) := ⟨(BN2.out.cell (p := ⟨g, 2, none⟩) HG.out).trans (HC.out 1 _ rfl).1, (BN2.out.cell (p := ⟨g, 3, none⟩) HG.out).trans (HC.out 1 _ rfl).2⟩
  have k2 : w2.cell? ⟨g, 4, none⟩ = some (.string { data := #[51] }) ∧ w2.cell? ⟨g, 5, none⟩ = some (.int .i64 4) := ⟨(BN2.out.cell (p := ⟨g, 4, none⟩) HG.out).trans (HC.out 2 _ rfl).1, (BN2.out.cell (p := ⟨g, 5, none⟩) HG.out).trans (HC.out 2 _ rfl).2⟩
  obtain ⟨p0, p1⟩ := k0
  obtain ⟨p2, p3⟩ := k1
  obtain ⟨p4, p5⟩ := k2
  clear X2 b2
  have X3 := one_any { data := #[99, 97, 116] } (HLEN.out _ (by decide)) _ [] w2 (HT.out.below B2.out) (.inl ⟨rfl, rfl⟩)
  rw [ko1] at X3
  go_wp2_with fail
  refine X3.mono ?_
  rintro e w3 ⟨rfl, b3⟩
  have B3 : Hid (Below w.heap.size w w3) := (show Below w.heap.size w w3 from B2.out.trans (b3.mono B2.out.size))
  have BN3 : Hid (Below w2.heap.size w2 w3) := (show _ from b3)
  clear X3 b3
  have X4 := one_any { data := #[67, 97, 116] } (HLEN.out _ (by decide)) _ [] w3 (HT.out.below B3.out) (.inl ⟨rfl, rfl⟩)
  rw [ko2] at X4
  go_wp2_with fail
  refine X4.mono ?_
  rintro e w4 ⟨rfl, b4⟩
  have B4 : Hid (Below w.heap.size w w4) := (show Below w.heap.size w w4 from B3.out.trans (b4.mono B3.out.size))
  have BN4 : Hid (Below w3.heap.size w3 w4) := (show _ from b4)
  clear X4 b4
  have X5 := one_any { data := #[97, 32, 99, 97, 116] } (HLEN.out _ (by decide)) _ [] w4 (HT.out.below B4.out) (.inl ⟨rfl, rfl⟩)
  rw [ko3] at X5
  go_wp2_with fail
  refine X5.mono ?_
  rintro e w5 ⟨rfl, b5⟩
  have B5 : Hid (Below w.heap.size w w5) := (show Below w.heap.size w w5 from B4.out.trans (b5.mono B4.out.size))
  have BN5 : Hid (Below w4.heap.size w4 w5) := (show _ from b5)
  clear X5 b5
  obtain ⟨v6, hv6⟩ : ∃ v, v = w5.alloc (.cells #[.string { data := #[116, 104, 101] }] 9) := ⟨_, rfl⟩
  have st6 : strsAt v6 (.slice (some ⟨w5.heap.size, 0, none⟩) 1 1) [{ data := #[116, 104, 101] }] := by rw [hv6]; exact strsAt.one _ { data := #[116, 104, 101] } (HLEN.out _ (by decide))
  have bb6 : Below w.heap.size w v6 := by rw [hv6]; exact B5.out.alloc B5.out.size _
  have X6 := one_any { data := #[116, 104, 101] } (HLEN.out _ (by decide)) _ [{ data := #[116, 104, 101] }] v6 (HT.out.below bb6) st6
  rw [ko4] at X6
  go_wp2_with fail
  rw [← hv6]
  refine X6.mono ?_
  rintro e w6 ⟨rfl, b6⟩
  have B6 : Hid (Below w.heap.size w w6) := (show Below w.heap.size w w6 from bb6.trans (b6.mono bb6.size))
  have BN6 : Hid (Below v6.heap.size v6 w6) := (show _ from b6)
  clear X6 b6 st6 bb6 hv6
  obtain ⟨v7, hv7⟩ : ∃ v, v = w6.alloc (.cells #[.string { data := #[97] }, .string { data := #[116, 104, 101] }] 9) := ⟨_, rfl⟩
  have st7 : strsAt v7 (.slice (some ⟨w6.heap.size, 0, none⟩) 2 2) [{ data := #[97] }, { data := #[116, 104, 101] }] := by rw [hv7]; exact strsAt.two _ { data := #[97] } { data := #[116, 104, 101] } (HLEN.out _ (by decide)) (HLEN.out _ (by decide))
  have bb7 : Below w.heap.size w v7 := by rw [hv7]; exact B6.out.alloc B6.out.size _
  have X7 := mayStops_any _ [{ data := #[97] }, { data := #[116, 104, 101] }] v7 (HT.out.below bb7) st7
  rw [km1] at X7
  go_wp2_with fail
  rw [← hv7]
  refine X7.mono ?_
  rintro e w7 ⟨rfl, b7⟩
  have B7 : Hid (Below w.heap.size w w7) := (show Below w.heap.size w w7 from bb7.trans (b7.mono bb7.size))
  have BN7 : Hid (Below v7.heap.size v7 w7) := (show _ from b7)
  clear X7 b7 st7 bb7 hv7
  obtain ⟨v8, hv8⟩ : ∃ v, v = w7.alloc (.cells #[.string { data := #[116, 104, 101] }, .string { data := #[97] }] 9) := ⟨_, rfl⟩
  have st8 : strsAt v8 (.slice (some ⟨w7.heap.size, 0, none⟩) 2 2) [{ data := #[116, 104, 101] }, { data := #[97] }] := by rw [hv8]; exact strsAt.two _ { data := #[116, 104, 101] } { data := #[97] } (HLEN.out _ (by decide)) (HLEN.out _ (by decide))
  have bb8 : Below w.heap.size w v8 := by rw [hv8]; exact B7.out.alloc B7.out.size _
  have X8 := mayStops_any _ [{ data := #[116, 104, 101] }, { data := #[97] }] v8 (HT.out.below bb8) st8
  rw [km2] at X8
  go_wp2_with fail
  rw [← hv8]
  refine X8.mono ?_
  rintro e w8 ⟨rfl, b8⟩
  have B8 : Hid (Below w.heap.size w w8) := (show Below w.heap.size w w8 from bb8.trans (b8.mono bb8.size))
  have BN8 : Hid (Below v8.heap.size v8 w8) := (show _ from b8)
  clear X8 b8 st8 bb8 hv8
  obtain ⟨v9, hv9⟩ : ∃ v, v = w8.alloc (.cells #[.string { data := #[97, 32, 98] }] 9) := ⟨_, rfl⟩
  have st9 : strsAt v9 (.slice (some ⟨w8.heap.size, 0, none⟩) 1 1) [{ data := #[97, 32, 98] }] := by rw [hv9]; exact strsAt.one _ { data := #[97, 32, 98] } (HLEN.out _ (by decide))
  have bb9 : Below w.heap.size w v9 := by rw [hv9]; exact B8.out.alloc B8.out.size _
  have X9 := mayStops_any _ [{ data := #[97, 32, 98] }] v9 (HT.out.below bb9) st9
  rw [km3] at X9
  go_wp2_with fail
  rw [← hv9]
  refine X9.mono ?_
  rintro e w9 ⟨rfl, b9⟩
  have B9 : Hid (Below w.heap.size w w9) := (show Below w.heap.size w w9 from bb9.trans (b9.mono bb9.size))
  have BN9 : Hid (Below v9.heap.size v9 w9) := (show _ from b9)
  clear X9 b9 st9 bb9 hv9
  go_wp2
  go_ret
  exact ⟨rfl, B9.out⟩
end Go.Proofs.YthjfalbchkbdfaaDoor

/- The laws' much and kept; the document's Same. -/
namespace Go.Proofs.YthjfalbchkbdfaaDoor
set_option linter.unusedSimpArgs false
set_option linter.unusedVariables false
open Go.RowKit Go.Deep

def muchP (s : ByteArray) (st : List ByteArray) (e : Ending) : Prop := ∃ b, e = .returned (.bool b) ∧ (b = false → s.size ≤ 2000 ∧ st.length ≤ 100)
set_option maxHeartbeats 4000000 in
set_option maxRecDepth 100000 in
theorem kept_any (v u : Value) (st : List ByteArray) (w : World) (hv : strsAt w v st) (hu : strsAt w u st) :
    Calls Tryd.prog 14 #[v, u] w fun e w' => e = .returned (.bool true) ∧ Below w.heap.size w w' := by
  obtain ⟨va, vc, rfl, hvc, _, hl, hrow⟩ := hv.slice
  obtain ⟨ua, uc, rfl, huc, _, _, hrowu⟩ := hu.slice
  have hm : (st.length : Int) ≤ 9223372036854775807 := by unfold maxLen at hl; omega
  have HR : Hid _ := hrow
  have HU : Hid _ := hrowu
  clear hv hu hrow hrowu hl
  go_enter Tryd.func14, Tryd.ntmps14
  go_wp2
  go_loopw [5] (fun i wr => ∃ j : Nat, j ≤ st.length ∧ i = .int .i64 (j : Int) ∧ Below w.heap.size w wr) (fun i _ => st.length - (intOf i).toNat)
  case atStart => exact ⟨0, Nat.zero_le _, rfl, Below.refl _ _⟩
  case round =>
    obtain ⟨j, hj, rfl, hb⟩ := hrel
    have HB : Hid (Below w.heap.size w wr) := (show _ from hb)
    have j0 : (0 : Int) ≤ (j : Int) := by omega
    by_cases hlt : j < st.length
    · obtain ⟨pb, po, rfl, hpb, hcell⟩ := HR.out (by omega)
      obtain ⟨qb, qo, rfl, hqb, hcellu⟩ := HU.out (by omega)
      have hc := (hb.cell (p := ⟨pb, po + j, none⟩) hpb).trans (hcell j _ (List.getElem?_eq_getElem hlt)).1
      have hd := (hb.cell (p := ⟨qb, qo + j, none⟩) hqb).trans (hcellu j _ (List.getElem?_eq_getElem hlt)).1
      generalize st[j] = y at hc hd
      have j1 : (j : Int) < (st.length : Int) := by omega
      have hG : ∀ ty, (binOp .neq ty (.string y) (.string y)) = pure (.bool false) := fun ty => by simp [binOp, Op.stringOp]
      clear hcell hcellu hb
      go_upto_region 6 with fail
      go_quiet (fail)
      go_wp2
      go_light
      exact ⟨⟨j + 1, by omega, by go_num, HB.out.drewN _⟩, by simp [intOf]; omega⟩
    · obtain rfl : j = st.length := by omega
      clear hb
      go_wp2
      go_ret
      exact ⟨rfl, HB.out⟩
end Go.Proofs.YthjfalbchkbdfaaDoor

/- The laws WordsTells, WordsOne walked. -/
namespace Go.Proofs.YthjfalbchkbdfaaDoor
set_option linter.unusedSimpArgs false
set_option linter.unusedVariables false
open Go.RowKit Go.Deep

/-- a row of texts, copied. -/
theorem own_strs (w : World) (v : Value) (st : List ByteArray) (hv : strsAt w v st) (hl : st.length ≤ 100) (w1 : World) (hw1 : w1 = w.alloc (.cells #[] 9)) :
    ∃ v' w', (Builtin.append_ #[22, 22] 22 #[.slice (some ⟨w.heap.size, 0, none⟩) 0 0, v]).run Tryd.prog w1 = .ok v' w' ∧ strsAt w' v' st ∧ Below w.heap.size w w' := by
  have b1 : Below w.heap.size w w1 := by rw [hw1]; exact (Below.refl _ _).alloc (Nat.le_refl _) _
  have e1 : newStrs w1 w.heap.size (.slice (some ⟨w.heap.size, 0, none⟩) 0 0) [] := by rw [hw1]; exact newStrs.empty w _ (Nat.le_refl _)
  obtain ⟨v', w', hr, hn, hg⟩ := strs_append w1 w.heap.size _ [] e1 v st (hv.below b1) (by simp; omega) b1.size
  exact ⟨v', w', hr, hn.at, strs_grown e1 hg b1 (Nat.le_refl _)⟩
end Go.Proofs.YthjfalbchkbdfaaDoor

/- The law's much, with the size of each text. -/
namespace Go.Proofs.YthjfalbchkbdfaaDoor
set_option linter.unusedSimpArgs false
set_option linter.unusedVariables false
open Go.RowKit Go.Deep

def muchQ (s : ByteArray) (st : List ByteArray) (e : Ending) : Prop := ∃ b, e = .returned (.bool b) ∧ (b = false → s.size ≤ 2000 ∧ st.length ≤ 100 ∧ ∀ x ∈ st, x.size ≤ 100)
set_option maxHeartbeats 4000000 in
set_option maxRecDepth 100000 in
theorem much2_any (s : ByteArray) (v : Value) (st : List ByteArray) (w : World) (hv : strsAt w v st) :
    Calls Tryd.prog 9 #[.string s, v] w fun e w' => muchQ s st e ∧ w' = w := by
  obtain ⟨va, vc, rfl, hvc, _, hl, hrow⟩ := hv.slice
  have hm : (st.length : Int) ≤ 9223372036854775807 := by unfold maxLen at hl; omega
  have HR : Hid _ := hrow
  clear hv hrow hl
  go_enter Tryd.func9, Tryd.ntmps9
  by_cases h1 : (s.size : Int) > 2000
  · go_wp2
    go_ret
    exact ⟨⟨_, rfl, fun h => by cases h⟩, rfl⟩
  · by_cases h2 : (st.length : Int) > 100
    · go_wp2
      go_ret
      exact ⟨⟨_, rfl, fun h => by cases h⟩, rfl⟩
    · go_wp2
      go_loopw [5] (fun i wr => ∃ j : Nat, j ≤ st.length ∧ i = .int .i64 (j : Int) ∧ (∀ k (hk : k < st.length), k < j → st[k].size ≤ 100) ∧ wr = w) (fun i _ => st.length - (intOf i).toNat)
      case atStart => exact ⟨0, Nat.zero_le _, rfl, fun k hk h => absurd h (Nat.not_lt_zero k), rfl⟩
      case round =>
        obtain ⟨j, hj, rfl, hall, rfl⟩ := hrel
        have HA : Hid (∀ k (hk : k < st.length), k < j → st[k].size ≤ 100) := (show _ from hall)
        have j0 : (0 : Int) ≤ (j : Int) := by omega
        clear hall
        by_cases hlt : j < st.length
        · obtain ⟨pb, po, rfl, hpb, hcell⟩ := HR.out (by omega)
          obtain ⟨hc, _⟩ := hcell j _ (List.getElem?_eq_getElem hlt)
          obtain ⟨y, hy⟩ : ∃ y, y = st[j] := ⟨_, rfl⟩
          rw [← hy] at hc
          have HY : Hid (y = st[j]) := (show _ from hy)
          have j1 : (j : Int) < (st.length : Int) := by omega
          clear hcell hy
          by_cases h3 : (y.size : Int) > 100
          · go_wp2
            go_ret
            exact ⟨⟨_, rfl, fun h => by cases h⟩, rfl⟩
          · have h3' : y.size ≤ 100 := by omega
            have H3 : Hid (y.size ≤ 100) := (show _ from h3')
            clear h3'
            go_wp2
            go_light
            refine ⟨⟨j + 1, by omega, by go_num, fun k hk h => ?_, by first | rfl | trivial⟩, by simp [intOf]; omega⟩
            by_cases e : k = j
            · subst e; have := HY.out; rw [← this]; exact H3.out
            · exact HA.out k hk (by omega)
        · obtain rfl : j = st.length := by omega
          go_wp2
          go_ret
          exact ⟨⟨_, rfl, fun _ => ⟨by omega, by omega, fun x hx => by
            obtain ⟨i, hi, rfl⟩ := List.getElem_of_mem hx
            exact HA.out i hi hi⟩⟩, rfl⟩
end Go.Proofs.YthjfalbchkbdfaaDoor
