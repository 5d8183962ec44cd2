import Derived.Test.YtcfbaijibghcaaaDoorArrEq
import Derived.Test.YtcfbaijibghcaaaDoorByt
import Derived.WideKeyArr
import Derived.Maps.OwnSet
/- The map of seal: sums, and where they stand first. -/
namespace Go.Proofs.YtcfbaijibghcaaaDoor
set_option linter.unusedSimpArgs false
set_option linter.unusedVariables false
open Go.RowKit Go.Deep

/-- 32 bytes. -/
def isSum (q : List Int) : Prop := q.length = 32 ∧ ∀ i, 0 ≤ q.getD i 0 ∧ q.getD i 0 ≤ 255
def sumV (q : List Int) : Value := .agg (rowV 32 (arrV q))
theorem sumV_inj {p q : List Int} (hp : isSum p) (hq : isSum q) (e : sumV p = sumV q) : p = q := by
  have h : rowV 32 (arrV p) = rowV 32 (arrV q) := Value.agg.inj e
  apply List.ext_getElem?
  intro i
  by_cases hi : i < 32
  · have := rowV_inj h i hi
    simp only [arrV, Value.int.injEq, true_and] at this
    rw [List.getElem?_eq_getElem (by rw [hp.1]; exact hi), List.getElem?_eq_getElem (by rw [hq.1]; exact hi)]
    rw [List.getD_eq_getElem?_getD, List.getD_eq_getElem?_getD, List.getElem?_eq_getElem (by rw [hp.1]; exact hi), List.getElem?_eq_getElem (by rw [hq.1]; exact hi)] at this
    simpa using this
  · rw [List.getElem?_eq_none (by rw [hp.1]; omega), List.getElem?_eq_none (by rw [hq.1]; omega)]
theorem mapM_all {α β : Type} (f : α → Option β) (g : α → β) : ∀ L : List α, (∀ x ∈ L, f x = some (g x)) → L.mapM f = some (L.map g)
  | [], _ => rfl
  | x :: L, h => by
    rw [List.mapM_cons, h x (by simp), mapM_all f g L (fun y hy => h y (by simp [hy]))]; rfl
theorem arrKey : Go.WideMaps.ArrKey Tryd.prog 23 5 32 := ⟨Tryd.underlying23, by kernel_rfl, by kernel_rfl, by kernel_rfl⟩
theorem types_some : ∃ m, Tryd.prog.types.size = m + 1 := ⟨Tryd.prog.types.size - 1, by
  have : 0 < Tryd.prog.types.size := of_decide_eq_true (by kernel_rfl)
  omega⟩
theorem sumKey {q : List Int} (hq : isSum q) : ∃ l, keyOf Tryd.prog 23 (sumV q) = some l := by
  have hc : Tryd.prog.cellsOf 23 = 32 := by kernel_rfl
  have hc8 : Tryd.prog.cellsOf 5 = 1 := by kernel_rfl
  have hk := arrKey.keyType types_some
  obtain ⟨m, hm⟩ := types_some
  have hform : (sumV q).formed Tryd.prog 23 = true := by simp [sumV, Value.formed, Tryd.underlying23, hc, rowV_size]
  have hl : (rowV 32 (arrV q)).toList.length = 32 := by rw [Array.length_toList, rowV_size]
  have hel : ∀ i ∈ List.range 32, Tryd.prog.keyLits (m + 1) 5 (((rowV 32 (arrV q)).toList.drop (i * 1)).take 1) = some [Lit.int .u8 (q.getD i 0)] := fun i hi => by
    have hi' : i < 32 := List.mem_range.1 hi
    have e1 : ((rowV 32 (arrV q)).toList.drop (i * 1)).take 1 = [arrV q i] := by
      rw [Nat.mul_one, List.drop_eq_getElem_cons (by omega)]
      have : (rowV 32 (arrV q)).toList[i]? = some (arrV q i) := by rw [Array.getElem?_toList]; exact rowV_get _ _ _ hi'
      rw [List.getElem?_eq_getElem (by omega)] at this
      rw [Option.some.inj this]; rfl
    have hb := hq.2 i
    rw [e1]
    have hw : (Lit.int .u8 (q.getD i 0)).wf = true := by
      simp [Lit.wf, IntKind.min, IntKind.max, IntKind.signed, IntKind.bits]; simp at hb; omega
    simp only [Program.keyLits, arrV, Tryd.underlying5]
    rw [if_pos ⟨trivial, hw⟩]
  refine ⟨.string (keyBytes ((List.range 32).map fun i => [Lit.int .u8 (q.getD i 0)]).flatten), ?_⟩
  unfold keyOf
  simp only [Tryd.underlying23, hk, hform, Bool.and_self, if_true]
  rw [hm]
  generalize m + 1 = d at hel ⊢
  simp only [sumV, Value.cells, Program.keyLits, Tryd.underlying23, hl, hc, hc8, if_true]
  rw [mapM_all _ _ _ hel]
  rfl
theorem keyLaw : Go.WideMaps.KeyLaw Tryd.prog 23 := arrKey.law
theorem check_run (w : World) (em : Bool) {q : List Int} (hq : isSum q) : (Instr.checkKey em 10000 23 (sumV q)).run Tryd.prog w = .ok () w := by
  obtain ⟨l, hl⟩ := sumKey hq
  exact keyLaw.check w em hl

/-- a note: a sum, a text. -/
abbrev Nt := List Int × ByteArray
/-- where a sum stands first. -/
def firstAt (N : List Nt) (q : List Int) : Option Nat := N.findIdx? fun x => decide (x.1 = q)
theorem firstAt_lt {N : List Nt} {q : List Int} {i : Nat} (h : firstAt N q = some i) : i < N.length := by
  unfold firstAt at h
  exact (List.findIdx?_eq_some_iff_getElem.1 h).1
theorem firstAt_get {N : List Nt} {q : List Int} {i : Nat} (h : firstAt N q = some i) : ∃ s, N[i]? = some (q, s) := by
  unfold firstAt at h
  obtain ⟨hi, h1, _⟩ := List.findIdx?_eq_some_iff_getElem.1 h
  have : N[i].1 = q := by simpa using h1
  exact ⟨N[i].2, by rw [List.getElem?_eq_getElem hi, ← this]⟩
theorem firstAt_append {N : List Nt} {x : Nt} {q : List Int} : firstAt (N ++ [x]) q = (firstAt N q).or (if x.1 = q then some N.length else none) := by
  unfold firstAt
  rw [List.findIdx?_append]
  simp only [List.findIdx?_cons, List.findIdx?_nil]
  by_cases h : x.1 = q <;> simp [h]
/-- the map of some notes, its memory in F. -/
def mapAt (w : World) (F : Nat → Prop) (mv : Value) (N : List Nt) : Prop :=
  (mv = .map none ∧ N = []) ∨ ∃ (mb : Nat) (es : Array MapEntry) (clock : Nat), mv = .map (some mb) ∧ F mb ∧ w.heap[mb]? = some (.map es clock) ∧
    (∀ e ∈ es.toList, ∃ (q : List Int) (i : Nat), isSum q ∧ e.key = sumV q ∧ firstAt N q = some i ∧ e.val = .int .i64 (i : Int)) ∧ ∀ (q : List Int) (i : Nat), isSum q → firstAt N q = some i → ∃ e ∈ es.toList, e.key = sumV q
theorem zero3 (w : World) : (zeroValue 3).run Tryd.prog w = .ok (.int .i64 0) w := by kernel_rfl
theorem look_run {w : World} {F : Nat → Prop} {mv : Value} {N : List Nt} (h : mapAt w F mv N) {q : List Int} (hq : isSum q) :
    (Instr.lookup 68 mv (sumV q) true).run Tryd.prog w = .ok (.tuple #[.int .i64 (((firstAt N q).getD 0 : Nat) : Int), .bool (firstAt N q).isSome]) w := by
  obtain ⟨l, hl⟩ := sumKey hq
  rcases h with ⟨rfl, rfl⟩ | ⟨mb, es, clock, rfl, _, hb, h1, h2⟩
  · have e0 : firstAt [] q = none := rfl
    have hck := check_run w true hq
    have hf : (Instr.findKey 23 (sumV q) []).run Tryd.prog w = .ok none w := by
      simp [Instr.findKey, run_underlying Tryd.underlying23, Instr.findNow]
    simp [Instr.lookup, run_underlying Tryd.underlying68, hck, hf, zero3, e0]
  · have hck := check_run w es.isEmpty hq
    have hall : ∀ e ∈ es.toList, ∃ l, keyOf Tryd.prog 23 e.key = some l := fun e he => by
      obtain ⟨q', i, hq', hk, _⟩ := h1 e he
      rw [hk]; exact sumKey hq'
    rcases keyLaw.find w hl es.toList hall with ⟨hf, hne⟩ | ⟨j, e, hf, hj, hk⟩
    · have e0 : firstAt N q = none := by
        cases hfa : firstAt N q with
        | none => rfl
        | some i =>
          obtain ⟨e, he, hk⟩ := h2 q i hq hfa
          exact absurd hk (hne e he)
      simp [Instr.lookup, run_underlying Tryd.underlying68, MapKept.run_getObj_map hb, hck, hf, zero3, e0]
    · obtain ⟨q', i, hq', hk', hfa, hv⟩ := h1 e (List.mem_of_getElem? hj)
      obtain rfl : q' = q := sumV_inj hq' hq (hk'.symm.trans hk)
      simp [Instr.lookup, run_underlying Tryd.underlying68, MapKept.run_getObj_map hb, hck, hf, hfa, hv]
end Go.Proofs.YtcfbaijibghcaaaDoor
