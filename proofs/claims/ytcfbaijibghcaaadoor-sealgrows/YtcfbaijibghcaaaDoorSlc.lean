import Derived.Test.YtcfbaijibghcaaaDoorMem
import Derived.Deep.AppendLies
/- Slices that the call itself makes: what append leaves. -/
namespace Go.Proofs.YtcfbaijibghcaaaDoor
open Go.RowKit Go.Deep

/-- v is a slice of the elements xs, of one cell each, in a block of its own from B on. -/
def owns (w : World) (B : Nat) (e : TypeId) (v : Value) (xs : List Value) : Prop := w.ownsRow B e 1 v xs.length xs
theorem owns_nil (w : World) (B : Nat) (e : TypeId) : owns w B e (.slice none 0 0) [] := ⟨rfl, Or.inl ⟨rfl, rfl⟩⟩
theorem owns.block {w : World} {B : Nat} {e : TypeId} {v : Value} {xs : List Value} (h : owns w B e v xs) (k : Nat) (hk : v.ownBlock = some k) : B ≤ k ∧ k < w.heap.size := by
  obtain ⟨_, h | ⟨g, cap, cur, rfl, hB, hb, _⟩⟩ := h
  · rw [h.1] at hk; cases hk
  · obtain rfl : g = k := by simpa [Value.ownBlock] using hk
    exact ⟨hB, (Array.getElem?_eq_some_iff.1 hb).1⟩
/-- a slice that is not the one that grew is as it was. -/
theorem owns.far {w w' : World} {B : Nat} {e : TypeId} {v : Value} {xs : List Value} (h : owns w B e v xs) (hk : ∀ k, v.ownBlock = some k → w'.heap[k]? = w.heap[k]?) : owns w' B e v xs := by
  obtain ⟨hl, h | ⟨g, cap, cur, rfl, hB, hb, hr⟩⟩ := h
  · exact ⟨hl, Or.inl h⟩
  · exact ⟨hl, Or.inr ⟨g, cap, cur, rfl, hB, by rw [hk g rfl]; exact hb, hr⟩⟩
theorem owns.below {w w' : World} {B C : Nat} {e : TypeId} {v : Value} {xs : List Value} (h : owns w B e v xs) (hb : Below C w w') (hC : w.heap.size ≤ C) : owns w' B e v xs :=
  h.far fun k hk => hb.block k (Nat.lt_of_lt_of_le (h.block k hk).2 hC)
theorem owns.grown {w w' : World} {B : Nat} {e : TypeId} {v : Value} {xs : List Value} {row : Option Nat} (h : owns w B e v xs) (hg : w.grownBy w' row) (hne : ∀ k, v.ownBlock = some k → row ≠ some k) : owns w' B e v xs :=
  h.far fun k hk => hg.block k (h.block k hk).2 (fun e => hne k hk e.symm)
theorem owns.alloc {w : World} {B : Nat} {e : TypeId} {v : Value} {xs : List Value} (h : owns w B e v xs) (o : Obj) : owns (w.alloc o) B e v xs :=
  h.far fun k hk => blk_alloc_lt _ _ _ (h.block k hk).2
theorem owns.drew {w : World} {B : Nat} {e : TypeId} {v : Value} {xs : List Value} (h : owns w B e v xs) : owns w.drew B e v xs := h
theorem owns.drewN {w : World} {B : Nat} {e : TypeId} {v : Value} {xs : List Value} (h : owns w B e v xs) (n : Nat) : owns (w.drewN n) B e v xs := h
/-- its shape, and its cells. -/
theorem owns.shape {w : World} {B : Nat} {e : TypeId} {v : Value} {xs : List Value} (h : owns w B e v xs) (hn : 0 < xs.length) :
    ∃ g cap, v = .slice (some ⟨g, 0, none⟩) xs.length cap ∧ B ≤ g ∧ g < w.heap.size ∧ xs.length ≤ cap ∧ cap ≤ maxLen ∧ (∀ i u, xs[i]? = some u → w.cell? ⟨g, i, none⟩ = some u) ∧ ∀ i, w.frozen? ⟨g, i, none⟩ = false := by
  obtain ⟨hl, h | ⟨g, cap, cur, rfl, hB, hb, hc, hm, hs, ht⟩⟩ := h
  · omega
  · refine ⟨g, cap, rfl, hB, (Array.getElem?_eq_some_iff.1 hb).1, hc, hm, fun i u hu => ?_, fun i => by simp [World.frozen?, hb]⟩
    rw [cell_of_row _ _ _ _ _ _ hb]
    rw [Nat.mul_one] at ht
    have hi : i < xs.length := by rw [List.getElem?_eq_some_iff] at hu; exact hu.1
    rw [← ht, List.getElem?_take, if_pos hi, Array.getElem?_toList] at hu
    exact hu

section
variable {P : Program}
/-- WHAT append LEAVES: the elements behind one another; nothing old but the slice's own block has turned. -/
theorem run_append (w : World) (t ty : TypeId) (B : Nat) (e : TypeId) (z : Value) (bytes : Nat) (ht : P.underlying t = some (.slice e)) (hi : (P.info? e).map (fun i => (i.zero, i.size, i.bytes)) = some (some z, 1, bytes)) (hz1 : z.cells.size = 1)
    (v : Value) (xs : List Value) (hown : owns w B e v xs) (sb so m c : Nat) (news : List Value) (hl : news.length = m) (hnews : ∀ j u, news[j]? = some u → w.cell? ⟨sb, so + j, none⟩ = some u) (h1 : ∀ u ∈ news, u.oneCell' = true)
    (hm : 0 < m) (h63 : xs.length + m ≤ maxLen) (hbytes : (xs.length + m) * bytes ≤ 140737488355328) (hB : B ≤ w.heap.size) :
    ∃ g cap w', (Builtin.append_ #[t, t] ty #[v, .slice (some ⟨sb, so, none⟩) m c]).run P w = .ok (.slice (some ⟨g, 0, none⟩) (xs.length + m) cap) w' ∧
      owns w' B e (.slice (some ⟨g, 0, none⟩) (xs.length + m) cap) (xs ++ news) ∧ w.grownBy w' v.ownBlock ∧ (v.ownBlock = some g ∨ g = w.heap.size) ∧ g < w'.heap.size := by
  cases hq : P.info? e with
  | none => simp [hq] at hi
  | some i =>
    simp only [hq, Option.map_some, Option.some.injEq, Prod.mk.injEq] at hi
    obtain ⟨hz, hs, hb⟩ := hi
    obtain ⟨g, cap, w', hr, ho, hg, hw, hlt⟩ := run_append_lies (P := P) w t ty B e i z 1 bytes ht hq hz hs hb hz1 (by omega) v xs.length xs hown ⟨sb, so, none⟩ m c news (by omega) (fun j u hu => by rw [Addr.add_mid]; exact hnews j u hu) h1 hm h63 hbytes hB w.heap.size rfl
    refine ⟨g, cap, w', hr, ?_, hg, hw, hlt⟩
    unfold owns
    rw [List.length_append, hl]; exact ho
/-- append, by what its run comes to. -/
theorem wp_append_run {o : Oper} {a : Act} {w w' : World} {K : Act → World → Prop} {Q : Exit → Act → World → Prop} {v y r : Value} (s x : Operand) (t : TypeId)
    (ho : o.op = .call { callee := .builtin .append, args := #[s, x], argTypes := #[t, t] }) (hs : a.eval s = v) (hx : a.eval x = y)
    (hr : (Builtin.append_ #[t, t] o.type #[v, y]).run P w = .ok r w') (h : K (a.put o.dst r) w') : o.wp P a w K Q := by
  unfold Oper.wp execOp
  simp only [ho, resolve, invoke, builtin, Sem.run_bind, Sem.run_pure, Result.andThen_ok, List.map_toArray, List.map_cons, List.map_nil, hs, hx, hr]
  exact h
theorem wpList_append_run {ops : Array Oper} {rest : List Oper} {o : Oper} {a : Act} {w w' : World} {Q : Exit → Act → World → Prop} {v y r : Value} (hgd : o.guard = none) (s x : Operand) (t : TypeId)
    (ho : o.op = .call { callee := .builtin .append, args := #[s, x], argTypes := #[t, t] }) (hs : a.eval s = v) (hx : a.eval x = y)
    (hr : (Builtin.append_ #[t, t] o.type #[v, y]).run P w = .ok r w') (h : wpList P ops Q rest (a.put o.dst r) w') : wpList P ops Q (o :: rest) a w :=
  wpList_plain hgd fun _ hK => wp_append_run s x t ho hs hx hr (hK _ _ h)
end
end Go.Proofs.YtcfbaijibghcaaaDoor
