import Derived.Deep.AppendLies
import Derived.Deep.MidRow
import Derived.Lib.ConvBytes
import Derived.Deep.Light
import Derived.IntWalk
import Derived.RangeFuncNested
import Derived.RangeFuncBound
import Derived.RangeFuncCalls
import Derived.RangeFuncLeaves
import Derived.Shelf.Abstract
import Derived.Shelf.RegionOpen
import Derived.WalkKit
import Derived.OwnWalkIn
import Derived.TacticsInMore
import Derived.LoopNIn
import Derived.LoopIn
import Derived.OrdersIn
import Derived.Deep.RegionHeld3
import Derived.Lib.BytesEntry
import Derived.Test.YtkgegihkhdgdoaaDoorOwn1
import Derived.Test.YtkgegihkhdgdoaaDoorOwn2
import Derived.Test.YtkgegihkhdgdoaaDoorOwn3
set_option linter.unusedVariables false
set_option linter.unusedSimpArgs false
/- A nil book's Of; the document's Preimage and Of. -/
namespace Go.Proofs.YtkgegihkhdgdoaaDoor
set_option linter.unusedSimpArgs false
set_option linter.unusedVariables false
open Go.RowKit Go.Deep

set_option maxHeartbeats 1000000 in
set_option maxRecDepth 100000 in
theorem of_nil (kind : Int) (n : Nat) (v : Value) (ps : Nat → List Int) (w : World) (hp : anyParts w v n ps) (hs : ∀ i, i ≤ n → 1 + (flatTo (blobsB ps) i).length ≤ 100000000) (ht : tabIs w) :
    Calls Tryd.prog 69 #[.pointer none, .int .i64 kind, v] w fun e w' => e = .returned (sumV (sumL (preB kind n ps))) ∧ Below w.heap.size w w' := by
  have ht0 := ht.1
  obtain ⟨pl, hpl⟩ : ∃ pl, pl = preB kind n ps := ⟨_, rfl⟩
  have hpll : pl.length ≤ 100000000 := by
    rw [hpl, preB, List.length_append]; have := hs n (Nat.le_refl _); simp; omega
  have r0 := rowIs_zero w (Array.replicate 32 (.int .u8 0)) 32 32 (.int .u8 0) rfl
  have hb0 : Below w.heap.size w (w.alloc (.cells (Array.replicate 32 (.int .u8 0)) 32)) := (Below.refl w.heap.size w).alloc (Nat.le_refl _) _
  have hs0 : (w.alloc (.cells (Array.replicate 32 (.int .u8 0)) 32)).heap.size = w.heap.size + 1 := by simp
  have X := pre_any kind n v ps _ (hp.below hb0 (Nat.le_refl _)) (fun i hi => by have := hs i hi; omega)
  rw [← hpl] at X ⊢
  clear hpl
  obtain ⟨a, cap, rfl, _, _⟩ := hp.open
  clear hp hs
  go_enter Tryd.func69, Tryd.ntmps69
  go_wp2_with fail
  refine X.mono ?_
  rintro e w1 ⟨v1, rfl, hn1, hb1⟩
  have hb1' : Below (w.alloc (.cells (Array.replicate 32 (.int .u8 0)) 32)).heap.size (w.alloc (.cells (Array.replicate 32 (.int .u8 0)) 32)) w1 := hb1
  have hn1' : newBytes w1 (w.alloc (.cells (Array.replicate 32 (.int .u8 0)) 32)).heap.size v1 pl := hn1
  rw [hs0] at hb1' hn1'
  have hB1 : Below w.heap.size w w1 := hb0.trans (hb1'.mono (by omega))
  have r1 : w1.rowIs w.heap.size 32 32 (fun _ => .int .u8 0) := hb1'.row r0 (by omega)
  have hs1 : w.heap.size + 1 ≤ w1.heap.size := by have := hb1'.size; omega
  obtain ⟨va, vc, rfl, _⟩ := hn1'.is.slice
  have Y := sum_one pl _ _ w1 hn1' (by omega) (ht.below hB1 ht0)
  clear X hb1 hn1 hb0 r0 hs0 hb1' hn1'
  go_wp2_with fail
  refine Y.mono ?_
  rintro e w3 ⟨rfl, hb3⟩
  have hs3 := hb3.size
  have r3 := hb3.row r1 (by omega)
  have hB3 : Below w.heap.size w w3 := hB1.trans (hb3.mono (by omega))
  have r4 := rowIs_zero w3 (Array.replicate 32 (.int .u8 0)) 32 32 (.int .u8 0) rfl
  have hs4 : (w3.alloc (.cells (Array.replicate 32 (.int .u8 0)) 32)).heap.size = w3.heap.size + 1 := by simp
  have hb4 : Below w3.heap.size w3 (w3.alloc (.cells (Array.replicate 32 (.int .u8 0)) 32)) := (Below.refl _ _).alloc (Nat.le_refl _) _
  clear Y hb3 r1 hB1
  go_upto_if 16 with (first | (refine wpList_store_row rfl 32 (.tmp 8) (.tmp 14) rfl rfl w3.heap.size 0 32 (arrV (sumL pl)) rfl rfl hi32' (fun _ _ => rfl) _ _ _ r4 (by omega) ?_; intro w5 r5 hz5 hb5))
  have hz5' : w5.heap.size = w3.heap.size + 1 := hz5.trans hs4
  have hb5' : But (w3.heap.size + 1) w3.heap.size (w3.alloc (.cells (Array.replicate 32 (.int .u8 0)) 32)) w5 := hs4 ▸ hb5
  have hB35 : Below w3.heap.size w3 w5 := hb4.trans ((hb5'.mono (by omega)).below (Nat.le_refl _))
  have hB5 : Below w.heap.size w w5 := hB3.trans (hB35.mono (by omega))
  have r5' : w5.rowIs w3.heap.size 32 32 (arrV (sumL pl)) := r5.congr fun i hi => by rw [if_pos (by omega), Nat.sub_zero]
  have r5w := hB35.row r3 (by omega)
  clear r4 hb4 r5 hb5 hb5' hB35 r3 hB3
  go_wp2_with (first | (refine wpList_load_seg rfl 32 _ rfl w3.heap.size 0 32 (arrV (sumL pl)) rfl _ Tryd.underlying32 rfl hi32' (fun i hi => by rw [Nat.zero_add]; exact r5'.cell hi) ?_) | (refine wpList_store_row rfl 32 (.tmp 6) (.tmp 31) rfl rfl w.heap.size 0 32 (arrV (sumL pl)) rfl rfl hi32' (fun _ _ => rfl) _ _ _ r5w (by omega) ?_; intro w6 r6 hz6 hb6))
  exact bodyPost_ret (results_cell_seg rfl _ _ w.heap.size 32 32 (arrV (sumL pl)) _ rfl Tryd.underlying32 rfl hi32' (r6.congr fun i hi => by rw [if_pos (by omega), Nat.sub_zero])) rfl ⟨rfl, hB5.trans ((hb6.mono (by omega)).below (Nat.le_refl _))⟩

set_option maxRecDepth 100000 in
theorem rpre_any (kind : Int) (n : Nat) (v : Value) (ps : Nat → List Int) (w : World) (hp : anyParts w v n ps) (hs : ∀ i, i ≤ n → 1 + (flatTo (blobsB ps) i).length ≤ 1000000000000) :
    Calls Tryd.prog 93 #[.int .i64 kind, v] w fun e w' => ∃ v', e = .returned v' ∧ newBytes w' w.heap.size v' (preB kind n ps) ∧ Below w.heap.size w w' := by
  have hb0 : Below w.heap.size w (w.alloc (.cells #[.int .u8 (kind % 256)] 5)) := (Below.refl _ _).alloc (Nat.le_refl _) _
  have hk : 0 ≤ kind % 256 ∧ kind % 256 ≤ 255 := by omega
  have h1 : isBytes (w.alloc (.cells #[.int .u8 (kind % 256)] 5)) (.slice (some ⟨w.heap.size, 0, none⟩) 1 1) [kind % 256] := one_byte w _ hk.1 hk.2
  have X := rblobs_any [kind % 256] _ v n ps _ h1 (hp.below hb0 (Nat.le_refl _)) (fun i hi => by have := hs i hi; simp; omega)
  obtain ⟨a, cap, rfl, _, _⟩ := hp.open
  go_enter Tryd.func93, Tryd.ntmps93
  go_wp2_with fail
  refine X.mono ?_
  rintro e w1 ⟨v1, rfl, hn1, hb1⟩
  go_wp2
  go_ret
  exact ⟨_, rfl, hn1.mono (by simp), hb0.trans (hb1.mono (by simp))⟩

set_option maxHeartbeats 1000000 in
set_option maxRecDepth 100000 in
theorem rof_any (kind : Int) (n : Nat) (v : Value) (ps : Nat → List Int) (w : World) (hp : anyParts w v n ps) (hs : ∀ i, i ≤ n → 1 + (flatTo (blobsB ps) i).length ≤ 100000000) :
    Calls Tryd.prog 72 #[.int .i64 kind, v] w fun e w' => e = .returned (sumV (sumL (preB kind n ps))) ∧ Below w.heap.size w w' := by
  obtain ⟨pl, hpl⟩ : ∃ pl, pl = preB kind n ps := ⟨_, rfl⟩
  have hpll : pl.length ≤ 100000000 := by
    rw [hpl, preB, List.length_append]; have := hs n (Nat.le_refl _); simp; omega
  have r0 := rowIs_zero w (Array.replicate 32 (.int .u8 0)) 32 32 (.int .u8 0) rfl
  have hb0 : Below w.heap.size w (w.alloc (.cells (Array.replicate 32 (.int .u8 0)) 32)) := (Below.refl w.heap.size w).alloc (Nat.le_refl _) _
  have hs0 : (w.alloc (.cells (Array.replicate 32 (.int .u8 0)) 32)).heap.size = w.heap.size + 1 := by simp
  have X := rpre_any kind n v ps _ (hp.below hb0 (Nat.le_refl _)) (fun i hi => by have := hs i hi; omega)
  rw [← hpl] at X ⊢
  clear hpl
  obtain ⟨a, cap, rfl, _, _⟩ := hp.open
  clear hp hs
  go_enter Tryd.func72, Tryd.ntmps72
  go_wp2_with fail
  refine X.mono ?_
  rintro e w1 ⟨v1, rfl, hn1, hb1⟩
  have hb1' : Below (w.alloc (.cells (Array.replicate 32 (.int .u8 0)) 32)).heap.size (w.alloc (.cells (Array.replicate 32 (.int .u8 0)) 32)) w1 := hb1
  have hn1' : newBytes w1 (w.alloc (.cells (Array.replicate 32 (.int .u8 0)) 32)).heap.size v1 pl := hn1
  rw [hs0] at hb1' hn1'
  have hB1 : Below w.heap.size w w1 := hb0.trans (hb1'.mono (by omega))
  have r1 : w1.rowIs w.heap.size 32 32 (fun _ => .int .u8 0) := hb1'.row r0 (by omega)
  have hs1 : w.heap.size + 1 ≤ w1.heap.size := by have := hb1'.size; omega
  have hq : isParts (w1.alloc (.cells #[v1] 23)) (.slice (some ⟨w1.heap.size, 0, none⟩) 1 1) 1 (fun _ => pl) := Or.inr ⟨w1.heap.size, 0, 1, fun _ => v1, rfl, by simp, by unfold maxLen; omega, fun i hi => by
    obtain rfl : i = 0 := by omega
    exact ⟨one_cell w1 _ _, Or.inl (hn1'.is.below ((Below.refl _ _).alloc (Nat.le_refl _) _) (Nat.le_refl _))⟩⟩
  have Y := rsum_any 1 _ _ _ hq.any (fun i hi => by
    have : i = 0 ∨ i = 1 := by omega
    rcases this with rfl | rfl
    · simp [flatTo]
    · simp [flatTo]; omega)
  have f1 : flatTo (fun _ => pl) 1 = pl := by simp [flatTo]
  rw [f1] at Y
  obtain ⟨va, vc, rfl, _⟩ := hn1'.is.slice
  clear X hb1 hn1 hb0 r0 hs0 hb1' hn1' hq f1
  go_wp2_with fail
  refine Y.mono ?_
  rintro e w3 ⟨rfl, hb3⟩
  have hb3' : Below w1.heap.size w1 w3 := ((Below.refl _ w1).alloc (Nat.le_refl _) _).trans (hb3.mono (by simp))
  have r3 := hb3'.row r1 (by omega)
  have hB3 : Below w.heap.size w w3 := hB1.trans (hb3'.mono (by omega))
  rw [sumL_row]
  clear Y hb3 hb3' r1 hB1
  go_wp2_with (first | (refine wpList_store_row rfl 32 _ _ rfl rfl w.heap.size 0 32 (arrV (sumL pl)) rfl rfl hi32' (fun _ _ => rfl) _ _ _ r3 (by omega) ?_; intro w6 r6 hz6 hb6))
  exact bodyPost_ret (results_cell_seg rfl _ _ w.heap.size 32 32 (arrV (sumL pl)) _ rfl Tryd.underlying32 rfl hi32' (r6.congr fun i hi => by rw [if_pos (by omega), Nat.sub_zero])) rfl ⟨rfl, hB3.trans ((hb6.mono (by have := hB3.size; omega)).below (Nat.le_refl _))⟩
end Go.Proofs.YtkgegihkhdgdoaaDoor

/- append of a slice of elements of any size, also of none. -/
namespace Go.Proofs.YtkgegihkhdgdoaaDoor
set_option linter.unusedSimpArgs false
set_option linter.unusedVariables false
open Go.RowKit Go.Deep
section
variable {P : Program}
theorem row_append (w : World) (t ty e : TypeId) (z : Value) (size bytes : Nat) (ht : P.underlying t = some (.slice e)) (hi : (P.info? e).map (fun i => (i.zero, i.size, i.bytes)) = some (some z, size, bytes)) (hz : z.cells.size = size) (hsz : 0 < size)
    (B : Nat) (v : Value) (n : Nat) (xs : List Value) (hv : w.ownsRow B e size v n xs) (sv : Value) (m : Nat) (news : List Value) (hl : news.length = m * size)
    (hs : ∃ a c, sv = .slice a m c ∧ (0 < m → ∃ qb qo, a = some ⟨qb, qo, none⟩ ∧ ∀ (j : Nat) (u : Value), news[j]? = some u → w.cell? ⟨qb, qo + j, none⟩ = some u)) (h1 : ∀ u ∈ news, u.oneCell' = true)
    (h63 : n + m ≤ maxLen) (hb : (n + m) * bytes ≤ 140737488355328) (hB : B ≤ w.heap.size) :
    ∃ a c w', (Builtin.append_ #[t, t] ty #[v, sv]).run P w = .ok (.slice a (n + m) c) w' ∧ w'.ownsRow B e size (.slice a (n + m) c) (n + m) (xs ++ news) ∧ w.grownBy w' v.ownBlock ∧
      ((Value.slice a (n + m) c).ownBlock = v.ownBlock ∨ (Value.slice a (n + m) c).ownBlock = some w.heap.size) := by
  cases hq : P.info? e with
  | none => simp [hq] at hi
  | some i =>
    simp only [hq, Option.map_some, Option.some.injEq, Prod.mk.injEq] at hi
    obtain ⟨hz', hs', hb'⟩ := hi
    obtain ⟨a, c, rfl, ha⟩ := hs
    by_cases h0 : m = 0
    · subst h0
      have hn0 : news = [] := List.length_eq_zero_iff.1 (by omega)
      subst hn0
      have hv' := hv
      obtain ⟨hl', h | ⟨g, cap, cur, rfl, hg, hbk, hc, hm, hcs, htk⟩⟩ := hv
      · obtain ⟨rfl, rfl⟩ := h
        exact ⟨none, 0, w, run_append_nil w t ty e ht (by rw [hq]; rfl) none 0 0 (Nat.le_refl _) a c, by simpa using hv', World.grownBy.refl _ _, Or.inl rfl⟩
      · exact ⟨_, cap, w, run_append_nil w t ty e ht (by rw [hq]; rfl) _ n cap hc a c, by simpa using hv', World.grownBy.refl _ _, Or.inl rfl⟩
    · obtain ⟨qb, qo, rfl, hc⟩ := ha (by omega)
      obtain ⟨g, cap, w', hr, ho, hg, hat, hlt⟩ := run_append_lies (P := P) w t ty B e i z size bytes ht hq hz' hs' hb' hz hsz v n xs hv ⟨qb, qo, none⟩ m c news hl (fun j u hu => by rw [Addr.add_mid]; exact hc j u hu) h1 (by omega) h63 hb hB w.heap.size rfl
      exact ⟨_, cap, w', hr, ho, hg, by
        rcases hat with h | h
        · exact Or.inl h.symm
        · exact Or.inr (by rw [h]; rfl)⟩
theorem ownsRow_far {w w' : World} {B e size : Nat} {v : Value} {n : Nat} {xs : List Value} (h : w.ownsRow B e size v n xs) (hb : ∀ k, v.ownBlock = some k → w'.heap[k]? = w.heap[k]?) : w'.ownsRow B e size v n xs := by
  obtain ⟨hl, h | ⟨g, cap, cur, rfl, hg, hbk, hr⟩⟩ := h
  · exact ⟨hl, Or.inl h⟩
  · exact ⟨hl, Or.inr ⟨g, cap, cur, rfl, hg, by rw [hb g rfl]; exact hbk, hr⟩⟩
theorem ownsRow_block {w : World} {B e size : Nat} {v : Value} {n : Nat} {xs : List Value} (h : w.ownsRow B e size v n xs) (k : Nat) (hk : v.ownBlock = some k) : B ≤ k ∧ k < w.heap.size := by
  obtain ⟨_, h | ⟨g, cap, cur, rfl, hB, hb, _⟩⟩ := h
  · rw [h.1] at hk; cases hk
  · obtain rfl : g = k := by simpa [Value.ownBlock] using hk
    exact ⟨hB, (Array.getElem?_eq_some_iff.1 hb).1⟩
theorem ownsRow_lower {w : World} {B C e size : Nat} {v : Value} {n : Nat} {xs : List Value} (h : w.ownsRow B e size v n xs) (hC : C ≤ B) : w.ownsRow C e size v n xs := by
  obtain ⟨hl, h | ⟨g, cap, cur, rfl, hg, hr⟩⟩ := h
  · exact ⟨hl, Or.inl h⟩
  · exact ⟨hl, Or.inr ⟨g, cap, cur, rfl, by omega, hr⟩⟩
theorem ownsRow_slice {w : World} {B e size : Nat} {v : Value} {n : Nat} {xs : List Value} (h : w.ownsRow B e size v n xs) : ∃ a c, v = .slice a n c ∧ n ≤ c ∧ c ≤ maxLen ∧ (0 < n → ∃ g, a = some ⟨g, 0, none⟩ ∧ g < w.heap.size ∧ B ≤ g ∧ ∀ (j : Nat) (u : Value), xs[j]? = some u → w.cell? ⟨g, j, none⟩ = some u) := by
  obtain ⟨hl, h | ⟨g, cap, cur, rfl, hg, hbk, hc, hm, hcs, htk⟩⟩ := h
  · obtain ⟨rfl, rfl⟩ := h
    exact ⟨none, 0, rfl, Nat.le_refl _, by unfold maxLen; omega, fun h => by omega⟩
  · refine ⟨_, cap, rfl, hc, hm, fun _ => ⟨g, rfl, (Array.getElem?_eq_some_iff.1 hbk).1, hg, fun j u hu => ?_⟩⟩
    rw [cell_of_row _ _ _ _ _ _ hbk]
    have hj : j < n * size := by rw [← hl]; exact (List.getElem?_eq_some_iff.1 hu).1
    rw [← htk, List.getElem?_take, if_pos hj, Array.getElem?_toList] at hu
    exact hu
end
end Go.Proofs.YtkgegihkhdgdoaaDoor

/- Bytes that may be written over: what clear leaves. -/
namespace Go.Proofs.YtkgegihkhdgdoaaDoor
set_option linter.unusedSimpArgs false
set_option linter.unusedVariables false
open Go.RowKit Go.Deep

def softE (w : World) (u : Value) : Prop := ∀ pb o n c, u = .slice (some ⟨pb, o, none⟩) n c → w.there pb o n
def softB (w : World) (u : Value) (l : List Int) : Prop := isBytes w u l ∧ softE w u
theorem there_of_block {w w' : World} {b o n : Nat} (h : w.there b o n) (hb : w'.heap[b]? = w.heap[b]?) : w'.there b o n := fun j hj => by
  rw [World.cell?_of_block (w' := w') (w := w) (a := ⟨b, o + j, none⟩) hb, World.frozen?_of_block (w' := w') (w := w) (a := ⟨b, o + j, none⟩) hb]; exact h j hj
theorem softE.far {w w' : World} {u : Value} (h : softE w u) (hb : ∀ k, u.ownBlock = some k → w'.heap[k]? = w.heap[k]?) : softE w' u := fun pb o n c e =>
  there_of_block (h pb o n c e) (hb pb (by rw [e]; rfl))
theorem softB.block {w : World} {u : Value} {l : List Int} (h : softB w u l) (k : Nat) (hk : u.ownBlock = some k) : k < w.heap.size := h.1.block k hk
theorem softB.far {w w' : World} {u : Value} {l : List Int} (h : softB w u l) (hb : ∀ k, u.ownBlock = some k → w'.heap[k]? = w.heap[k]?) (hs : w.heap.size ≤ w'.heap.size) : softB w' u l := ⟨h.1.far hb hs, h.2.far hb⟩
theorem softB.below {w w' : World} {B : Nat} {u : Value} {l : List Int} (h : softB w u l) (hb : Below B w w') (hB : w.heap.size ≤ B) : softB w' u l :=
  h.far (fun k hk => hb.block k (Nat.lt_of_lt_of_le (h.block k hk) hB)) hb.size
theorem newBytes.softE {w : World} {B : Nat} {v : Value} {l : List Int} (h : newBytes w B v l) : softE w v := fun pb o n c e => by
  obtain ⟨⟨_, h | ⟨g, cap, cur, he, hB, hg, hc, hm, hs, ht⟩⟩, hb⟩ := h
  · rw [h.1] at e; cases e
  · rw [he] at e
    have e' : (g = pb ∧ 0 = o) ∧ (l.map (Value.int .u8)).length = n ∧ cap = c := by simpa using e
    obtain ⟨⟨rfl, rfl⟩, rfl, rfl⟩ := e'
    have hrow : w.rowIs g 5 cap (fun j => cur.getD j undef) := ⟨cur, hg, by omega, fun j hj => by rw [Array.getElem?_eq_getElem (by omega)]; simp [Array.getD, hs, hj]⟩
    exact there_of_row hrow (by omega)
/-- nothing has turned but in [B, C). -/
structure Mid (B C : Nat) (w w' : World) : Prop where
  os : w'.os = w.os
  tape : w'.tape = w.tape
  output : w'.output = w.output
  size : w'.heap.size = w.heap.size
  block : ∀ k, (k < B ∨ C ≤ k) → w'.heap[k]? = w.heap[k]?
theorem Mid.refl (B C : Nat) (w : World) : Mid B C w w := ⟨rfl, rfl, rfl, rfl, fun _ _ => rfl⟩
theorem Mid.trans {B C : Nat} {a b c : World} (h : Mid B C a b) (g : Mid B C b c) : Mid B C a c := ⟨g.os.trans h.os, g.tape.trans h.tape, g.output.trans h.output, g.size.trans h.size, fun k hk => (g.block k hk).trans (h.block k hk)⟩
theorem Mid.below {B C : Nat} {w w' : World} (h : Mid B C w w') : Below B w w' := ⟨h.os, h.tape, h.output, Nat.le_of_eq h.size.symm, fun k hk => h.block k (Or.inl hk)⟩
theorem zero8s : ∀ w, (zeroValue 5).run Tryd.prog w = .ok (.int .u8 0) w := fun w => by kernel_rfl
/-- clear(u). -/
theorem soft_clear (w : World) (u : Value) (x : Option Addr) (k y : Nat) (hu : u = .slice x k y) (hx : 0 < k → ∃ pb po, x = some ⟨pb, po, none⟩) (hs : softE w u) :
    ∃ w', (Builtin.clear_ #[23] 0 #[u]).run Tryd.prog w = .ok (.tuple #[]) w' ∧ w'.heap.size = w.heap.size ∧ w'.os = w.os ∧ w'.tape = w.tape ∧ w'.output = w.output ∧
      (∀ j, u.ownBlock ≠ some j → w'.heap[j]? = w.heap[j]?) ∧ ∀ b o n, w.there b o n → w'.there b o n := by
  by_cases h0 : 0 < k
  · obtain ⟨pb, po, rfl⟩ := hx h0
    have ht := hs pb po k y hu
    subst hu
    have hb : But w.heap.size pb w (w.setCells pb po (List.replicate k (.int .u8 0))) := but_setCells _ _ (But.refl _ _ _)
    refine ⟨_, Go.Lib.run_clear_slice w 23 5 0 (.int .u8 0) Tryd.underlying23 zero8s rfl rfl pb po k y h0 (fun j hj => (ht j hj).1) (fun j hj => (ht j hj).2), size_setCells _ _ _ _, hb.os, hb.tape, hb.output, fun j hj => ?_, fun b o n h => World.there_setCells h _ _ _⟩
    by_cases hl : j < w.heap.size
    · exact hb.block j hl (fun e => hj (by rw [e]; rfl))
    · rw [Array.getElem?_eq_none (by rw [size_setCells]; omega), Array.getElem?_eq_none (by omega)]
  · obtain rfl : k = 0 := by omega
    subst hu
    exact ⟨w, by cases x <;> simp [Builtin.clear_, run_underlying Tryd.underlying23], rfl, rfl, rfl, rfl, fun _ _ => rfl, fun _ _ _ h => h⟩
/-- v is a slice of slices of bytes that may be written over; all their memory lies in [B, C). -/
def softParts (w : World) (B C : Nat) (v : Value) (n : Nat) : Prop :=
  ∃ a c, v = .slice a n c ∧ n ≤ maxLen ∧ ∀ i, i < n → ∃ qb qo x k y, a = some ⟨qb, qo, none⟩ ∧ (B ≤ qb ∧ qb < C) ∧ w.cell? ⟨qb, qo + i, none⟩ = some (.slice x k y) ∧ (0 < k → ∃ pb po, x = some ⟨pb, po, none⟩) ∧ softE w (.slice x k y) ∧
    ∀ j, (Value.slice x k y).ownBlock = some j → B ≤ j ∧ j < C ∧ j ≠ qb
theorem softParts.clear {w : World} {B C : Nat} {v : Value} {n : Nat} (h : softParts w B C v n) (i : Nat) (hi : i < n) :
    ∃ qb qo cap x k y w', v = .slice (some ⟨qb, qo, none⟩) n cap ∧ w.cell? ⟨qb, qo + i, none⟩ = some (.slice x k y) ∧ (Builtin.clear_ #[23] 0 #[.slice x k y]).run Tryd.prog w = .ok (.tuple #[]) w' ∧ softParts w' B C v n ∧ Mid B C w w' := by
  obtain ⟨a, c, rfl, hm, he⟩ := h
  obtain ⟨qb, qo, x, k, y, rfl, hq, hc, hx, hs, ho⟩ := he i hi
  obtain ⟨w', hr, hz, h1, h2, h3, hb, ht⟩ := soft_clear w _ x k y rfl hx hs
  refine ⟨qb, qo, c, x, k, y, w', rfl, hc, hr, ⟨_, _, rfl, hm, fun i' hi' => ?_⟩, h1, h2, h3, hz, fun j hj => hb j fun e => by have := ho j e; omega⟩
  obtain ⟨qb', qo', x', k', y', e', _, hc', hx', hs', ho'⟩ := he i' hi'
  have e2 : qb = qb' ∧ qo = qo' := by simpa using e'
  obtain ⟨rfl, rfl⟩ := e2
  exact ⟨qb, qo, x', k', y', rfl, hq, by rw [World.cell?_of_block (w' := w') (w := w) (a := ⟨qb, qo + i', none⟩) (hb qb fun e => (ho qb e).2.2 rfl)]; exact hc', hx', fun pb o m c e => ht _ _ _ (hs' pb o m c e), ho'⟩
theorem softParts.far {w w' : World} {B C : Nat} {v : Value} {n : Nat} (h : softParts w B C v n) (hb : ∀ j, B ≤ j → j < C → w'.heap[j]? = w.heap[j]?) : softParts w' B C v n := by
  obtain ⟨a, c, e, hm, he⟩ := h
  refine ⟨a, c, e, hm, fun i hi => ?_⟩
  obtain ⟨qb, qo, x, k, y, e1, hq, hc, hx, hs, ho⟩ := he i hi
  exact ⟨qb, qo, x, k, y, e1, hq, by rw [World.cell?_of_block (w' := w') (w := w) (a := ⟨qb, qo + i, none⟩) (hb qb hq.1 hq.2)]; exact hc, hx, hs.far (fun j hj => hb j (ho j hj).1 (ho j hj).2.1), ho⟩
theorem softParts.open {w : World} {B C : Nat} {v : Value} {n : Nat} (h : softParts w B C v n) : ∃ a c, v = .slice a n c := by
  obtain ⟨a, c, e, _⟩ := h; exact ⟨a, c, e⟩
end Go.Proofs.YtkgegihkhdgdoaaDoor

/- Books: Find. -/
namespace Go.Proofs.YtkgegihkhdgdoaaDoor
set_option linter.unusedSimpArgs false
set_option linter.unusedVariables false
open Go.RowKit Go.Deep

/-- the bytes that were noted first. -/
def foundB (N : List Nt) (q : List Int) : List Int := match firstAt N q with
  | some i => sBytes (N.getD i zeroN).2
  | none => []
end Go.Proofs.YtkgegihkhdgdoaaDoor

/- How long preimages are. Plain mathematics. -/
namespace Go.Proofs.YtkgegihkhdgdoaaDoor
set_option linter.unusedSimpArgs false
set_option linter.unusedVariables false
open Go.RowKit Go.Deep

theorem str_beq (s t : ByteArray) : (s.toList == t.toList) = decide (s = t) := by
  rw [Bool.eq_iff_iff, beq_iff_eq, decide_eq_true_iff, ByteArray.toList_eq, ByteArray.toList_eq]
  exact ⟨fun h => ByteArray.ext (Array.toList_inj.1 h), fun h => by rw [h]⟩
theorem numB_le (x : Int) : (numB x).length ≤ 9 := by rw [numB_length]; have := szI_le x; omega
theorem blobs_le (ps : Nat → List Int) : ∀ n, (flatTo (blobsB ps) n).length ≤ 9 * n + (flatTo ps n).length
  | 0 => by simp [flatTo]
  | n + 1 => by
    have := blobs_le ps n
    have h9 := numB_le ((ps n).length : Int)
    rw [flatTo, flatTo, List.length_append, List.length_append, show blobsB ps n = numB (ps n).length ++ ps n from rfl, List.length_append]
    omega
end Go.Proofs.YtkgegihkhdgdoaaDoor

/- Rows of sums; the node of some sums. -/
namespace Go.Proofs.YtkgegihkhdgdoaaDoor
set_option linter.unusedSimpArgs false
set_option linter.unusedVariables false
open Go.RowKit Go.Deep

/-- v is a slice of these sums. -/
def sumsAt (w : World) (v : Value) (L : List (List Int)) : Prop :=
  (∀ x ∈ L, isSum x) ∧ ∃ a cap, v = .slice a L.length cap ∧ L.length ≤ cap ∧ cap ≤ maxLen ∧
    (0 < L.length → ∃ g o, a = some ⟨g, o, none⟩ ∧ g < w.heap.size ∧ ∀ i (hi : i < L.length) j, j < 32 → w.cell? ⟨g, o + i * 32 + j, none⟩ = some (arrV L[i] j))
theorem sumsAt.below {w w' : World} {B : Nat} {v : Value} {L : List (List Int)} (h : sumsAt w v L) (hb : Below B w w') (hB : w.heap.size ≤ B) : sumsAt w' v L := by
  obtain ⟨h1, a, cap, h2, h3, h4, h5⟩ := h
  refine ⟨h1, a, cap, h2, h3, h4, fun h0 => ?_⟩
  obtain ⟨g, o, e, hg, hc⟩ := h5 h0
  exact ⟨g, o, e, Nat.lt_of_lt_of_le hg hb.size, fun i hi j hj => (hb.cell (p := ⟨g, o + i * 32 + j, none⟩) (Nat.lt_of_lt_of_le hg hB)).trans (hc i hi j hj)⟩
theorem sumsAt.nil (w : World) : sumsAt w (.slice none 0 0) [] := ⟨fun x hx => by simp at hx, none, 0, rfl, Nat.le_refl _, by unfold maxLen; omega, fun h => by simp at h⟩
section
variable {P : Program}
theorem run_slice_to32 (t e : TypeId) (b o len cap n : Nat) (hu : P.underlying t = some (.slice e)) (hs : (P.info? e).map (·.size) = some 32) (hm : n ≤ cap) (w : World) :
    (Instr.slice t (.slice (some ⟨b, o, none⟩) len cap) none (some (.int .i64 n)) none).run P w = .ok (.slice (some ⟨b, o, none⟩) n cap) w := by
  cases hq : P.info? e with
  | none => simp [hq] at hs
  | some i =>
    have hi : i.size = 32 := by simpa [hq] using hs
    have h0 : (0 : Int) ≤ (n : Int) ∧ (n : Int) ≤ (cap : Int) := by omega
    simp [Instr.slice, Instr.sliceBounds, Instr.sliceBound, asIntOf, run_underlying hu, sizeOf, typeInfo, hq, hi, h0, hm, Addr.add_mid]
theorem run_slice_from32 (t e : TypeId) (b o len cap m : Nat) (hu : P.underlying t = some (.slice e)) (hs : (P.info? e).map (·.size) = some 32) (hm : m ≤ len) (hc : m < cap) (w : World) :
    (Instr.slice t (.slice (some ⟨b, o, none⟩) len cap) (some (.int .i64 m)) none none).run P w = .ok (.slice (some ⟨b, o + m * 32, none⟩) (len - m) (cap - m)) w := by
  cases hq : P.info? e with
  | none => simp [hq] at hs
  | some i =>
    have hi : i.size = 32 := by simpa [hq] using hs
    have h0 : (0 : Int) ≤ (m : Int) ∧ (m : Int) ≤ (len : Int) := by omega
    have hc' : ¬ cap = m := by omega
    simp [Instr.slice, Instr.sliceBounds, Instr.sliceBound, asIntOf, run_underlying hu, sizeOf, typeInfo, hq, hi, h0, hc', hm, Addr.add_mid]
end
/-- l[:n] and l[n:]. -/
theorem sumsAt.to {w : World} {v : Value} {L : List (List Int)} (h : sumsAt w v L) (n : Nat) (hn : n < L.length) :
    ∃ u, (∀ wz : World, (Instr.slice 39 v none (some (.int .i64 n)) none).run Tryd.prog wz = .ok u wz) ∧ sumsAt w u (L.take n) := by
  obtain ⟨h1, a, cap, rfl, h3, h4, h5⟩ := h
  obtain ⟨g, o, rfl, hg, hc⟩ := h5 (by omega)
  have hl : (L.take n).length = n := by simp; omega
  refine ⟨_, fun wz => run_slice_to32 39 32 g o L.length cap n Tryd.underlying39 (by kernel_rfl) (by omega) wz, fun x hx => h1 x (List.mem_of_mem_take hx), _, cap, by rw [hl], by omega, h4, fun _ => ⟨g, o, rfl, hg, fun i hi j hj => ?_⟩⟩
  rw [List.getElem_take]; exact hc i (by omega) j hj
theorem sumsAt.from {w : World} {v : Value} {L : List (List Int)} (h : sumsAt w v L) (n : Nat) (hn : n < L.length) :
    ∃ u, (∀ wz : World, (Instr.slice 39 v (some (.int .i64 n)) none none).run Tryd.prog wz = .ok u wz) ∧ sumsAt w u (L.drop n) := by
  obtain ⟨h1, a, cap, rfl, h3, h4, h5⟩ := h
  obtain ⟨g, o, rfl, hg, hc⟩ := h5 (by omega)
  have hl : (L.drop n).length = L.length - n := by simp
  refine ⟨_, fun wz => run_slice_from32 39 32 g o L.length cap n Tryd.underlying39 (by kernel_rfl) (by omega) (by omega) wz, fun x hx => h1 x (List.mem_of_mem_drop hx), _, cap - n, by rw [hl], by omega, by omega, fun _ => ⟨g, o + n * 32, rfl, hg, fun i hi j hj => ?_⟩⟩
  rw [List.getElem_drop, show o + n * 32 + i * 32 + j = o + (n + i) * 32 + j by omega]
  exact hc (n + i) (by omega) j hj
/-- the slices of the sums' bytes. -/
def sumSl (g o : Nat) (i : Nat) : Value := .slice (some ⟨g, o + i * 32, none⟩) 32 32
theorem owns_parts {w : World} {B : Nat} {v : Value} {svs : List Value} {ps : Nat → List Int} (h : owns w B 23 v svs) (hp : ∀ i (hi : i < svs.length), isBytes w svs[i] (ps i)) : isParts w v svs.length ps := by
  by_cases h0 : svs.length = 0
  · obtain ⟨_, h | ⟨g, cap, cur, rfl, hB, hb, hc, hm, hs, ht⟩⟩ := h
    · exact Or.inl ⟨h.1, h0⟩
    · exact Or.inr ⟨g, 0, cap, fun _ => undef, rfl, (Array.getElem?_eq_some_iff.1 hb).1, by rw [h0]; exact Nat.zero_le _, fun i hi => by omega⟩
  · obtain ⟨g, cap, rfl, hB, hg, hcap, hmx, hcell, _⟩ := h.shape (by omega)
    refine Or.inr ⟨g, 0, cap, fun i => svs.getD i undef, rfl, hg, by omega, fun i hi => ?_⟩
    have e1 : svs.getD i undef = svs[i] := by rw [List.getD_eq_getElem?_getD, List.getElem?_eq_getElem hi]; rfl
    show w.cell? ⟨g, 0 + i, none⟩ = some (svs.getD i undef) ∧ anyBytes w (svs.getD i undef) (ps i)
    rw [e1, Nat.zero_add]
    exact ⟨hcell i _ (List.getElem?_eq_getElem hi), Or.inl (hp i hi)⟩
theorem infoSl : (Tryd.prog.info? 23).map (fun i => (i.zero, i.size, i.bytes)) = some (some (.slice none 0 0), 1, 24) := by kernel_rfl
/-- append(parts, l[i][:]). -/
theorem sl_append_run (w : World) (B : Nat) (v u : Value) (svs : List Value) (hv : owns w B 23 v svs) (hu : u.oneCell' = true) (hs : svs.length < 1000000) (hB : B ≤ w.heap.size) :
    ∃ a c w', (Builtin.append_ #[130, 130] 130 #[v, .slice (some ⟨w.heap.size, 0, none⟩) 1 1]).run Tryd.prog (w.alloc (.cells #[u] 23)) = .ok (.slice a (svs.length + 1) c) w' ∧ owns w' B 23 (.slice a (svs.length + 1) c) (svs ++ [u]) ∧ Below B w w' := by
  have b0 : Below w.heap.size w (w.alloc (.cells #[u] 23)) := (Below.refl _ _).alloc (Nat.le_refl _) _
  have h1 := hv.alloc (.cells #[u] 23)
  obtain ⟨a, c, w', hr, ho, hg, hat⟩ := row_append (P := Tryd.prog) (w.alloc (.cells #[u] 23)) 130 130 23 (.slice none 0 0) 1 24 Tryd.underlying130 infoSl rfl (by omega)
    B v svs.length svs h1 (.slice (some ⟨w.heap.size, 0, none⟩) 1 1) 1 [u] rfl
    ⟨_, _, rfl, fun _ => ⟨w.heap.size, 0, rfl, fun j x hx => by
      match j with
      | 0 =>
        have : u = x := by simpa using hx
        subst this; exact one_cell w _ _
      | j + 1 => simp at hx⟩⟩
    (fun x hx => by
      have : x = u := by simpa using hx
      subst this; exact hu) (by unfold maxLen; omega) (by omega) (by simp; omega)
  refine ⟨a, c, w', hr, by unfold owns; rw [List.length_append]; exact ho, (b0.mono hB).trans (below_grown hg (fun k hk => (hv.block k hk).1) (by simp; omega))⟩
theorem zero_s32 : ∀ w : World, (zeroValue 32).run Tryd.prog w = .ok (.agg (rowV 32 (fun _ => .int .u8 0))) w := fun w => by kernel_rfl
/-- the node of some sums. -/
def nodeS (L : List (List Int)) : List Int := sumL (preB 2 L.length (fun i => L.getD i []))
theorem nodeS_sum (L : List (List Int)) : isSum (nodeS L) := sumL_is _
end Go.Proofs.YtkgegihkhdgdoaaDoor

/- tree's node: of a nil book, of a book. -/
namespace Go.Proofs.YtkgegihkhdgdoaaDoor
set_option linter.unusedSimpArgs false
set_option linter.unusedVariables false
open Go.RowKit Go.Deep

theorem nodeS_light (L : List (List Int)) (hL : L.length ≤ 1000) (hs : ∀ x ∈ L, isSum x) : ∀ i, i ≤ L.length → 1 + (flatTo (blobsB (fun i => L.getD i [])) i).length ≤ 100000000 := by
  have h32 : ∀ i, i ≤ L.length → (flatTo (fun i => L.getD i []) i).length = 32 * i := by
    intro i
    induction i with
    | zero => intro _; rfl
    | succ i ih =>
      intro hi
      rw [flatTo, List.length_append, ih (by omega)]
      have : L.getD i [] = L[i] := by rw [List.getD_eq_getElem?_getD, List.getElem?_eq_getElem (by omega)]; rfl
      rw [this, (hs _ (List.getElem_mem _)).1]; omega
  intro i hi
  have h1 := blobs_le (fun i => L.getD i []) i
  have h2 := h32 i hi
  omega
set_option maxHeartbeats 2000000 in
set_option maxRecDepth 100000 in
theorem node_gen (kv : Value) (L : List (List Int)) (v : Value) (w : World) (h : sumsAt w v L) (hL : L.length ≤ 1000) (Q : World → World → Prop)
    (hOf : ∀ wz u, Below w.heap.size w wz → w.heap.size < wz.heap.size → anyParts wz u L.length (fun i => L.getD i []) → Calls Tryd.prog 69 #[kv, .int .i64 2, u] wz fun e w' => e = .returned (sumV (nodeS L)) ∧ (wz.heap.size ≤ w'.heap.size ∧ w'.heap[w.heap.size]? = wz.heap[w.heap.size]?) ∧ Q wz w') :
    Calls Tryd.prog 70 #[kv, v] w fun e w' => e = .returned (sumV (nodeS L)) ∧ ∃ wz wx, Below w.heap.size w wz ∧ w.heap.size < wz.heap.size ∧ Q wz wx ∧ But wx.heap.size w.heap.size wx w' ∧ w'.heap.size = wx.heap.size := by
  obtain ⟨hs, a, cap, rfl, hc, hm, hcl⟩ := h
  unfold maxLen at hm
  have q0 : (L.length : Int) ≤ 1000 := by omega
  have r0 := rowIs_box w 32 32 (fun _ => .int .u8 0)
  have hz32 := zero_s32
  obtain ⟨w1, hw1⟩ : ∃ w1, w1 = w.alloc (.cells (rowV 32 (fun _ => .int .u8 0)) 32) := ⟨_, rfl⟩
  have b1 : Below w.heap.size w w1 := by rw [hw1]; exact (Below.refl _ _).alloc (Nat.le_refl _) _
  rw [← hw1] at r0
  have s1 : w1.heap.size = w.heap.size + 1 := by rw [hw1]; simp
  have hmk := run_make_room (P := Tryd.prog) 130 23 (.slice none 0 0) 24 Tryd.underlying130 infoSl rfl .i64 .i64 L.length (by omega) (by omega) w1
  obtain ⟨w2, hw2⟩ : ∃ w2, w2 = w1.alloc (.cells (madeCells #[Value.slice none 0 0] L.length) 23) := ⟨_, rfl⟩
  rw [← hw2] at hmk
  have b2 : Below w1.heap.size w1 w2 := by rw [hw2]; exact (Below.refl _ _).alloc (Nat.le_refl _) _
  have hO : owns w2 w1.heap.size 23 (.slice (some ⟨w1.heap.size, 0, none⟩) 0 L.length) [] := by
    rw [hw2]
    exact ⟨rfl, Or.inr ⟨w1.heap.size, L.length, _, rfl, Nat.le_refl _, blk_alloc_new _ _, Nat.zero_le _, by unfold maxLen; omega, by rw [size_madeCells]; simp, by simp⟩⟩
  have HO : Hid _ := hO
  have R0 : Hid (w1.rowIs w.heap.size 32 32 (fun _ => .int .u8 0)) := (show w1.rowIs w.heap.size 32 32 (fun _ => .int .u8 0) from r0)
  have B1 : Hid _ := b1
  have B2 : Hid _ := b2
  have S1 : Hid _ := s1
  have HCL : Hid _ := hcl
  have HOF : Hid _ := hOf
  have HS : Hid _ := hs
  clear hO r0 b1 b2 s1 hcl hOf hs hw2
  go_enter Tryd.func70, Tryd.ntmps70
  go_upto_region 1 with fail
  rw [← hw1]
  clear hw1 hz32
  go_wp2_with (first | (refine wpList_make_run rfl _ _ _ rfl rfl rfl hmk ?_))
  clear hmk
  go_loopw [5, 12] (fun z i wr => ∃ (k : Nat) (g o : Nat), k ≤ L.length ∧ i = .int .i64 k ∧ (0 < L.length → a = some ⟨g, o, none⟩) ∧ owns wr w1.heap.size 23 z ((List.range k).map (sumSl g o)) ∧ Below w1.heap.size w1 wr) (fun _ i _ => L.length - (intOf i).toNat)
  case atStart =>
    by_cases h0 : 0 < L.length
    · obtain ⟨g, o, e, _⟩ := HCL.out h0
      exact ⟨0, g, o, by omega, rfl, fun _ => e, HO.out, B2.out⟩
    · exact ⟨0, 0, 0, by omega, rfl, fun h => absurd h h0, HO.out, B2.out⟩
  case round =>
    obtain ⟨k, g, o, hk, rfl, hgo, hown, hb⟩ := hrel
    clear HO
    have p0 : (0 : Int) ≤ (k : Int) := by omega
    by_cases hlt : k < L.length
    · have p1 : (k : Int) < (L.length : Int) := by omega
      have hae := hgo (by omega)
      subst hae
      have sz := hb.size
      obtain ⟨a8, c8, w8, hr8, ho8, b8⟩ := sl_append_run wr w1.heap.size u5 (sumSl g o k) _ hown rfl (by simp; omega) sz
      have hl8 : ((List.range k).map (sumSl g o)).length = k := by simp
      rw [hl8] at hr8 ho8
      have hu5 : ∃ x y, u5 = .slice x k y := by
        obtain ⟨x, y, e, _⟩ := ownsRow_slice hown
        rw [hl8] at e; exact ⟨x, y, e⟩
      obtain ⟨ux, uy, rfl⟩ := hu5
      have HO8 : Hid (owns w8 w1.heap.size 23 (.slice a8 (k + 1) c8) ((List.range (k + 1)).map (sumSl g o))) := (show owns w8 w1.heap.size 23 (.slice a8 (k + 1) c8) ((List.range (k + 1)).map (sumSl g o)) from by rw [List.range_succ, List.map_append]; exact ho8)
      have HB8 : Hid (Below w1.heap.size w1 w8) := (show Below w1.heap.size w1 w8 from hb.trans b8)
      unfold sumSl at hr8
      clear hown hb ho8 b8 hl8 hgo
      go_wp2_with (first | (at_builtin; refine wpList_append_run rfl (.tmp 15) (.tmp 20) _ rfl rfl rfl hr8 ?_))
      go_light
      exact ⟨⟨k + 1, g, o, by omega, by go_num, fun _ => rfl, HO8.out, HB8.out⟩, by simp [intOf]; omega⟩
    · obtain rfl : k = L.length := by omega
      have s1 := S1.out
      have sz := hb.size
      have bw : Below w.heap.size w wr := B1.out.trans (hb.mono (by omega))
      have hpp := owns_parts (ps := fun i => L.getD i []) hown (fun i hi => by
        have hi' : i < L.length := by simpa using hi
        obtain ⟨g', o', e, hg, hc'⟩ := HCL.out (by omega)
        have e2 : g = g' ∧ o = o' := by
          have := (hgo (by omega)).symm.trans e
          simpa using this
        obtain ⟨rfl, rfl⟩ := e2
        have hx := HS.out L[i] (List.getElem_mem _)
        have eD : L.getD i [] = L[i] := by rw [List.getD_eq_getElem?_getD, List.getElem?_eq_getElem hi']; rfl
        have e3 : ((List.range L.length).map (sumSl g o))[i] = sumSl g o i := by simp
        rw [e3, eD]
        refine Or.inr ⟨g, o + i * 32, 32, by rw [hx.1]; rfl, by rw [hx.1]; exact Nat.le_refl _, by unfold maxLen; omega, by have := bw.size; omega, fun j hj => ?_, hx.2⟩
        rw [bw.cell (p := ⟨g, o + i * 32 + j, none⟩) hg, hc' i hi' j (by rw [hx.1] at hj; exact hj)]; rfl)
      rw [List.length_map, List.length_range] at hpp
      have hlw : w.heap.size < wr.heap.size := by omega
      have X := HOF.out wr u5 bw hlw hpp.any
      unfold sumV at X
      obtain ⟨ux, uy, rfl, _, _⟩ := hpp.open
      have rz : wr.rowIs w.heap.size 32 32 (fun _ => .int .u8 0) := hb.row R0.out (by omega)
      have RZ : Hid _ := rz
      have BW : Hid _ := bw
      clear hown hb hpp rz bw hgo
      go_wp2_with fail
      refine X.mono ?_
      rintro e wx ⟨rfl, ⟨hsx, hbx⟩, hQ⟩
      clear X
      have rx : wx.rowIs w.heap.size 32 32 (fun _ => .int .u8 0) := World.rowIs.of_block RZ.out hbx
      have HQ : Hid _ := hQ
      clear hQ hbx
      go_wp2_with (first | (refine wpList_store_row rfl 32 _ _ rfl rfl w.heap.size 0 32 (arrV (nodeS L)) rfl rfl hi32' (fun _ _ => rfl) _ _ _ rx (by omega) ?_; intro w6 r6 hz6 hb6))
      exact bodyPost_ret (results_cell_seg rfl _ _ w.heap.size 32 32 (arrV (nodeS L)) _ rfl Tryd.underlying32 rfl hi32' (r6.congr fun i hi => by rw [if_pos (by omega), Nat.sub_zero])) rfl ⟨rfl, wr, wx, BW.out, hlw, HQ.out, hb6, hz6⟩
end Go.Proofs.YtkgegihkhdgdoaaDoor

/- Halves of numbers. -/
namespace Go.Proofs.YtkgegihkhdgdoaaDoor
set_option linter.unusedSimpArgs false
set_option linter.unusedVariables false
open Go.RowKit Go.Deep

/-- the greatest power of two below n. -/
def halfN (n : Nat) : Nat := if n < 2 then 0 else 2 ^ Nat.log2 (n - 1)
theorem halfN_small {n : Nat} (h : n < 2) : halfN n = 0 := by unfold halfN; rw [if_pos h]
theorem halfN_pow {n : Nat} (h : 2 ≤ n) : halfN n = 2 ^ Nat.log2 (n - 1) := by unfold halfN; rw [if_neg (by omega)]
theorem halfN_is {n : Nat} (h : 2 ≤ n) : 1 ≤ halfN n ∧ halfN n < n ∧ n ≤ 2 * halfN n := by
  rw [halfN_pow h]
  have h1 := Nat.log2_self_le (n := n - 1) (by omega)
  have h2 := Nat.lt_log2_self (n := n - 1)
  rw [Nat.pow_succ] at h2
  have h3 : 0 < 2 ^ Nat.log2 (n - 1) := Nat.two_pow_pos _
  omega
/-- the one power of two that is below n, and twice it is not. -/
theorem halfN_of {n k : Nat} (h1 : 2 ^ k < n) (h2 : n ≤ 2 * 2 ^ k) : halfN n = 2 ^ k := by
  have h3 : 0 < 2 ^ k := Nat.two_pow_pos _
  rw [halfN_pow (by omega)]
  congr 1
  have hn : n - 1 ≠ 0 := by omega
  rw [Nat.log2_eq_iff hn]
  rw [Nat.pow_succ]
  omega
def halfI (n : Int) : Int := (halfN n.toNat : Int)
theorem len8_pow : ∀ y : Fin 256, y.1 ≠ 0 → ∃ k, Go.Lib.len8 (y.1 : Int) = ((k + 1 : Nat) : Int) ∧ 2 ^ k ≤ y.1 ∧ y.1 < 2 ^ (k + 1) ∧ k < 8 := by
  have h : ∀ y : Fin 256, y.1 ≠ 0 → Go.Lib.len8 (y.1 : Int) = ((Nat.log2 y.1 + 1 : Nat) : Int) := by decide +kernel
  intro y hy
  have h1 := Nat.log2_self_le (n := y.1) hy
  have h2 := Nat.lt_log2_self (n := y.1)
  refine ⟨Nat.log2 y.1, h y hy, h1, h2, ?_⟩
  have : Nat.log2 y.1 < 8 := (Nat.log2_lt hy).2 (by have := y.2; omega)
  exact this
theorem len8_pow' (y : Int) (h0 : 0 < y) (h1 : y < 256) : ∃ k : Nat, Go.Lib.len8 y = ((k + 1 : Nat) : Int) ∧ (2 ^ k : Nat) ≤ y.toNat ∧ y.toNat < 2 ^ (k + 1) ∧ k < 8 := by
  have := len8_pow ⟨y.toNat, by omega⟩ (by simp; omega)
  simp only at this
  rw [show ((y.toNat : Nat) : Int) = y by omega] at this
  exact this
/-- the digits of x and of its upper part. -/
theorem pow_up {x y s k : Nat} (hy : y = x / 2 ^ s) (h1 : 2 ^ k ≤ y) (h2 : y < 2 ^ (k + 1)) : 2 ^ (s + k) ≤ x ∧ x < 2 ^ (s + k + 1) := by
  subst hy
  have hs : 0 < 2 ^ s := Nat.two_pow_pos _
  rw [Nat.le_div_iff_mul_le hs] at h1
  rw [Nat.div_lt_iff_lt_mul hs] at h2
  rw [Nat.pow_add, Nat.mul_comm (2 ^ s), show s + k + 1 = (k + 1) + s by omega, Nat.pow_add 2 (k + 1) s]
  exact ⟨h1, h2⟩
theorem lenI_step (x y : Int) (s : Nat) (h0 : 0 < y) (h1 : y < 256) (hx : 0 ≤ x) (hy : y.toNat = x.toNat / 2 ^ s) (hs : s ≤ 56) : ∃ k : Nat, (s : Int) + Go.Lib.len8 y = ((k + 1 : Nat) : Int) ∧ 2 ^ k ≤ x.toNat ∧ x.toNat < 2 ^ (k + 1) ∧ k < 64 := by
  obtain ⟨k, e, a, b, c⟩ := len8_pow' y h0 h1
  obtain ⟨u, v⟩ := pow_up hy a b
  exact ⟨s + k, by rw [e]; omega, u, v, by omega⟩
theorem lenI_pow (x : Int) (h0 : 0 < x) (h1 : x < 18446744073709551616) : ∃ k : Nat, lenI x = ((k + 1 : Nat) : Int) ∧ 2 ^ k ≤ x.toNat ∧ x.toNat < 2 ^ (k + 1) ∧ k < 64 := by
  unfold lenI
  split
  · split
    · split
      · exact lenI_step x _ 56 (by omega) (by omega) (by omega) (by simp; omega) (by omega)
      · exact lenI_step x _ 48 (by omega) (by omega) (by omega) (by simp; omega) (by omega)
    · split
      · exact lenI_step x _ 40 (by omega) (by omega) (by omega) (by simp; omega) (by omega)
      · exact lenI_step x _ 32 (by omega) (by omega) (by omega) (by simp; omega) (by omega)
  · split
    · split
      · exact lenI_step x _ 24 (by omega) (by omega) (by omega) (by simp; omega) (by omega)
      · exact lenI_step x _ 16 (by omega) (by omega) (by omega) (by simp; omega) (by omega)
    · split
      · exact lenI_step x _ 8 (by omega) (by omega) (by omega) (by simp; omega) (by omega)
      · exact lenI_step x _ 0 (by omega) (by omega) (by omega) (by simp) (by omega)
set_option maxHeartbeats 1000000 in
theorem len_any (x : Int) (h0 : 0 ≤ x) (h1 : x < 18446744073709551616) (w : World) :
    Calls Tryd.prog 91 #[.int .u64 x] w fun e w' => e = .returned (.int .i64 (lenI x)) ∧ w' = w := by
  have X := len64_any x h0 h1 w
  go_enter Tryd.func91, Tryd.ntmps91
  go_wp2_with fail
  refine X.mono ?_
  rintro e w' ⟨rfl, hw⟩
  obtain rfl := hw.symm
  go_wp2
  go_ret
  exact ⟨rfl, rfl⟩
end Go.Proofs.YtkgegihkhdgdoaaDoor

/- Half, by the program and by the document. -/
namespace Go.Proofs.YtkgegihkhdgdoaaDoor
set_option linter.unusedSimpArgs false
set_option linter.unusedVariables false
open Go.RowKit Go.Deep

theorem halfI_small {n : Int} (h : n < 2) : halfI n = 0 := by unfold halfI; rw [halfN_small (by omega)]; rfl
theorem halfI_of {n : Int} {k : Nat} (h1 : (2 ^ k : Nat) < n) (h2 : n ≤ 2 * ((2 ^ k : Nat) : Int)) : halfI n = ((2 ^ k : Nat) : Int) := by
  unfold halfI
  rw [halfN_of (k := k) (by omega) (by omega)]
theorem pow_lt62 {k : Nat} (h : k < 63) : 1 ≤ 2 ^ k ∧ 2 ^ k ≤ 4611686018427387904 := by
  have h1 := Nat.pow_le_pow_right (show 0 < 2 by omega) (show k ≤ 62 by omega)
  have h2 : 0 < 2 ^ k := Nat.two_pow_pos _
  rw [show (2 : Nat) ^ 62 = 4611686018427387904 from rfl] at h1
  omega
theorem wrap_pow {k : Nat} (h : k < 63) : wrap64 ((2 : Int) ^ k) = ((2 ^ k : Nat) : Int) := by
  have hp := pow_lt62 h
  have e : ((2 : Int) ^ k) = ((2 ^ k : Nat) : Int) := by rw [Int.natCast_pow]; rfl
  rw [e]
  exact IntWalk.wrap64_in _ ⟨by omega, by omega⟩
set_option maxHeartbeats 1000000 in
theorem half_any (n : Int) (h0 : -9223372036854775808 ≤ n) (h1 : n ≤ 9223372036854775807) (w : World) :
    Calls Tryd.prog 71 #[.int .i64 n] w fun e w' => e = .returned (.int .i64 (halfI n)) ∧ w' = w := by
  by_cases h2 : n < 2
  · have E : Hid (halfI n = 0) := (show halfI n = 0 from halfI_small h2)
    go_enter Tryd.func71, Tryd.ntmps71
    go_wp2
    go_ret
    exact ⟨by rw [E.out]; rfl, rfl⟩
  · obtain ⟨k, hk, ha, hb, hc⟩ := lenI_pow (n - 1) (by omega) (by omega)
    have hk63 : k < 63 := by
      by_cases e : k < 63
      · exact e
      · obtain rfl : k = 63 := by omega
        rw [show (2 : Nat) ^ 63 = 9223372036854775808 from rfl] at ha
        omega
    have E : Hid (halfI n = ((2 ^ k : Nat) : Int)) := (show halfI n = ((2 ^ k : Nat) : Int) from halfI_of (k := k) (by omega) (by rw [Nat.pow_succ] at hb; omega))
    have X := len_any (n - 1) (by omega) (by omega) w
    rw [hk] at X
    have hp := pow_lt62 hk63
    have q0 : (k : Int) < 63 := by omega
    clear ha hb hk
    go_enter Tryd.func71, Tryd.ntmps71
    go_wp2_with fail
    refine X.mono ?_
    rintro e w' ⟨rfl, hw⟩
    obtain rfl := hw.symm
    clear X hw
    go_wp2
    go_ret
    exact ⟨by rw [E.out, ← wrap_pow hk63]; rfl, rfl⟩
/-- the document's p and h behind k rounds. -/
def pI (k : Nat) : Int := if k < 63 then ((2 ^ k : Nat) : Int) else -9223372036854775808
def hI (k : Nat) : Int := if k = 0 then 0 else ((2 ^ (k - 1) : Nat) : Int)
theorem pI_next {k : Nat} (h : k < 63) : wrap64 (pI k + pI k) = pI (k + 1) := by
  unfold pI
  rw [if_pos h]
  have hp := pow_lt62 h
  by_cases h2 : k + 1 < 63
  · rw [if_pos h2]
    have := pow_lt62 h2
    rw [Nat.pow_succ] at this ⊢
    rw [IntWalk.wrap64_in _ ⟨by omega, by omega⟩]; omega
  · obtain rfl : k = 62 := by omega
    rw [if_neg h2, show (2 : Nat) ^ 62 = 4611686018427387904 from rfl]; unfold wrap64; omega
theorem hI_next (k : Nat) (h : k < 63) : hI (k + 1) = pI k := by unfold hI pI; rw [if_neg (by omega), if_pos h]; rfl
theorem pI_bounds (k : Nat) : -9223372036854775808 ≤ pI k ∧ pI k ≤ 4611686018427387904 := by
  unfold pI
  by_cases h : k < 63
  · rw [if_pos h]; have := pow_lt62 h; omega
  · rw [if_neg h]; omega
theorem hI_bounds {k : Nat} (h : k ≤ 63) : 0 ≤ hI k ∧ hI k ≤ 4611686018427387904 := by
  unfold hI
  by_cases e : k = 0
  · rw [if_pos e]; omega
  · rw [if_neg e]; have := pow_lt62 (k := k - 1) (by omega); omega
theorem pI_gt {k : Nat} (h : k < 63) : hI k < pI k := by
  unfold hI pI
  rw [if_pos h]
  by_cases e : k = 0
  · subst e; decide
  · rw [if_neg e]
    have : 2 ^ k = 2 ^ (k - 1) * 2 := by rw [← Nat.pow_succ]; congr 1; omega
    have := pow_lt62 (k := k - 1) (by omega)
    omega
/-- where the loop ends. -/
theorem hI_end {n : Int} {k : Nat} (hk : k ≤ 63) (h1 : n ≤ 9223372036854775807) (hn : 1 ≤ k → hI k < n) (he : ¬ pI k < n ∨ ¬ hI k < pI k) : hI k = halfI n := by
  have hend : k = 63 ∨ ¬ pI k < n := by
    rcases he with h | h
    · exact Or.inr h
    · by_cases e : k < 63
      · exact absurd (pI_gt e) h
      · exact Or.inl (by omega)
  by_cases e : k = 0
  · subst e
    rcases hend with h | h
    · omega
    · rw [halfI_small (by have : pI 0 = 1 := rfl; omega)]; rfl
  · have hh := hn (by omega)
    have hp := pow_lt62 (k := k - 1) (by omega)
    have e1 : hI k = ((2 ^ (k - 1) : Nat) : Int) := by unfold hI; rw [if_neg e]
    rw [e1] at hh ⊢
    refine (halfI_of (k := k - 1) hh ?_).symm
    rcases hend with h | h
    · subst h
      rw [show (2 : Nat) ^ (63 - 1) = 4611686018427387904 from rfl]; omega
    · by_cases e2 : k < 63
      · have e3 : pI k = 2 * ((2 ^ (k - 1) : Nat) : Int) := by
          unfold pI; rw [if_pos e2]
          have : 2 ^ k = 2 ^ (k - 1) * 2 := by rw [← Nat.pow_succ]; congr 1; omega
          omega
        omega
      · obtain rfl : k = 63 := by omega
        rw [show (2 : Nat) ^ (63 - 1) = 4611686018427387904 from rfl]; omega
set_option maxHeartbeats 1000000 in
theorem rhalf_any (n : Int) (h0 : -9223372036854775808 ≤ n) (h1 : n ≤ 9223372036854775807) (w : World) :
    Calls Tryd.prog 74 #[.int .i64 n] w fun e w' => e = .returned (.int .i64 (halfI n)) ∧ w' = w := by
  go_enter Tryd.func74, Tryd.ntmps74
  go_wp2
  go_loopw [3, 4] (fun h p wr => ∃ k : Nat, k ≤ 63 ∧ h = .int .i64 (hI k) ∧ p = .int .i64 (pI k) ∧ (1 ≤ k → hI k < n) ∧ wr = w) (fun h _ _ => (9223372036854775808 - intOf h).toNat)
  case atStart => exact ⟨0, by omega, rfl, rfl, fun h => by omega, rfl⟩
  case round =>
    obtain ⟨k, hk, rfl, rfl, hn, rfl⟩ := hrel
    have pb := pI_bounds k
    have hb := hI_bounds hk
    have E := hI_end hk h1 hn
    have HK : Hid (k < 63 → wrap64 (pI k + pI k) = pI (k + 1) ∧ hI (k + 1) = pI k ∧ hI k < pI k) := (show k < 63 → wrap64 (pI k + pI k) = pI (k + 1) ∧ hI (k + 1) = pI k ∧ hI k < pI k from fun h => ⟨pI_next h, hI_next k h, pI_gt h⟩)
    have HC : Hid (hI k < pI k → k < 63) := (show hI k < pI k → k < 63 from fun h => by
      by_cases e : k < 63
      · exact e
      · obtain rfl : k = 63 := by omega
        have : pI 63 = -9223372036854775808 := rfl
        omega)
    obtain ⟨z, hz⟩ : ∃ z, z = pI k := ⟨_, rfl⟩
    obtain ⟨y, hy⟩ : ∃ y, y = hI k := ⟨_, rfl⟩
    rw [← hz] at pb E HK HC ⊢
    rw [← hy] at hb E HK HC ⊢
    have EE : Hid _ := E
    clear hn E hz hy
    by_cases c1 : z < n
    · by_cases c2 : y < z
      · have hlt := HC.out c2
        obtain ⟨e1, e2, _⟩ := HK.out hlt
        have e2' : Hid _ := e2
        obtain ⟨z', hz'⟩ : ∃ z', z' = pI (k + 1) := ⟨_, rfl⟩
        rw [← hz'] at e1
        have HZ : Hid _ := hz'
        clear hz' e2
        go_wp2
        go_light
        exact ⟨⟨k + 1, by omega, by rw [e2'.out], by rw [e1, ← HZ.out], fun _ => by rw [e2'.out]; exact c1, trivial⟩, by simp [intOf]; omega⟩
      · have E2 : Hid _ := EE.out (Or.inr c2)
        clear EE
        go_wp2
        go_ret
        exact ⟨by rw [← E2.out]; rfl, rfl⟩
    · have E2 : Hid _ := EE.out (Or.inl c1)
      clear EE
      go_wp2
      go_ret
      exact ⟨by rw [← E2.out]; rfl, rfl⟩
/-- is there such a place? -/
def thereB (n at_ : Int) : Bool := decide (0 ≤ at_) && decide (at_ < n)
end Go.Proofs.YtkgegihkhdgdoaaDoor

/- Nodes and roots. -/
namespace Go.Proofs.YtkgegihkhdgdoaaDoor
set_option linter.unusedSimpArgs false
set_option linter.unusedVariables false
open Go.RowKit Go.Deep

theorem But.below' {B b : Nat} {w w' : World} (h : But w.heap.size b w w') (hb : B ≤ b) (hB : B ≤ w.heap.size) : Below B w w' := (h.mono hB).below hb
theorem node_nil (L : List (List Int)) (v : Value) (w : World) (h : sumsAt w v L) (hL : L.length ≤ 1000) (ht : tabIs w) :
    Calls Tryd.prog 70 #[.pointer none, v] w fun e w' => e = .returned (sumV (nodeS L)) ∧ Below w.heap.size w w' := by
  refine (node_gen (.pointer none) L v w h hL (fun wz w' => Below wz.heap.size wz w') (fun wz u hb hlt hp => ?_)).mono ?_
  · refine (of_nil 2 L.length u _ wz hp (nodeS_light L hL h.1) (ht.below hb ht.1)).mono ?_
    rintro e w' ⟨rfl, hb'⟩
    exact ⟨rfl, ⟨hb'.size, hb'.block _ hlt⟩, hb'⟩
  · rintro e w' ⟨rfl, wz, wx, h1, h2, h3, h4, h5⟩
    have := h3.size
    exact ⟨rfl, (h1.trans (h3.mono (by omega))).trans (h4.below' (Nat.le_refl _) (by omega))⟩
/-- the text that a node is noted with. -/
def nodeT (L : List (List Int)) : ByteArray := strOf (preB 2 L.length (fun i => L.getD i []))
theorem node_book (F : Nat → Prop) (k : Nat) (N : List Nt) (c : Int) (L : List (List Int)) (v : Value) (w : World) (hk : bookAt w F k N c) (h : sumsAt w v L) (hL : L.length ≤ 1000) (ht : tabIs w) (hF0 : ¬ F 1) (hN : N.length < 1000000) (hc : 0 ≤ c ∧ c < 1000000000) :
    Calls Tryd.prog 70 #[.pointer (some ⟨k, 0, none⟩), v] w fun e w' => e = .returned (sumV (nodeS L)) ∧ bookAt w' (Gr F w w') k (addN N (nodeS L, nodeT L)) (c + 1) ∧ Fr F w w' := by
  have hlt := hk.2.1
  have hFw : ¬ F w.heap.size := fun hf => by have := hlt _ hf; omega
  refine (node_gen (.pointer (some ⟨k, 0, none⟩)) L v w h hL (fun wz w' => bookAt w' (Gr F wz w') k (addN N (nodeS L, nodeT L)) (c + 1) ∧ Fr F wz w') (fun wz u hb hl hp => ?_)).mono ?_
  · refine (of_any F k N c 2 L.length u _ wz (hk.below hb (Nat.le_refl _)) hp (nodeS_light L hL h.1) (ht.below hb ht.1) hF0 hN hc).mono ?_
    rintro e w' ⟨rfl, hbk, hf⟩
    exact ⟨rfl, ⟨hf.size, hf.block _ hl hFw⟩, hbk, hf⟩
  · rintro e w' ⟨rfl, wz, wx, h1, h2, ⟨h3, h3'⟩, h4, h5⟩
    have s3 := h3'.size
    refine ⟨rfl, ?_, ?_⟩
    · refine (h3.far (fun j hj hl => h4.block j hl (fun e => ?_)) (by omega)).grow (fun j hj => ?_) (fun j hj => ?_)
      · rcases hj with hj | hj
        · exact hFw (e ▸ hj)
        · omega
      · rcases hj with hj | hj
        · exact Or.inl hj
        · exact Or.inr ⟨by omega, by omega⟩
      · rcases hj with hj | hj
        · have := hlt j hj; omega
        · exact hj.2
    · refine ((Fr.of_below F h1).trans h3' (fun _ _ h => h)).trans (G := fun j => j = w.heap.size) ⟨h4.os, h4.tape, h4.output, by omega, fun j hj hne => h4.block j hj hne⟩ (fun j hj e => by omega)
/-- the root of a row of sums. -/
def rootF : Nat → List (List Int) → List Int
  | 0, _ => nodeS []
  | fuel + 1, L => if L.length = 0 then nodeS [] else if L.length = 1 then L.getD 0 [] else nodeS [rootF fuel (L.take (halfN L.length)), rootF fuel (L.drop (halfN L.length))]
def rootS (L : List (List Int)) : List Int := rootF L.length L
theorem half_take {L : List (List Int)} (h : 2 ≤ L.length) : (L.take (halfN L.length)).length = halfN L.length ∧ (L.drop (halfN L.length)).length = L.length - halfN L.length ∧ halfN L.length < L.length ∧ 1 ≤ halfN L.length := by
  have := halfN_is h
  simp
  omega
theorem rootF_fuel : ∀ (n m : Nat) (L : List (List Int)), L.length ≤ n → L.length ≤ m → rootF n L = rootF m L
  | 0, 0, L, _, _ => rfl
  | 0, m + 1, L, h, _ => by rw [rootF, rootF, if_pos (by omega)]
  | n + 1, 0, L, _, h => by rw [rootF, rootF, if_pos (by omega)]
  | n + 1, m + 1, L, h1, h2 => by
    rw [rootF, rootF]
    by_cases e0 : L.length = 0
    · rw [if_pos e0, if_pos e0]
    · by_cases e1 : L.length = 1
      · rw [if_neg e0, if_neg e0, if_pos e1, if_pos e1]
      · have := half_take (L := L) (by omega)
        rw [if_neg e0, if_neg e0, if_neg e1, if_neg e1, rootF_fuel n m _ (by omega) (by omega), rootF_fuel n m _ (by omega) (by omega)]
theorem rootS_none {L : List (List Int)} (h : L.length = 0) : rootS L = nodeS [] := by unfold rootS; rw [h]; rfl
theorem rootS_one {L : List (List Int)} (h : L.length = 1) : rootS L = L.getD 0 [] := by unfold rootS; rw [h, rootF, if_neg (by omega), if_pos h]
theorem rootS_more {L : List (List Int)} (h : 2 ≤ L.length) : rootS L = nodeS [rootS (L.take (halfN L.length)), rootS (L.drop (halfN L.length))] := by
  have ht := half_take h
  unfold rootS
  obtain ⟨n, hn⟩ : ∃ n, L.length = n + 1 := ⟨L.length - 1, by omega⟩
  rw [show rootF L.length L = rootF (n + 1) L by rw [hn], rootF, if_neg (by omega), if_neg (by omega)]
  rw [rootF_fuel n _ _ (by omega) (Nat.le_refl _), rootF_fuel n _ (L.drop (halfN L.length)) (by omega) (Nat.le_refl _)]
theorem rootF_sum : ∀ (n : Nat) (L : List (List Int)), (∀ x ∈ L, isSum x) → isSum (rootF n L)
  | 0, _, _ => nodeS_sum _
  | n + 1, L, h => by
    rw [rootF]
    split
    · exact nodeS_sum _
    · split
      · rename_i h1
        rw [List.getD_eq_getElem?_getD, List.getElem?_eq_getElem (by omega)]; exact h _ (List.getElem_mem _)
      · exact nodeS_sum _
theorem rootS_sum {L : List (List Int)} (h : ∀ x ∈ L, isSum x) : isSum (rootS L) := rootF_sum _ L h
/-- the notes behind a root, and how often was hashed. -/
def rootNF : Nat → List Nt → List (List Int) → List Nt
  | 0, N, _ => addN N (nodeS [], nodeT [])
  | fuel + 1, N, L => if L.length = 0 then addN N (nodeS [], nodeT []) else if L.length = 1 then N else
      addN (rootNF fuel (rootNF fuel N (L.take (halfN L.length))) (L.drop (halfN L.length))) (nodeS [rootS (L.take (halfN L.length)), rootS (L.drop (halfN L.length))], nodeT [rootS (L.take (halfN L.length)), rootS (L.drop (halfN L.length))])
def rootN (N : List Nt) (L : List (List Int)) : List Nt := rootNF L.length N L
theorem rootNF_fuel : ∀ (n m : Nat) (N : List Nt) (L : List (List Int)), L.length ≤ n → L.length ≤ m → rootNF n N L = rootNF m N L
  | 0, 0, N, L, _, _ => rfl
  | 0, m + 1, N, L, h, _ => by rw [rootNF, rootNF, if_pos (by omega)]
  | n + 1, 0, N, L, _, h => by rw [rootNF, rootNF, if_pos (by omega)]
  | n + 1, m + 1, N, L, h1, h2 => by
    rw [rootNF, rootNF]
    by_cases e0 : L.length = 0
    · rw [if_pos e0, if_pos e0]
    · by_cases e1 : L.length = 1
      · rw [if_neg e0, if_neg e0, if_pos e1, if_pos e1]
      · have := half_take (L := L) (by omega)
        rw [if_neg e0, if_neg e0, if_neg e1, if_neg e1, rootNF_fuel n m N _ (by omega) (by omega), rootNF_fuel n m _ _ (by omega) (by omega)]
theorem rootN_none {L : List (List Int)} (N : List Nt) (h : L.length = 0) : rootN N L = addN N (nodeS [], nodeT []) := by unfold rootN; rw [h]; rfl
theorem rootN_one {L : List (List Int)} (N : List Nt) (h : L.length = 1) : rootN N L = N := by unfold rootN; rw [h, rootNF, if_neg (by omega), if_pos h]
theorem rootN_more {L : List (List Int)} (N : List Nt) (h : 2 ≤ L.length) : rootN N L = addN (rootN (rootN N (L.take (halfN L.length))) (L.drop (halfN L.length))) (nodeS [rootS (L.take (halfN L.length)), rootS (L.drop (halfN L.length))], nodeT [rootS (L.take (halfN L.length)), rootS (L.drop (halfN L.length))]) := by
  have ht := half_take h
  unfold rootN
  obtain ⟨n, hn⟩ : ∃ n, L.length = n + 1 := ⟨L.length - 1, by omega⟩
  rw [show rootNF L.length N L = rootNF (n + 1) N L by rw [hn], rootNF, if_neg (by omega), if_neg (by omega)]
  rw [rootNF_fuel n _ N _ (by omega) (Nat.le_refl _), rootNF_fuel n _ _ (L.drop (halfN L.length)) (by omega) (Nat.le_refl _)]
def callsR (n : Nat) : Int := if n = 0 then 1 else (n : Int) - 1
/-- two sums in a new row. -/
theorem build_two (f g : Nat → Value) (w : World) : (Instr.buildSlice 39 2 #[(0, .agg (rowV 32 f)), (1, .agg (rowV 32 g))]).run Tryd.prog w = .ok (.slice (some ⟨w.heap.size, 0, none⟩) 2 2) (w.alloc (.cells (rowV 64 (fun j => if j < 32 then f j else g (j - 32))) 32)) := by
  show (_ : Result Value) = _
  kernel_rfl
theorem two_sums (w : World) (p q : List Int) (hp : isSum p) (hq : isSum q) : sumsAt (w.alloc (.cells (rowV 64 (fun j => if j < 32 then arrV p j else arrV q (j - 32))) 32)) (.slice (some ⟨w.heap.size, 0, none⟩) 2 2) [p, q] := by
  refine ⟨fun x hx => ?_, _, 2, rfl, Nat.le_refl _, by unfold maxLen; omega, fun _ => ⟨w.heap.size, 0, rfl, by simp, fun i hi j hj => ?_⟩⟩
  · rcases List.mem_cons.1 hx with rfl | hx
    · exact hp
    · rw [List.mem_singleton.1 hx]; exact hq
  · have hr := rowIs_box w 32 64 (fun j => if j < 32 then arrV p j else arrV q (j - 32))
    have hi' : i = 0 ∨ i = 1 := by simp at hi; omega
    rcases hi' with rfl | rfl
    · rw [show 0 + 0 * 32 + j = j by omega, hr.cell (by omega), if_pos hj]; rfl
    · rw [show 0 + 1 * 32 + j = 32 + j by omega, hr.cell (by omega), if_neg (by omega), show 32 + j - 32 = j by omega]; rfl
theorem exec_bslice2' {P : Program} {o : Oper} {ev : Operand → Value} {w w' : World} {v : Value} (t : TypeId) (n i j : Nat) (x y : Operand) (a b : Value) (ho : o.op = .buildSlice t n #[(i, x), (j, y)]) (hx : ev x = a) (hy : ev y = b)
    (hr : (Instr.buildSlice t n #[(i, a), (j, b)]).run P w = .ok v w') : (execOp ev o).run P w = .ok (.value v) w' := by
  unfold execOp
  simp only [ho, List.map_toArray, List.map_cons, List.map_nil, hx, hy, Sem.run_bind, hr, Result.andThen_ok, Sem.run_pure]
theorem stow32T_run (w : World) (b : Nat) (q : List Int) {t : Nat} {f : Nat → Value} (hr : w.rowIs b t 32 f) : (storeVar 32 ⟨b, 0, none⟩ (.agg (rowV 32 (arrV q)))).run Tryd.prog w = .ok () (w.setCells b 0 (rowV 32 (arrV q)).toList) :=
  run_storeVar_mid (P := Tryd.prog) w b 0 32 (rowV 32 (arrV q)) (by rw [rowV_size]; exact there_of_row hr (by omega)) (by rw [hi32', rowV_size]) (by
    rw [Array.all_eq_true_iff_forall_mem]
    intro v hv
    obtain ⟨i, hi', rfl⟩ := Array.mem_iff_getElem.1 hv
    have hlt : i < 32 := by rw [rowV_size] at hi'; exact hi'
    have := rowV_get 32 (arrV q) i hlt
    rw [Array.getElem?_eq_getElem hi'] at this
    rw [Option.some.inj this]; rfl)
theorem stow32T_row (w : World) (b : Nat) (q : List Int) {t : Nat} {f : Nat → Value} (hr : w.rowIs b t 32 f) : (w.setCells b 0 (rowV 32 (arrV q)).toList).rowIs b t 32 (arrV q) ∧ (w.setCells b 0 (rowV 32 (arrV q)).toList).heap.size = w.heap.size ∧ But w.heap.size b w (w.setCells b 0 (rowV 32 (arrV q)).toList) :=
  ⟨(rowIs_splice hr).congr fun i hi => by rw [if_pos (by omega), Nat.sub_zero], size_setCells _ _ _ _, but_setCells _ _ (But.refl _ _ _)⟩
end Go.Proofs.YtkgegihkhdgdoaaDoor

/- tree.Root: by no book, by a book. -/
namespace Go.Proofs.YtkgegihkhdgdoaaDoor
set_option linter.unusedSimpArgs false
set_option linter.unusedVariables false
open Go.RowKit Go.Deep

theorem callsR_more {n h : Nat} (h0 : 1 ≤ h) (h1 : h < n) : callsR n = callsR h + callsR (n - h) + 1 := by unfold callsR; rw [if_neg (by omega), if_neg (by omega), if_neg (by omega)]; omega
theorem rootNF_length : ∀ (n : Nat) (N : List Nt) (L : List (List Int)), L.length ≤ n → (rootNF n N L).length ≤ N.length + L.length + 1 ∧ (1 ≤ L.length → (rootNF n N L).length + 1 ≤ N.length + L.length)
  | 0, N, L, h => by
    rw [rootNF]; have := addN_len N (nodeS [], nodeT []); omega
  | n + 1, N, L, h => by
    rw [rootNF]
    by_cases e0 : L.length = 0
    · rw [if_pos e0]; have := addN_len N (nodeS [], nodeT []); omega
    · by_cases e1 : L.length = 1
      · rw [if_neg e0, if_pos e1]; omega
      · have ht := half_take (L := L) (by omega)
        rw [if_neg e0, if_neg e1]
        have h1 := rootNF_length n N (L.take (halfN L.length)) (by omega)
        have h2 := rootNF_length n (rootNF n N (L.take (halfN L.length))) (L.drop (halfN L.length)) (by omega)
        have h3 := addN_len (rootNF n (rootNF n N (L.take (halfN L.length))) (L.drop (halfN L.length))) (nodeS [rootS (L.take (halfN L.length)), rootS (L.drop (halfN L.length))], nodeT [rootS (L.take (halfN L.length)), rootS (L.drop (halfN L.length))])
        omega
theorem tabIs.far {w w' : World} (h : tabIs w) (hb : w'.heap[1]? = w.heap[1]?) (hs : w.heap.size ≤ w'.heap.size) : tabIs w' := ⟨Nat.lt_of_lt_of_le h.1 hs, fun i hi => (World.cell?_of_block (a := ⟨1, i, none⟩) hb).trans (h.2 i hi)⟩
theorem sumsAt.far {w w' : World} {v : Value} {L : List (List Int)} (h : sumsAt w v L) (hb : 0 < L.length → ∀ k, v.ownBlock = some k → k < w.heap.size → w'.heap[k]? = w.heap[k]?) (hs : w.heap.size ≤ w'.heap.size) : sumsAt w' v L := by
  obtain ⟨h1, a, cap, rfl, h3, h4, h5⟩ := h
  refine ⟨h1, a, cap, rfl, h3, h4, fun h0 => ?_⟩
  obtain ⟨g, o, rfl, hg, hc⟩ := h5 h0
  exact ⟨g, o, rfl, Nat.lt_of_lt_of_le hg hs, fun i hi j hj => (World.cell?_of_block (a := ⟨g, o + i * 32 + j, none⟩) (hb h0 g rfl hg)).trans (hc i hi j hj)⟩
theorem sumsAt.to' {w : World} {v : Value} {L : List (List Int)} (h : sumsAt w v L) (n : Nat) (hn : n < L.length) :
    ∃ u, (∀ wz : World, (Instr.slice 39 v none (some (.int .i64 n)) none).run Tryd.prog wz = .ok u wz) ∧ sumsAt w u (L.take n) ∧ u.ownBlock = v.ownBlock ∧ ∃ x y, u = .slice x n y := by
  obtain ⟨h1, a, cap, rfl, h3, h4, h5⟩ := h
  obtain ⟨g, o, rfl, hg, hc⟩ := h5 (by omega)
  have hl : (L.take n).length = n := by simp; omega
  refine ⟨_, fun wz => run_slice_to32 39 32 g o L.length cap n Tryd.underlying39 (by kernel_rfl) (by omega) wz, ⟨fun x hx => h1 x (List.mem_of_mem_take hx), _, cap, by rw [hl], by omega, h4, fun _ => ⟨g, o, rfl, hg, fun i hi j hj => ?_⟩⟩, rfl, _, _, rfl⟩
  rw [List.getElem_take]; exact hc i (by omega) j hj
theorem sumsAt.from' {w : World} {v : Value} {L : List (List Int)} (h : sumsAt w v L) (n : Nat) (hn : n < L.length) :
    ∃ u, (∀ wz : World, (Instr.slice 39 v (some (.int .i64 n)) none none).run Tryd.prog wz = .ok u wz) ∧ sumsAt w u (L.drop n) ∧ u.ownBlock = v.ownBlock ∧ ∃ x y, u = .slice x (L.length - n) y := by
  obtain ⟨h1, a, cap, rfl, h3, h4, h5⟩ := h
  obtain ⟨g, o, rfl, hg, hc⟩ := h5 (by omega)
  have hl : (L.drop n).length = L.length - n := by simp
  refine ⟨_, fun wz => run_slice_from32 39 32 g o L.length cap n Tryd.underlying39 (by kernel_rfl) (by omega) (by omega) wz, ⟨fun x hx => h1 x (List.mem_of_mem_drop hx), _, cap - n, by rw [hl], by omega, by omega, fun _ => ⟨g, o + n * 32, rfl, hg, fun i hi j hj => ?_⟩⟩, rfl, _, _, rfl⟩
  rw [List.getElem_drop, show o + n * 32 + i * 32 + j = o + (n + i) * 32 + j by omega]
  exact hc (n + i) (by omega) j hj
set_option maxHeartbeats 2000000 in
set_option maxRecDepth 100000 in
theorem root_nil_small (L : List (List Int)) (v : Value) (w : World) (hn : L.length ≤ 1) (h : sumsAt w v L) (ht : tabIs w) :
    Calls Tryd.prog 40 #[.pointer none, v] w fun e w' => e = .returned (sumV (rootS L)) ∧ Below w.heap.size w w' := by
  have hz32 := zero_s32
  obtain ⟨w1, hw1⟩ : ∃ w1, w1 = w.alloc (.cells (rowV 32 (fun _ => .int .u8 0)) 32) := ⟨_, rfl⟩
  have r1 : w1.rowIs w.heap.size 32 32 (fun _ => .int .u8 0) := by rw [hw1]; exact rowIs_box w _ _ _
  have b1 : Below w.heap.size w w1 := by rw [hw1]; exact (Below.refl _ _).alloc (Nat.le_refl _) _
  have s1 : w1.heap.size = w.heap.size + 1 := by rw [hw1]; simp
  by_cases h0 : L.length = 0
  · have X := node_nil [] (.slice none 0 0) w1 (sumsAt.nil w1) (by simp) (ht.below b1 ht.1)
    have ES := rootS_none h0
    rw [← ES] at X
    unfold sumV at X ⊢
    have HES : Hid _ := ES
    clear ES
    obtain ⟨_, a, cap, rfl, _, _, _⟩ := h
    rw [h0]
    go_enter Tryd.func40, Tryd.ntmps40
    go_upto_region 1 with fail
    rw [← hw1]
    have S1 : Hid _ := s1
    clear hw1 hz32 s1
    go_wp2_with fail
    refine X.mono ?_
    rintro e wx ⟨rfl, bx⟩
    clear X
    have s1 := S1.out
    have sx := bx.size
    have rx := bx.row r1 (by omega)
    have BX : Hid _ := b1.trans (bx.mono (by omega))
    clear bx s1 r1
    go_wp2_with (first | (refine wpList_store_row rfl 32 _ _ rfl rfl w.heap.size 0 32 (arrV (rootS L)) rfl rfl hi32' (fun _ _ => rfl) _ _ _ rx (by omega) ?_; intro w6 r6 hz6 hb6))
    exact bodyPost_ret (results_cell_seg rfl _ _ w.heap.size 32 32 (arrV (rootS L)) _ rfl Tryd.underlying32 rfl hi32' (r6.congr fun i hi => by rw [if_pos (by omega), Nat.sub_zero])) rfl ⟨rfl, BX.out.trans (hb6.below' (Nat.le_refl _) (Below.size BX.out))⟩
  · have h1 : L.length = 1 := by omega
    have ES : rootS L = L[0] := by rw [rootS_one h1, List.getD_eq_getElem?_getD, List.getElem?_eq_getElem (by omega)]; rfl
    obtain ⟨hs, a, cap, rfl, hc1, hm1, hcl⟩ := h
    obtain ⟨g, o, rfl, hg, hcell⟩ := hcl (by omega)
    have ld : ∀ j, j < 32 → w1.cell? ⟨g, o + j, none⟩ = some (arrV (rootS L) j) := fun j hj => by
      have := hcell 0 (by omega) j hj
      rw [show o + 0 * 32 + j = o + j by omega] at this
      rw [b1.cell (p := ⟨g, o + j, none⟩) hg, this, ES]
    have LD : Hid _ := ld
    clear ld hcell hcl hs ES
    rw [h1]
    unfold sumV
    go_enter Tryd.func40, Tryd.ntmps40
    go_upto_region 1 with fail
    rw [← hw1]
    have S1 : Hid _ := s1
    clear hw1 hz32 s1
    go_wp2_with (first | (refine wpList_load_seg rfl 32 _ rfl g o 32 (arrV (rootS L)) rfl _ Tryd.underlying32 rfl hi32' LD.out ?_) | (refine wpList_store_row rfl 32 _ _ rfl rfl w.heap.size 0 32 (arrV (rootS L)) rfl rfl hi32' (fun _ _ => rfl) _ _ _ r1 (by omega) ?_; intro w6 r6 hz6 hb6))
    have s1 := S1.out
    exact bodyPost_ret (results_cell_seg rfl _ _ w.heap.size 32 32 (arrV (rootS L)) _ rfl Tryd.underlying32 rfl hi32' (r6.congr fun i hi => by rw [if_pos (by omega), Nat.sub_zero])) rfl ⟨rfl, b1.trans (hb6.below' (Nat.le_refl _) (by omega))⟩
set_option maxHeartbeats 2000000 in
set_option maxRecDepth 100000 in
theorem root_book_small (F : Nat → Prop) (k : Nat) (N : List Nt) (c : Int) (L : List (List Int)) (v : Value) (w : World) (hn : L.length ≤ 1) (hk : bookAt w F k N c) (h : sumsAt w v L) (ht : tabIs w) (hF0 : ¬ F 1) (hN : N.length + L.length < 100000) (hc : 0 ≤ c ∧ c + (L.length : Int) < 100000000) :
    Calls Tryd.prog 40 #[.pointer (some ⟨k, 0, none⟩), v] w fun e w' => e = .returned (sumV (rootS L)) ∧ bookAt w' (Gr F w w') k (rootN N L) (c + callsR L.length) ∧ Fr F w w' := by
  have hz32 := zero_s32
  obtain ⟨w1, hw1⟩ : ∃ w1, w1 = w.alloc (.cells (rowV 32 (fun _ => .int .u8 0)) 32) := ⟨_, rfl⟩
  have r1 : w1.rowIs w.heap.size 32 32 (fun _ => .int .u8 0) := by rw [hw1]; exact rowIs_box w _ _ _
  have b1 : Below w.heap.size w w1 := by rw [hw1]; exact (Below.refl _ _).alloc (Nat.le_refl _) _
  have s1 : w1.heap.size = w.heap.size + 1 := by rw [hw1]; simp
  have hlt := hk.2.1
  have hFw : ¬ F w.heap.size := fun hf => by have := hlt _ hf; omega
  have K1 := hk.below b1 (Nat.le_refl _)
  by_cases h0 : L.length = 0
  · have X := node_book F k N c [] (.slice none 0 0) w1 K1 (sumsAt.nil w1) (by simp) (ht.below b1 ht.1) hF0 (by omega) ⟨hc.1, by omega⟩
    have ES := rootS_none h0
    rw [← ES] at X
    unfold sumV at X ⊢
    have HES : Hid _ := ES
    have EN : Hid _ := rootN_none N h0
    have EC : Hid (callsR L.length = 1) := (show callsR L.length = 1 from by unfold callsR; rw [if_pos h0])
    clear ES
    obtain ⟨_, a, cap, rfl, _, _, _⟩ := h
    rw [h0]
    go_enter Tryd.func40, Tryd.ntmps40
    go_upto_region 1 with fail
    rw [← hw1]
    have S1 : Hid _ := s1
    clear hw1 hz32 s1
    go_wp2_with fail
    refine X.mono ?_
    rintro e wx ⟨rfl, kx, fx⟩
    clear X
    have s1 := S1.out
    have sx := fx.size
    have rx : wx.rowIs w.heap.size 32 32 (fun _ => .int .u8 0) := World.rowIs.of_block r1 (fx.block _ (by omega) hFw)
    have KX : Hid _ := kx
    have FX : Hid _ := fx
    clear kx fx s1 r1
    go_wp2_with (first | (refine wpList_store_row rfl 32 _ _ rfl rfl w.heap.size 0 32 (arrV (rootS L)) rfl rfl hi32' (fun _ _ => rfl) _ _ _ rx (by omega) ?_; intro w6 r6 hz6 hb6))
    have s1 := S1.out
    refine bodyPost_ret (results_cell_seg rfl _ _ w.heap.size 32 32 (arrV (rootS L)) _ rfl Tryd.underlying32 rfl hi32' (r6.congr fun i hi => by rw [if_pos (by omega), Nat.sub_zero])) rfl ⟨rfl, ?_, ?_⟩
    · rw [EN.out, show callsR 0 = 1 from rfl, ← HES.out]
      refine (bookAt.far KX.out (fun j hj hl => hb6.block j hl (fun e => ?_)) (by omega)).grow (fun j hj => ?_) (fun j hj => ?_)
      · rcases hj with hj | hj
        · exact hFw (e ▸ hj)
        · omega
      · rcases hj with hj | hj
        · exact Or.inl hj
        · exact Or.inr ⟨by omega, by omega⟩
      · rcases hj with hj | hj
        · have := hlt j hj; omega
        · exact hj.2
    · exact ((Fr.of_below F b1).trans FX.out (fun _ _ h => h)).trans (G := fun j => j = w.heap.size) ⟨hb6.os, hb6.tape, hb6.output, by omega, fun j hj hne => hb6.block j hj hne⟩ (fun j hj e => by omega)
  · have h1 : L.length = 1 := by omega
    have ES : rootS L = L[0] := by rw [rootS_one h1, List.getD_eq_getElem?_getD, List.getElem?_eq_getElem (by omega)]; rfl
    obtain ⟨hs, a, cap, rfl, hc1, hm1, hcl⟩ := h
    obtain ⟨g, o, rfl, hg, hcell⟩ := hcl (by omega)
    have ld : ∀ j, j < 32 → w1.cell? ⟨g, o + j, none⟩ = some (arrV (rootS L) j) := fun j hj => by
      have := hcell 0 (by omega) j hj
      rw [show o + 0 * 32 + j = o + j by omega] at this
      rw [b1.cell (p := ⟨g, o + j, none⟩) hg, this, ES]
    have LD : Hid _ := ld
    have EN : Hid _ := rootN_one N h1
    have EC : Hid (callsR L.length = 0) := (show callsR L.length = 0 from by unfold callsR; rw [h1]; rfl)
    clear ld hcell hcl hs ES
    rw [h1]
    unfold sumV
    go_enter Tryd.func40, Tryd.ntmps40
    go_upto_region 1 with fail
    rw [← hw1]
    have S1 : Hid _ := s1
    clear hw1 hz32 s1
    go_wp2_with (first | (refine wpList_load_seg rfl 32 _ rfl g o 32 (arrV (rootS L)) rfl _ Tryd.underlying32 rfl hi32' LD.out ?_) | (refine wpList_store_row rfl 32 _ _ rfl rfl w.heap.size 0 32 (arrV (rootS L)) rfl rfl hi32' (fun _ _ => rfl) _ _ _ r1 (by omega) ?_; intro w6 r6 hz6 hb6))
    have s1 := S1.out
    refine bodyPost_ret (results_cell_seg rfl _ _ w.heap.size 32 32 (arrV (rootS L)) _ rfl Tryd.underlying32 rfl hi32' (r6.congr fun i hi => by rw [if_pos (by omega), Nat.sub_zero])) rfl ⟨rfl, ?_, ?_⟩
    · rw [EN.out, show callsR 1 = 0 from rfl, Int.add_zero]
      refine (bookAt.far K1 (fun j hj hl => hb6.block j hl (fun e => hFw (e ▸ hj))) (by omega)).grow (fun j hj => Or.inl hj) (fun j hj => ?_)
      rcases hj with hj | hj
      · have := hlt j hj; omega
      · exact hj.2
    · exact (Fr.of_below F b1).trans (G := fun j => j = w.heap.size) ⟨hb6.os, hb6.tape, hb6.output, by omega, fun j hj hne => hb6.block j hj hne⟩ (fun j hj e => by omega)
end Go.Proofs.YtkgegihkhdgdoaaDoor

/- tree.Root: of two leaves and more. -/
namespace Go.Proofs.YtkgegihkhdgdoaaDoor
set_option linter.unusedSimpArgs false
set_option linter.unusedVariables false
open Go.RowKit Go.Deep

set_option maxHeartbeats 4000000 in
set_option maxRecDepth 100000 in
theorem root_book : ∀ (n : Nat) (F : Nat → Prop) (k : Nat) (N : List Nt) (c : Int) (L : List (List Int)) (v : Value) (w : World), L.length ≤ n → n ≤ 1000 → bookAt w F k N c → sumsAt w v L → (0 < L.length → ∀ j, v.ownBlock = some j → ¬ F j) → tabIs w → ¬ F 1 → N.length + L.length < 100000 → (0 ≤ c ∧ c + (L.length : Int) < 100000000) →
    Calls Tryd.prog 40 #[.pointer (some ⟨k, 0, none⟩), v] w fun e w' => e = .returned (sumV (rootS L)) ∧ bookAt w' (Gr F w w') k (rootN N L) (c + callsR L.length) ∧ Fr F w w' := by
  intro n
  induction n with
  | zero =>
    intro F k N c L v w hn h1000 hk h hvF ht hF0 hN hc
    exact root_book_small F k N c L v w (by omega) hk h ht hF0 hN hc
  | succ n ih =>
  intro F k N c L v w hn h1000 hk h hvF ht hF0 hN hc
  by_cases hsm : L.length ≤ 1
  · exact root_book_small F k N c L v w hsm hk h ht hF0 hN hc
  have h2 : 2 ≤ L.length := by omega
  have hh := half_take h2
  have hz32 := zero_s32
  obtain ⟨w1, hw1⟩ : ∃ w1, w1 = w.alloc (.cells (rowV 32 (fun _ => .int .u8 0)) 32) := ⟨_, rfl⟩
  have r1 : w1.rowIs w.heap.size 32 32 (fun _ => .int .u8 0) := by rw [hw1]; exact rowIs_box w _ _ _
  have b1 : Below w.heap.size w w1 := by rw [hw1]; exact (Below.refl _ _).alloc (Nat.le_refl _) _
  have s1 : w1.heap.size = w.heap.size + 1 := by rw [hw1]; simp
  have X1 := half_any (L.length : Int) (by omega) (by omega) w1
  obtain ⟨ua, ra, sa, oa, xa, ya, rfl⟩ := h.to' (halfN L.length) (by omega)
  obtain ⟨ub, rb, sb, ob, xb, yb, rfl⟩ := h.from' (halfN L.length) (by omega)
  have hvl : ∀ j, v.ownBlock = some j → j < w.heap.size := by
    obtain ⟨_, a, cap, rfl, _, _, h5⟩ := h
    obtain ⟨g, o, rfl, hg, _⟩ := h5 (by omega)
    intro j hj
    have : g = j := by simpa [Value.ownBlock] using hj
    omega
  obtain ⟨TL, hTL⟩ : ∃ TL, TL = L.take (halfN L.length) := ⟨_, rfl⟩
  obtain ⟨DL, hDL⟩ : ∃ DL, DL = L.drop (halfN L.length) := ⟨_, rfl⟩
  have ES : rootS L = nodeS [rootS TL, rootS DL] := by rw [hTL, hDL]; exact rootS_more h2
  have hsT : isSum (rootS TL) := rootS_sum (by rw [hTL]; exact sa.1)
  have hsD : isSum (rootS DL) := rootS_sum (by rw [hDL]; exact sb.1)
  have lT : TL.length = halfN L.length := by rw [hTL]; exact hh.1
  have lD : DL.length = L.length - halfN L.length := by rw [hDL]; exact hh.2.1
  rw [← hTL] at sa
  rw [← hDL] at sb
  have EN : rootN N L = addN (rootN (rootN N TL) DL) (nodeS [rootS TL, rootS DL], nodeT [rootS TL, rootS DL]) := by rw [hTL, hDL]; exact rootN_more N h2
  have EC : callsR L.length = callsR TL.length + callsR DL.length + 1 := by rw [lT, lD]; exact callsR_more hh.2.2.2 hh.2.2.1
  have hlt := hk.2.1
  have hFw : ¬ F w.heap.size := fun hf => by have := hlt _ hf; omega
  have K1 := hk.below b1 (Nat.le_refl _)
  have hcT : 0 ≤ callsR TL.length ∧ callsR TL.length ≤ (TL.length : Int) := by unfold callsR; rw [if_neg (by omega)]; omega
  have hcD : 0 ≤ callsR DL.length ∧ callsR DL.length ≤ (DL.length : Int) := by unfold callsR; rw [if_neg (by omega)]; omega
  have lN1 := (rootNF_length TL.length N TL (Nat.le_refl _)).2 (by omega)
  have lN2 := (rootNF_length DL.length (rootN N TL) DL (Nat.le_refl _)).2 (by omega)
  have XA := ih F k N c TL _ w1.drew (by omega) (by omega) (K1.below ((Below.refl _ _).drew) (Nat.le_refl _)) ((sa.below b1 (Nat.le_refl _)).below ((Below.refl _ _).drew) (Nat.le_refl _)) (fun _ j hj => hvF (by omega) j (oa ▸ hj)) ((ht.below b1 ht.1).below ((Below.refl _ _).drew) (by have := ht.1; omega)) hF0 (by omega) ⟨hc.1, by omega⟩
  have HFW : Hid _ := hFw
  have HLT : Hid _ := hlt
  have HEN : Hid _ := EN
  have HEC : Hid _ := EC
  have HLN : Hid ((rootN N TL).length + 1 ≤ N.length + TL.length ∧ (rootN (rootN N TL) DL).length + 1 ≤ (rootN N TL).length + DL.length) := (show (rootN N TL).length + 1 ≤ N.length + TL.length ∧ (rootN (rootN N TL) DL).length + 1 ≤ (rootN N TL).length + DL.length from ⟨lN1, lN2⟩)
  clear lN1 lN2 EN EC
  unfold sumV at XA ⊢
  have HES : Hid _ := ES
  have hsl : ∃ a cap, v = .slice a L.length cap := by
    obtain ⟨_, a, cap, e, _⟩ := h; exact ⟨a, cap, e⟩
  obtain ⟨va, vc, rfl⟩ := hsl
  have q0 : (2 : Int) ≤ (L.length : Int) := by omega
  have q1 : (L.length : Int) ≤ 1001 := by omega
  have n0 : ¬ (L.length : Int) = 0 := by omega
  have n1 : ¬ (L.length : Int) = 1 := by omega
  have hI : halfI (L.length : Int) = (halfN L.length : Int) := by unfold halfI; rw [Int.toNat_natCast]
  rw [hI] at X1
  have hh2 := hh.2.2
  clear hI ES hTL hDL hh hsm
  go_enter Tryd.func40, Tryd.ntmps40
  go_upto_region 1 with fail
  rw [← hw1]
  have S1 : Hid _ := s1
  have R1 : Hid _ := r1
  have B1 : Hid _ := b1
  have SB : Hid _ := sb
  have HT : Hid _ := ht
  have HVL : Hid _ := hvl
  have HOB : Hid _ := ob
  clear hw1 hz32 s1 r1 b1 sa sb h ht hvl oa ob
  go_wp2_with fail
  refine X1.mono ?_
  rintro e w' ⟨rfl, hw⟩
  obtain rfl := hw.symm
  clear X1 hw
  go_upto_region 7 with fail
  refine wp_region_noPanic ?_
  refine wp_region_held_drew (S := fun w' => True) (by kernel_rfl) trivial (fun hHeld => ?_)
  refine take_op (i := 0) (v := ?va0) rfl (by kernel_rfl) (by kernel_rfl) (by kernel_rfl) (fun _ _ _ h => h) rfl hHeld ?ya0 ?ra0
  case ya0 => (intro wz hz; go_simp; first | done | with_reducible rfl)
  try simp only [Act.put, List.setIfInBounds_toArray, List.set_cons_zero, List.set_cons_succ]
  refine take_op (i := 1) (v := ?va1) rfl (by kernel_rfl) (by kernel_rfl) (by kernel_rfl) (fun _ _ _ h => h) rfl hHeld ?ya1 ?ra1
  case ya1 => (intro wz hz; go_simp; first | done | with_reducible rfl)
  try simp only [Act.put, List.setIfInBounds_toArray, List.set_cons_zero, List.set_cons_succ]
  refine take_op (i := 2) (v := ?va2) rfl (by kernel_rfl) (by kernel_rfl) (by kernel_rfl) (fun _ _ _ h => h) rfl hHeld ?ya2 ?ra2
  case ya2 => (intro wz hz; go_simp; first | done | with_reducible rfl)
  try simp only [Act.put, List.setIfInBounds_toArray, List.set_cons_zero, List.set_cons_succ]
  refine take_op (i := 3) (v := ?va3) rfl (by kernel_rfl) (by kernel_rfl) (by kernel_rfl) (fun _ _ _ h => h) rfl hHeld ?ya3 ?ra3
  case ya3 => (intro wz hz; go_simp; first | done | with_reducible rfl)
  try simp only [Act.put, List.setIfInBounds_toArray, List.set_cons_zero, List.set_cons_succ]
  refine take_op (i := 4) (v := ?va4) rfl (by kernel_rfl) (by kernel_rfl) (by kernel_rfl) (fun _ _ _ h => h) rfl hHeld ?ya4 ?ra4
  case ya4 => (intro wz hz; have hcz := ra wz; go_simp; first | done | with_reducible rfl)
  try simp only [Act.put, List.setIfInBounds_toArray, List.set_cons_zero, List.set_cons_succ]
  refine take_op (i := 6) (v := ?va6) rfl (by kernel_rfl) (by kernel_rfl) (by kernel_rfl) (fun _ _ _ h => h) rfl hHeld ?ya6 ?ra6
  case ya6 => (intro wz hz; go_simp; first | done | with_reducible rfl)
  try simp only [Act.put, List.setIfInBounds_toArray, List.set_cons_zero, List.set_cons_succ]
  refine take_op (i := 7) (v := ?va7) rfl (by kernel_rfl) (by kernel_rfl) (by kernel_rfl) (fun _ _ _ h => h) rfl hHeld ?ya7 ?ra7
  case ya7 => (intro wz hz; go_simp; first | done | with_reducible rfl)
  try simp only [Act.put, List.setIfInBounds_toArray, List.set_cons_zero, List.set_cons_succ]
  refine take_op (i := 8) (v := ?va8) rfl (by kernel_rfl) (by kernel_rfl) (by kernel_rfl) (fun _ _ _ h => h) rfl hHeld ?ya8 ?ra8
  case ya8 => (intro wz hz; go_simp; first | done | with_reducible rfl)
  try simp only [Act.put, List.setIfInBounds_toArray, List.set_cons_zero, List.set_cons_succ]
  refine take_op (i := 9) (v := ?va9) rfl (by kernel_rfl) (by kernel_rfl) (by kernel_rfl) (fun _ _ _ h => h) rfl hHeld ?ya9 ?ra9
  case ya9 => (intro wz hz; have hcz := rb wz; go_simp; first | done | with_reducible rfl)
  try simp only [Act.put, List.setIfInBounds_toArray, List.set_cons_zero, List.set_cons_succ]
  refine take_one (i := 5) rfl (by kernel_rfl) rfl (fun K hK => ?_)
  go_simp
  refine Calls.mono XA ?_
  rintro e w5 ⟨rfl, k5, f5⟩
  clear XA
  have s1 := S1.out
  have s5 : w1.heap.size ≤ w5.heap.size := f5.size
  have f5' : Fr F w1 w5 := ((Fr.refl F w1).drew).trans f5 (fun _ _ h => h)
  have hvF' : ∀ j, (Value.slice va L.length vc).ownBlock = some j → ¬ F j := hvF (by omega)
  have sb5 : sumsAt w5 _ DL := sumsAt.far SB.out (fun _ j hj hl => (f5'.block j (by omega) (hvF' j (HOB.out ▸ hj))).trans (B1.out.block j hl)) (by omega)
  have t5 : tabIs w5 := tabIs.far HT.out ((f5'.block 1 (by have := HT.out.1; omega) hF0).trans (B1.out.block 1 HT.out.1)) (by omega)
  have r5 : w5.rowIs w.heap.size 32 32 (fun _ => .int .u8 0) := World.rowIs.of_block R1.out (f5'.block _ (by omega) HFW.out)
  have XB := ih (Gr F w1.drew w5) k (rootN N TL) (c + callsR TL.length) DL _ w5 (by omega) (by omega) k5 sb5 (fun _ j hj hg => by
    rcases hg with hg | hg
    · exact hvF' j (HOB.out ▸ hj) hg
    · have h1 : w1.heap.size ≤ j := hg.1
      have := HVL.out j (HOB.out ▸ hj); omega) t5 (fun hg => by
    rcases hg with hg | hg
    · exact hF0 hg
    · have h1 : w1.heap.size ≤ 1 := hg.1
      have h9 := HT.out.1
      omega) (by have := HLN.out.1; omega) ⟨by omega, by omega⟩
  unfold sumV at XB
  refine hK.out _ _ trivial (fun hHeld => ?_)
  clear hK K
  try simp only [Act.put, List.setIfInBounds_toArray, List.set_cons_zero, List.set_cons_succ]
  refine take_one (i := 10) rfl (by kernel_rfl) rfl (fun K hK => ?_)
  go_simp
  refine Calls.mono XB ?_
  rintro e w10 ⟨rfl, k10, f10⟩
  clear XB
  have s10 := f10.size
  have hnw : ¬ Gr F w1.drew w5 w.heap.size := fun hg => by
    rcases hg with hg | hg
    · exact HFW.out hg
    · have h1 : w1.heap.size ≤ w.heap.size := hg.1
      omega
  have n010 : ¬ Gr (Gr F w1.drew w5) w5 w10 1 := fun hg => by
    rcases hg with (hg | hg) | hg
    · exact hF0 hg
    · have h1 : w1.heap.size ≤ 1 := hg.1
      have h9 := HT.out.1
      omega
    · have := hg.1; have := HT.out.1; omega
  have t10 : tabIs w10 := tabIs.far t5 (f10.block 1 t5.1 (fun hg => n010 (Or.inl hg))) s10
  have r10 : w10.rowIs w.heap.size 32 32 (fun _ => .int .u8 0) := World.rowIs.of_block r5 (f10.block _ (by omega) hnw)
  have f10' : Fr F w1 w10 := f5'.trans f10 (fun j hj hg => by
    rcases hg with hg | hg
    · exact hg
    · have h1 : w1.heap.size ≤ j := hg.1
      omega)
  refine hK.out _ _ trivial (fun hHeld => ?_)
  clear hK K
  try simp only [Act.put, List.setIfInBounds_toArray, List.set_cons_zero, List.set_cons_succ]
  refine take_one (i := 11) rfl (by kernel_rfl) rfl (fun K hK => ?_)
  refine wp_of_run (exec_bslice2' 39 2 0 1 (.tmp 25) (.tmp 30) _ _ rfl rfl rfl (build_two (arrV (rootS TL)) (arrV (rootS DL)) w10)) ?_
  refine hK.out _ _ trivial (fun hHeld => ?_)
  clear hK K
  try simp only [Act.put, List.setIfInBounds_toArray, List.set_cons_zero, List.set_cons_succ]
  have b11 : Below w10.heap.size w10 (w10.alloc (.cells (rowV 64 (fun j => if j < 32 then arrV (rootS TL) j else arrV (rootS DL) (j - 32))) 32)) := (Below.refl _ _).alloc (Nat.le_refl _) _
  have XC := node_book (Gr (Gr F w1.drew w5) w5 w10) k (rootN (rootN N TL) DL) (c + callsR TL.length + callsR DL.length) [rootS TL, rootS DL] _ _ (k10.below b11 (Nat.le_refl _)) (two_sums w10 _ _ hsT hsD) (by simp) (t10.below b11 t10.1) n010 (by have := HLN.out; omega) ⟨by omega, by omega⟩
  unfold sumV at XC
  refine take_one (i := 12) rfl (by kernel_rfl) rfl (fun K hK => ?_)
  go_simp
  refine Calls.mono XC ?_
  rintro e w12 ⟨rfl, k12, f12⟩
  clear XC
  have s11 := b11.size
  have s12 := f12.size
  have r12 : w12.rowIs w.heap.size 32 32 (fun _ => .int .u8 0) := World.rowIs.of_block r10 ((f12.block _ (by omega) (fun hg => by
    rcases hg with hg | hg
    · exact hnw hg
    · have := hg.1; omega)).trans (b11.block _ (by omega)))
  have f12' : Fr F w1 w12 := (f10'.trans (Fr.of_below F b11) (fun _ _ h => h)).trans f12 (fun j hj hg => by
    rcases hg with (hg | hg) | hg
    · exact hg
    · have h1 : w1.heap.size ≤ j := hg.1
      omega
    · have := hg.1; omega)
  rw [← HES.out] at k12 ⊢
  refine hK.out _ _ trivial (fun hHeld => ?_)
  clear hK K
  try simp only [Act.put, List.setIfInBounds_toArray, List.set_cons_zero, List.set_cons_succ]
  refine take_one (i := 13) rfl (by kernel_rfl) rfl (fun K hK => ?_)
  have hst := stow32T_run w12 w.heap.size (rootS L) r12
  have h9 := stow32T_row w12 w.heap.size (rootS L) r12
  have r9 := h9.1
  have hz9 := h9.2.1
  have hb9 := h9.2.2
  clear h9
  unfold Oper.wp execOp
  simp only [Instr.storeAt, Instr.sureAddr, Sem.run_bind, Sem.run_pure, Result.andThen_ok]
  simp [Act.eval, hst, Oper.upon]
  clear hst
  generalize w12.setCells w.heap.size 0 (rowV 32 (arrV (rootS L))).toList = w9 at r9 hz9 hb9 ⊢
  refine hK.out _ _ trivial (fun hHeld => ?_)
  clear hK K hHeld
  try simp only [Act.put, List.setIfInBounds_toArray, List.set_cons_zero, List.set_cons_succ]
  refine wpAnyH_done (by kernel_rfl) ?_ _
  refine NoPanic.normal ?_
  have RES : Hid (bookAt w9 (Gr F w w9) k (rootN N L) (c + callsR L.length) ∧ Fr F w w9) := (show bookAt w9 (Gr F w w9) k (rootN N L) (c + callsR L.length) ∧ Fr F w w9 from by
    constructor
    · rw [HEN.out, HEC.out, ← HES.out, show c + (callsR TL.length + callsR DL.length + 1) = c + callsR TL.length + callsR DL.length + 1 by omega]
      refine (bookAt.far k12 (fun j hj hl => hb9.block j hl (fun e => ?_)) (by omega)).grow (fun j hj => ?_) (fun j hj => ?_)
      · subst e
        rcases hj with hj | hj
        · rcases hj with hj | hj
          · exact hnw hj
          · have := hj.1; omega
        · have := hj.1; omega
      · rcases hj with ((hj | hj) | hj) | hj
        · exact Or.inl hj
        · have h1 : w1.heap.size ≤ j := hj.1
          exact Or.inr ⟨by omega, by have := hj.2; omega⟩
        · exact Or.inr ⟨by have := hj.1; omega, by have := hj.2; omega⟩
        · exact Or.inr ⟨by have := hj.1; omega, by have := hj.2; omega⟩
      · rcases hj with hj | hj
        · have := HLT.out j hj; omega
        · exact hj.2
    · exact ((Fr.of_below F B1.out).trans f12' (fun _ _ h => h)).trans (G := fun j => j = w.heap.size) ⟨hb9.os, hb9.tape, hb9.output, by omega, fun j hj hne => hb9.block j hj hne⟩ (fun j hj e => by omega))
  clear k12 f12 f12' f10 f10' f5 f5' k10 k5 hb9 r12 r10 r5 t5 t10 b11
  go_wp2
  exact bodyPost_ret (results_cell_seg rfl _ _ w.heap.size 32 32 (arrV (rootS L)) _ rfl Tryd.underlying32 rfl hi32' r9) rfl ⟨rfl, RES.out.1, RES.out.2⟩
end Go.Proofs.YtkgegihkhdgdoaaDoor

/- tree.Root: of two leaves and more. -/
namespace Go.Proofs.YtkgegihkhdgdoaaDoor
set_option linter.unusedSimpArgs false
set_option linter.unusedVariables false
open Go.RowKit Go.Deep

set_option maxHeartbeats 4000000 in
set_option maxRecDepth 100000 in
theorem root_nil : ∀ (n : Nat) (L : List (List Int)) (v : Value) (w : World), L.length ≤ n → n ≤ 1000 → sumsAt w v L → tabIs w →
    Calls Tryd.prog 40 #[.pointer none, v] w fun e w' => e = .returned (sumV (rootS L)) ∧ Below w.heap.size w w' := by
  intro n
  induction n with
  | zero =>
    intro L v w hn h1000 h ht
    exact root_nil_small L v w (by omega) h ht
  | succ n ih =>
  intro L v w hn h1000 h ht
  by_cases hsm : L.length ≤ 1
  · exact root_nil_small L v w hsm h ht
  have h2 : 2 ≤ L.length := by omega
  have hh := half_take h2
  have hz32 := zero_s32
  obtain ⟨w1, hw1⟩ : ∃ w1, w1 = w.alloc (.cells (rowV 32 (fun _ => .int .u8 0)) 32) := ⟨_, rfl⟩
  have r1 : w1.rowIs w.heap.size 32 32 (fun _ => .int .u8 0) := by rw [hw1]; exact rowIs_box w _ _ _
  have b1 : Below w.heap.size w w1 := by rw [hw1]; exact (Below.refl _ _).alloc (Nat.le_refl _) _
  have s1 : w1.heap.size = w.heap.size + 1 := by rw [hw1]; simp
  have X1 := half_any (L.length : Int) (by omega) (by omega) w1
  obtain ⟨ua, ra, sa, oa, xa, ya, rfl⟩ := h.to' (halfN L.length) (by omega)
  obtain ⟨ub, rb, sb, ob, xb, yb, rfl⟩ := h.from' (halfN L.length) (by omega)
  have hvl : ∀ j, v.ownBlock = some j → j < w.heap.size := by
    obtain ⟨_, a, cap, rfl, _, _, h5⟩ := h
    obtain ⟨g, o, rfl, hg, _⟩ := h5 (by omega)
    intro j hj
    have : g = j := by simpa [Value.ownBlock] using hj
    omega
  obtain ⟨TL, hTL⟩ : ∃ TL, TL = L.take (halfN L.length) := ⟨_, rfl⟩
  obtain ⟨DL, hDL⟩ : ∃ DL, DL = L.drop (halfN L.length) := ⟨_, rfl⟩
  have ES : rootS L = nodeS [rootS TL, rootS DL] := by rw [hTL, hDL]; exact rootS_more h2
  have hsT : isSum (rootS TL) := rootS_sum (by rw [hTL]; exact sa.1)
  have hsD : isSum (rootS DL) := rootS_sum (by rw [hDL]; exact sb.1)
  have lT : TL.length = halfN L.length := by rw [hTL]; exact hh.1
  have lD : DL.length = L.length - halfN L.length := by rw [hDL]; exact hh.2.1
  rw [← hTL] at sa
  rw [← hDL] at sb
  have XA := ih TL _ w1.drew (by omega) (by omega) ((sa.below b1 (Nat.le_refl _)).below ((Below.refl _ _).drew) (Nat.le_refl _)) ((ht.below b1 ht.1).below ((Below.refl _ _).drew) (by have := ht.1; omega))
  unfold sumV at XA ⊢
  have HES : Hid _ := ES
  have hsl : ∃ a cap, v = .slice a L.length cap := by
    obtain ⟨_, a, cap, e, _⟩ := h; exact ⟨a, cap, e⟩
  obtain ⟨va, vc, rfl⟩ := hsl
  have q0 : (2 : Int) ≤ (L.length : Int) := by omega
  have q1 : (L.length : Int) ≤ 1001 := by omega
  have n0 : ¬ (L.length : Int) = 0 := by omega
  have n1 : ¬ (L.length : Int) = 1 := by omega
  have hI : halfI (L.length : Int) = (halfN L.length : Int) := by unfold halfI; rw [Int.toNat_natCast]
  rw [hI] at X1
  have hh2 := hh.2.2
  clear hI ES hTL hDL hh hsm
  go_enter Tryd.func40, Tryd.ntmps40
  go_upto_region 1 with fail
  rw [← hw1]
  have S1 : Hid _ := s1
  have R1 : Hid _ := r1
  have B1 : Hid _ := b1
  have SB : Hid _ := sb
  have HT : Hid _ := ht
  have HVL : Hid _ := hvl
  have HOB : Hid _ := ob
  clear hw1 hz32 s1 r1 b1 sa sb h ht hvl oa ob
  go_wp2_with fail
  refine X1.mono ?_
  rintro e w' ⟨rfl, hw⟩
  obtain rfl := hw.symm
  clear X1 hw
  go_upto_region 7 with fail
  refine wp_region_noPanic ?_
  refine wp_region_held_drew (S := fun w' => True) (by kernel_rfl) trivial (fun hHeld => ?_)
  refine take_op (i := 0) (v := ?va0) rfl (by kernel_rfl) (by kernel_rfl) (by kernel_rfl) (fun _ _ _ h => h) rfl hHeld ?ya0 ?ra0
  case ya0 => (intro wz hz; go_simp; first | done | with_reducible rfl)
  try simp only [Act.put, List.setIfInBounds_toArray, List.set_cons_zero, List.set_cons_succ]
  refine take_op (i := 1) (v := ?va1) rfl (by kernel_rfl) (by kernel_rfl) (by kernel_rfl) (fun _ _ _ h => h) rfl hHeld ?ya1 ?ra1
  case ya1 => (intro wz hz; go_simp; first | done | with_reducible rfl)
  try simp only [Act.put, List.setIfInBounds_toArray, List.set_cons_zero, List.set_cons_succ]
  refine take_op (i := 2) (v := ?va2) rfl (by kernel_rfl) (by kernel_rfl) (by kernel_rfl) (fun _ _ _ h => h) rfl hHeld ?ya2 ?ra2
  case ya2 => (intro wz hz; go_simp; first | done | with_reducible rfl)
  try simp only [Act.put, List.setIfInBounds_toArray, List.set_cons_zero, List.set_cons_succ]
  refine take_op (i := 3) (v := ?va3) rfl (by kernel_rfl) (by kernel_rfl) (by kernel_rfl) (fun _ _ _ h => h) rfl hHeld ?ya3 ?ra3
  case ya3 => (intro wz hz; go_simp; first | done | with_reducible rfl)
  try simp only [Act.put, List.setIfInBounds_toArray, List.set_cons_zero, List.set_cons_succ]
  refine take_op (i := 4) (v := ?va4) rfl (by kernel_rfl) (by kernel_rfl) (by kernel_rfl) (fun _ _ _ h => h) rfl hHeld ?ya4 ?ra4
  case ya4 => (intro wz hz; have hcz := ra wz; go_simp; first | done | with_reducible rfl)
  try simp only [Act.put, List.setIfInBounds_toArray, List.set_cons_zero, List.set_cons_succ]
  refine take_op (i := 6) (v := ?va6) rfl (by kernel_rfl) (by kernel_rfl) (by kernel_rfl) (fun _ _ _ h => h) rfl hHeld ?ya6 ?ra6
  case ya6 => (intro wz hz; go_simp; first | done | with_reducible rfl)
  try simp only [Act.put, List.setIfInBounds_toArray, List.set_cons_zero, List.set_cons_succ]
  refine take_op (i := 7) (v := ?va7) rfl (by kernel_rfl) (by kernel_rfl) (by kernel_rfl) (fun _ _ _ h => h) rfl hHeld ?ya7 ?ra7
  case ya7 => (intro wz hz; go_simp; first | done | with_reducible rfl)
  try simp only [Act.put, List.setIfInBounds_toArray, List.set_cons_zero, List.set_cons_succ]
  refine take_op (i := 8) (v := ?va8) rfl (by kernel_rfl) (by kernel_rfl) (by kernel_rfl) (fun _ _ _ h => h) rfl hHeld ?ya8 ?ra8
  case ya8 => (intro wz hz; go_simp; first | done | with_reducible rfl)
  try simp only [Act.put, List.setIfInBounds_toArray, List.set_cons_zero, List.set_cons_succ]
  refine take_op (i := 9) (v := ?va9) rfl (by kernel_rfl) (by kernel_rfl) (by kernel_rfl) (fun _ _ _ h => h) rfl hHeld ?ya9 ?ra9
  case ya9 => (intro wz hz; have hcz := rb wz; go_simp; first | done | with_reducible rfl)
  try simp only [Act.put, List.setIfInBounds_toArray, List.set_cons_zero, List.set_cons_succ]
  refine take_one (i := 5) rfl (by kernel_rfl) rfl (fun K hK => ?_)
  go_simp
  refine Calls.mono XA ?_
  rintro e w5 ⟨rfl, b5⟩
  clear XA
  have s1 := S1.out
  have b5' : Below w1.heap.size w1 w5 := ((Below.refl w1.heap.size w1).drew).trans b5
  have b5w : Below w.heap.size w w5 := B1.out.trans (b5'.mono (by omega))
  have s5 := b5'.size
  have XB := ih DL _ w5 (by omega) (by omega) (sumsAt.below SB.out b5w (Nat.le_refl _)) (tabIs.below HT.out b5w HT.out.1)
  unfold sumV at XB
  refine hK.out _ _ trivial (fun hHeld => ?_)
  clear hK K
  try simp only [Act.put, List.setIfInBounds_toArray, List.set_cons_zero, List.set_cons_succ]
  refine take_one (i := 10) rfl (by kernel_rfl) rfl (fun K hK => ?_)
  go_simp
  refine Calls.mono XB ?_
  rintro e w10 ⟨rfl, b10⟩
  clear XB
  have b10w : Below w.heap.size w w10 := b5w.trans (b10.mono (by omega))
  have s10 := b10.size
  have r10 : w10.rowIs w.heap.size 32 32 (fun _ => .int .u8 0) := b10.row (b5'.row R1.out (by omega)) (by omega)
  refine hK.out _ _ trivial (fun hHeld => ?_)
  clear hK K
  try simp only [Act.put, List.setIfInBounds_toArray, List.set_cons_zero, List.set_cons_succ]
  refine take_one (i := 11) rfl (by kernel_rfl) rfl (fun K hK => ?_)
  refine wp_of_run (exec_bslice2' 39 2 0 1 (.tmp 25) (.tmp 30) _ _ rfl rfl rfl (build_two (arrV (rootS TL)) (arrV (rootS DL)) w10)) ?_
  refine hK.out _ _ trivial (fun hHeld => ?_)
  clear hK K
  try simp only [Act.put, List.setIfInBounds_toArray, List.set_cons_zero, List.set_cons_succ]
  have b11 : Below w10.heap.size w10 (w10.alloc (.cells (rowV 64 (fun j => if j < 32 then arrV (rootS TL) j else arrV (rootS DL) (j - 32))) 32)) := (Below.refl _ _).alloc (Nat.le_refl _) _
  have XC := node_nil [rootS TL, rootS DL] _ _ (two_sums w10 _ _ hsT hsD) (by simp) ((tabIs.below HT.out b10w HT.out.1).below b11 (by have := HT.out.1; have := b10w.size; omega))
  unfold sumV at XC
  refine take_one (i := 12) rfl (by kernel_rfl) rfl (fun K hK => ?_)
  go_simp
  refine Calls.mono XC ?_
  rintro e w12 ⟨rfl, b12⟩
  clear XC
  have s11 := b11.size
  have s12 := b12.size
  have b12w : Below w.heap.size w w12 := (b10w.trans (b11.mono (by omega))).trans (b12.mono (by omega))
  have r12 : w12.rowIs w.heap.size 32 32 (fun _ => .int .u8 0) := b12.row (b11.row r10 (by omega)) (by omega)
  rw [← HES.out]
  refine hK.out _ _ trivial (fun hHeld => ?_)
  clear hK K
  try simp only [Act.put, List.setIfInBounds_toArray, List.set_cons_zero, List.set_cons_succ]
  refine take_one (i := 13) rfl (by kernel_rfl) rfl (fun K hK => ?_)
  have hst := stow32T_run w12 w.heap.size (rootS L) r12
  have h9 := stow32T_row w12 w.heap.size (rootS L) r12
  have r9 := h9.1
  have hz9 := h9.2.1
  have hb9 := h9.2.2
  clear h9
  unfold Oper.wp execOp
  simp only [Instr.storeAt, Instr.sureAddr, Sem.run_bind, Sem.run_pure, Result.andThen_ok]
  simp [Act.eval, hst, Oper.upon]
  clear hst
  generalize w12.setCells w.heap.size 0 (rowV 32 (arrV (rootS L))).toList = w9 at r9 hz9 hb9 ⊢
  refine hK.out _ _ trivial (fun hHeld => ?_)
  clear hK K hHeld
  try simp only [Act.put, List.setIfInBounds_toArray, List.set_cons_zero, List.set_cons_succ]
  refine wpAnyH_done (by kernel_rfl) ?_ _
  refine NoPanic.normal ?_
  have RES : Hid (Below w.heap.size w w9) := (show Below w.heap.size w w9 from b12w.trans (hb9.below' (Nat.le_refl _) b12w.size))
  clear b12w b12 b11 b10 b10w b5 b5w b5' hb9 r12 r10
  go_wp2
  exact bodyPost_ret (results_cell_seg rfl _ _ w.heap.size 32 32 (arrV (rootS L)) _ rfl Tryd.underlying32 rfl hi32' r9) rfl ⟨rfl, RES.out⟩
end Go.Proofs.YtkgegihkhdgdoaaDoor

/- A book's notes: find. -/
namespace Go.Proofs.YtkgegihkhdgdoaaDoor
set_option linter.unusedSimpArgs false
set_option linter.unusedVariables false
open Go.RowKit Go.Deep

end Go.Proofs.YtkgegihkhdgdoaaDoor

/- Clash. -/
namespace Go.Proofs.YtkgegihkhdgdoaaDoor
set_option linter.unusedSimpArgs false
set_option linter.unusedVariables false
open Go.RowKit Go.Deep

/-- which notes clash: behind those of A. -/
def clashGo (A : List Nt) : List Nt → Option (ByteArray × ByteArray)
  | [] => none
  | x :: r => if (firstAt A x.1).isSome = true ∧ foundN A x.1 ≠ x then some ((foundN A x.1).2, x.2) else clashGo (addN A x) r
/-- the notes of the books from place i on. -/
def joinF (ns : Nat → List Nt) (i : Nat) : Nat → List Nt
  | 0 => []
  | k + 1 => ns i ++ joinF ns (i + 1) k
/-- v is a slice of books, nil ones among them. -/
def isBooks (w : World) (v : Value) (n : Nat) (ns : Nat → List Nt) : Prop :=
  (v = .slice none 0 0 ∧ n = 0) ∨ ∃ (qb qo cap : Nat) (pv : Nat → Value), v = .slice (some ⟨qb, qo, none⟩) n cap ∧ qb < w.heap.size ∧ n ≤ maxLen ∧ ∀ i, i < n → w.cell? ⟨qb, qo + i, none⟩ = some (pv i) ∧
    ((pv i = .pointer none ∧ ns i = []) ∨ ∃ (k : Nat) (F : Nat → Prop) (c : Int), pv i = .pointer (some ⟨k, 0, none⟩) ∧ bookAt w F k (ns i) c)
theorem isBooks.open {w : World} {v : Value} {n : Nat} {ns : Nat → List Nt} (h : isBooks w v n ns) :
    ∃ a cap, v = .slice a n cap ∧ n ≤ maxLen ∧ ∀ i, i < n → ∃ qb qo pv, a = some ⟨qb, qo, none⟩ ∧ qb < w.heap.size ∧ w.cell? ⟨qb, qo + i, none⟩ = some pv ∧
    ((pv = .pointer none ∧ ns i = []) ∨ ∃ (k : Nat) (F : Nat → Prop) (c : Int), pv = .pointer (some ⟨k, 0, none⟩) ∧ bookAt w F k (ns i) c) := by
  rcases h with ⟨rfl, rfl⟩ | ⟨qb, qo, cap, pv, rfl, h2, h3, h4⟩
  · exact ⟨_, _, rfl, Nat.zero_le _, fun k hk => by omega⟩
  · exact ⟨_, _, rfl, h3, fun k hk => ⟨qb, qo, pv k, rfl, h2, (h4 k hk).1, (h4 k hk).2⟩⟩
/-- what Clash answers. -/
def clashAnsS (w' : World) (B : Nat) (va vb : Value) (fb : Bool) (r : Option (ByteArray × ByteArray)) : Prop := match r with
  | none => va = .slice none 0 0 ∧ vb = .slice none 0 0 ∧ fb = false
  | some (s, t) => softB w' va (sBytes s) ∧ softB w' vb (sBytes t) ∧ (∀ j, va.ownBlock = some j → B ≤ j) ∧ (∀ j, vb.ownBlock = some j → B ≤ j) ∧ fb = true
def clashAns (w' : World) (B : Nat) (va vb : Value) (fb : Bool) (r : Option (ByteArray × ByteArray)) : Prop := match r with
  | none => va = .slice none 0 0 ∧ vb = .slice none 0 0 ∧ fb = false
  | some (s, t) => isBytes w' va (sBytes s) ∧ isBytes w' vb (sBytes t) ∧ (∀ j, va.ownBlock = some j → B ≤ j) ∧ (∀ j, vb.ownBlock = some j → B ≤ j) ∧ fb = true
/-- the notes ahead. -/
def aheadAt (w wr : World) (L : List Nt) (A R : List Nt) : Prop :=
  notesAt wr (fun j => w.heap.size ≤ j ∧ j < wr.heap.size) w.heap.size A 0 ∧ Below w.heap.size w wr ∧ clashGo [] L = clashGo A R ∧ A.length + R.length ≤ L.length ∧ ∀ x ∈ A, x.2.size ≤ 1000000000
theorem isBytes.below' {w w' : World} {v : Value} {l : List Int} (h : isBytes w v l) (hb : Below w.heap.size w w') : isBytes w' v l := h.below hb (Nat.le_refl _)

end Go.Proofs.YtkgegihkhdgdoaaDoor

/- Where a clash is told, and where none is. Plain mathematics (of any seat). -/
namespace Go.Proofs.YtkgegihkhdgdoaaDoor
set_option linter.unusedSimpArgs false
set_option linter.unusedVariables false
open Go.RowKit Go.Deep

end Go.Proofs.YtkgegihkhdgdoaaDoor

/- Preimages are told apart. Plain mathematics. -/
namespace Go.Proofs.YtkgegihkhdgdoaaDoor
set_option linter.unusedSimpArgs false
set_option linter.unusedVariables false
open Go.RowKit Go.Deep

/-- the parts from place i on. -/
def flatF (ps : Nat → List Int) (i : Nat) : Nat → List Int
  | 0 => []
  | k + 1 => blobB (ps i) ++ flatF ps (i + 1) k
end Go.Proofs.YtkgegihkhdgdoaaDoor

/- What a root binds. Plain mathematics. -/
namespace Go.Proofs.YtkgegihkhdgdoaaDoor
set_option linter.unusedSimpArgs false
set_option linter.unusedVariables false
open Go.RowKit Go.Deep

def ntOf (L : List (List Int)) : Nt := (nodeS L, nodeT L)
theorem addN_le (N : List Nt) (x : Nt) : N.length ≤ (addN N x).length ∧ (addN N x).length ≤ N.length + 1 := by
  by_cases e : x ∈ N
  · rw [addN_in e]; omega
  · rw [addN_out e]; simp
/-- no sum has unlike texts here and there. -/
def noClash (A B : Nt → Prop) : Prop := ∀ x y, A x → B y → x.1 = y.1 → x = y
end Go.Proofs.YtkgegihkhdgdoaaDoor

/- A range over a function that hands out a known list, whose rounds always go on. -/
namespace Go.Proofs.YtkgegihkhdgdoaaDoor
open Go.RowKit Go.Shelf

/-- an iterator that hands out ys, and turns nothing itself. -/
def hands {α : Type} (n : Nat) (P : Program) (gf : Nat) (lb : Array Value) (encs : α → Array Value) (ys : List α) (w : World) : Prop :=
  ∀ (l : Nat) (J : Nat → World → Prop) (W : World), Below w.heap.size w W → (∀ k W, J k W → J k W.drew) → J 0 W →
    (∀ k (hk : k < ys.length) W1, J k W1 → YieldAt Fence.wide (n - 1) P l (encs ys[k]) W1 fun e W' => e = .returned (.bool true) ∧ J (k + 1) W') →
    CallsIn Fence.wide n P gf (#[.func (.yield l) #[] #[]] ++ lb) W fun e W' => (∃ v, e = .returned v) ∧ J ys.length W'

/-- behind a round's body: it goes on, what is no cells lies as it lay. -/
def goesOn (I : Nat → World → Prop) (k : Nat) (W : World) : Exit → Act → World → Prop
  | .normal, _, W' => KeepsOthers W W' ∧ I k W'
  | _, _, _ => False

theorem wpIn_range_list {α : Type} {n : Nat} {P : Program} {g : Operand} {ps : Array Tmp} {assign body : Code} {Q : Exit → Act → World → Prop} {a : Act} {w : World}
    {gf : Nat} {lb : Array Value} (hg : a.eval g = .func (.func gf) #[] lb) (eg : ∀ args w, (callFunc gf args).run P w = .ok (.enter gf args) w)
    {encs : α → Array Value} {ys : List α} (hseq : hands (n - 1) P gf lb encs ys w) (hps : ∀ x, (encs x).size = ps.size)
    (I : Nat → World → Prop) (hI : OwnFrom w.heap.size I) (hd : ∀ k W, I k W → I k W.drew) (h0 : I 0 w) (a₁ : α → Act)
    (hassign : ∀ (l : Nat) (x : α) (W : World) (K : Act → World → Prop), K (a₁ x) W →
      assign.wpIn (Fence.wide.inRound l) (n - 1 - 1) P (Exit.then K (fun _ _ _ => False)) { tmps := (ps.zip (encs x)).foldl (fun t (p, v) => t.setIfInBounds p v) a.tmps, defers := [] } W)
    (hbody : ∀ (l k : Nat) (hk : k < ys.length) (W : World), I k W → body.wpIn (Fence.wide.inRound l) (n - 1 - 1) P (goesOn I (k + 1) W) (a₁ ys[k]) W)
    (hdone : ∀ (D : Nat) (W : World), w.heap.size ≤ D → I ys.length W → W.heap[D]? = some (.deferred (some [])) → Q .normal { a with defers := { target := .collected D, args := #[] } :: a.defers } W) :
    (Code.rangeFunc g ps assign body).wpIn Fence.wide n P Q a w := by
  refine wpIn_rangeFunc fun fn hfn => ?_
  -- the record of the loop, in its two states
  obtain ⟨mk, hmk⟩ : ∃ mk : LoopState → Loop, mk = fun st => { state := st, pending := none, fn, tmps := a.tmps, params := ps, assign, body, defers := w.heap.size } := ⟨_, rfl⟩
  obtain ⟨W1, hW1⟩ : ∃ W1, W1 = (w.alloc (.deferred (some []))).alloc (.loop (mk .ready)) := ⟨_, rfl⟩
  have b1 : Below w.heap.size w W1 := by rw [hW1]; exact ((Below.refl _ _).alloc (Nat.le_refl _) _).alloc (by simp) _
  have c1 : W1.heap[w.heap.size + 1]? = some (.loop (mk .ready)) := by
    rw [hW1]; have := World.alloc_heap_new (w.alloc (.deferred (some []))) (.loop (mk .ready)); rwa [World.size_alloc] at this
  have d1 : W1.heap[w.heap.size]? = some (.deferred (some [])) := by
    rw [hW1]; exact (Below.heap_alloc _ _ _ (by simp)).trans (World.alloc_heap_new w _)
  have i1 : I 0 W1 := by rw [hW1]; exact hI.alloc _ (hI.alloc _ h0)
  refine ⟨w.heap.size + 1, [{ target := .collected w.heap.size, args := #[] }], W1, { target := .fn (.func gf) lb, args := #[.func (.yield (w.heap.size + 1)) #[] #[]] }, W1, gf, #[.func (.yield (w.heap.size + 1)) #[] #[]] ++ lb, W1, ?_, ?_, ?_, ?_, ?_, ?_⟩
  · rw [hW1, hmk]; exact run_enterLoop_outer _ _ _ _ _
  · simp only [resolve, hg]; simp [go_sem]
  · exact fun _ _ => trivial
  · simp [invoke, go_sem, eg]
  · exact fun h => absurd h (by simp [Fence.wide])
  · refine (hseq (w.heap.size + 1) (fun k W => I k W ∧ W.heap[w.heap.size + 1]? = some (.loop (mk .ready)) ∧ W.heap[w.heap.size]? = some (.deferred (some []))) W1 b1 (fun k W h => ⟨hd k W h.1, h.2⟩) ⟨i1, c1, d1⟩ ?_).mono ?_
    · rintro k hk W ⟨hi, hl, hD⟩
      have hlt : w.heap.size + 1 < W.heap.size := (Array.getElem?_eq_some_iff.1 hl).1
      have hy := run_yield (P := P) (args := encs ys[k]) hl (by rw [hmk]; exact hps _)
      have hbg := run_beginRound (P := P) hl (by rw [hmk])
      obtain ⟨W2, hW2⟩ : ∃ W2, W2 = W.putObj (w.heap.size + 1) (.loop { mk .ready with state := .busy }) := ⟨_, rfl⟩
      rw [← hW2] at hbg
      have l2 : W2.heap[w.heap.size + 1]? = some (.loop { mk .ready with state := .busy }) := by rw [hW2]; exact World.putObj_heap_same hlt
      have e2 : W2.heap[w.heap.size]? = some (.deferred (some [])) := by rw [hW2]; exact (World.putObj_heap_other (by omega)).trans hD
      have i2 : I k W2 := by rw [hW2]; exact hI.putObj _ hi (by omega) hl rfl
      have hrec : mk .ready = { state := .ready, pending := none, fn := fn, tmps := a.tmps, params := ps, assign := assign, body := body, defers := w.heap.size } := by rw [hmk]
      rw [hrec] at hy
      refine ⟨fn, _, assign, body, hy, roundIn_of_wpIn hfn (hassign _ ys[k] W _ ⟨W2, hbg, wpIn_mono (hbody _ k hk W2 i2) ?_⟩)⟩
      rintro e a3 W3 hp
      cases e with
      | normal =>
        obtain ⟨hko, hi3⟩ := hp
        have l3 := hko.same _ _ l2 rfl
        have hen := run_endRound (P := P) none l3
        refine ⟨_, _, hen, rfl, hI.putObj _ hi3 (by omega) l3 rfl, ?_, (World.putObj_heap_other (by omega)).trans (hko.same _ _ e2 rfl)⟩
        rw [World.putObj_heap_same (Array.getElem?_eq_some_iff.1 l3).1, hrec]; rfl
      | ret => exact hp.elim
      | exit id => exact hp.elim
      | goto t => exact hp.elim
      | panic ch => exact hp.elim
      | outgrown => exact hp.elim
    · rintro e W2 ⟨⟨v, rfl⟩, hi, hl, hD⟩
      have hen := run_endLoop (P := P) hl (by rw [hmk]; simp)
      exact ⟨_, _, hen, by rw [hmk]; exact hdone _ _ (Nat.le_refl _) (hI.putObj _ hi (by omega) hl rfl) ((World.putObj_heap_other (by omega)).trans hD)⟩
end Go.Proofs.YtkgegihkhdgdoaaDoor

/- A region in a round of a range over a function, by its plain walk; a range whose body keeps what the call has made. -/
namespace Go.Proofs.YtkgegihkhdgdoaaDoor
open Go.RowKit Go.Shelf

/-- Q at the normal end alone. -/
def Calm (Q : Exit → Act → World → Prop) : Exit → Act → World → Prop
  | .normal, a, w => Q .normal a w
  | _, _, _ => False
theorem Calm.no {Q : Exit → Act → World → Prop} (h : LetsOut (Calm Q)) : False := by obtain ⟨_, _, h⟩ := h; exact h
def plainOp (o : Oper) : Bool := match o.op with | .defer _ => false | _ => true
theorem plainOp_is {o : Oper} (h : plainOp o = true) : ∀ c, o.op ≠ .defer c := by
  intro c hc
  unfold plainOp at h
  rw [hc] at h
  cases h
section
variable {P : Program} {ops : Array Oper} {Q : Exit → Act → World → Prop} {S : World → Prop} {md : Region.Mode}
theorem operIn_of_wp {l n : Nat} {o : Oper} {a : Act} {w : World} {K : Act → World → Prop} (hd : plainOp o = true) (h : o.wp P a w K (Calm Q) ∨ (o.asks P a w ∧ LetsOut (Calm Q))) : o.wpIn (Fence.wide.inRound l) n P a w K Q := by
  rcases h with h | h
  · refine ⟨fun _ _ => trivial, ?_⟩
    rw [Oper.semAt_plain _ _ _ (plainOp_is hd)]
    unfold Oper.wp at h
    generalize (execOp a.eval o).run P w = r at h ⊢
    cases r with
    | ok x w' =>
      cases x <;> simp only [Oper.upon, Oper.uponIn] at h ⊢
      case value v => exact h
      case skip => exact h
      case defer d => exact h
      case enter f args =>
        refine ⟨fun h => absurd h (by simp [Fence.wide]), CallsIn.inRound l ((callsIn_wide.2 h).mono fun e w'' he => ?_)⟩
        cases e with
        | returned v => exact he
        | panicked ch => exact (he : False).elim
        | outgrown => exact (Calm.no he).elim
      case row row args =>
        refine ⟨fun h => absurd h (by simp [Fence.wide]), fun c cs _ => ?_⟩
        obtain ⟨v, w'', hv, hs⟩ := h c cs
        exact ⟨v, w'', hv, stepsIn_wide.2 hs⟩
    | halt x w' =>
      cases x <;> simp only [Oper.upon, Oper.uponIn] at h ⊢
      case panic v => exact (h : False).elim
  · exact (Calm.no h.2).elim
theorem wpAnyIn_of_held {l n : Nat} (hd : ops.all plainOp = true) : ∀ (fuel : Nat) (listed : Array Bool) (a : Act) (w : World), wpAnyH P md ops (Calm Q) S fuel listed a w → wpAnyIn (Fence.wide.inRound l) n P md ops Q fuel listed a w
  | 0, _, _, _, h => ⟨h.1, h.2⟩
  | fuel + 1, listed, a, w, h => ⟨fun hr => h.1 hr, fun i hi => by
    have h2 := h.2 i hi
    unfold wpOp at h2
    unfold wpOpIn
    cases ho : ops[i]? with
    | none => rw [ho] at h2; exact wpAnyIn_of_held hd fuel _ a w h2.2
    | some o =>
      rw [ho] at h2
      have hpo : plainOp o = true := by
        rw [Array.all_eq_true_iff_forall_mem] at hd
        exact hd o (Array.mem_of_getElem? ho)
      simp only at h2 ⊢
      split
      · rename_i hw
        rw [if_pos hw] at h2
        exact Oper.wpIn_mono (fun a' w' h' => wpAnyIn_of_held hd fuel _ a' w' h'.2) (operIn_of_wp hpo h2)
      · rename_i hw
        rw [if_neg hw] at h2
        exact ⟨fun _ _ => trivial, wpAnyIn_of_held hd fuel _ _ _ h2.2⟩⟩
/-- A REGION THAT DRAWS, IN A ROUND: walked as anywhere. -/
theorem wpIn_region_round {l n id : Nat} {a : Act} {w : World} (hm : P.follows .mixedOrders = true) (hd : ops.all plainOp = true) (hS : S w.drew)
    (h : S w.drew → wpAnyH P .any ops (Calm Q) S ops.size (Array.replicate ops.size false) a w.drew) : (Code.region id ops true).wpIn (Fence.wide.inRound l) n P Q a w :=
  wpIn_region_any hm (wpAnyIn_of_held hd _ _ _ _ (h hS))
end
/-- append in a fence, by what its run comes to. -/
theorem wpListIn_append_run {F : Fence} {n : Nat} {P : Program} {ops : Array Oper} {rest : List Oper} {o : Oper} {a : Act} {w w' : World} {Q : Exit → Act → World → Prop} {v y r : Value} (hgd : o.guard = none) (s x : Operand) (t : TypeId)
    (ho : o.op = Op.call { callee := Callee.builtin Builtin.append, args := #[s, x], argTypes := #[t, t] }) (hs : a.eval s = v) (hx : a.eval x = y)
    (hr : (Builtin.append_ #[t, t] o.type #[v, y]).run P w = .ok r w') (h : wpListIn F n P ops Q rest (a.put o.dst r) w') : wpListIn F n P ops Q (o :: rest) a w := by
  refine wpListIn_plain hgd fun K hK' => ?_
  unfold Oper.wpIn
  refine ⟨?_, ?_⟩
  · simp [Oper.about, ho, resolve, Target.leads, Sem.run_pure]
  · rw [Oper.semAt_plain F _ _ (by rw [ho]; intro c hc'; cases hc')]
    simp [execOp, ho, resolve, invoke, builtin, hs, hx, hr, Result.andThen]
    exact hK' _ _ h
/-- behind a round's body: it goes on, the loop's two blocks lie as they lay. -/
def goesAt (D : Nat) (I : Nat → World → Prop) (k : Nat) (W : World) : Exit → Act → World → Prop
  | .normal, _, W' => W'.heap[D]? = W.heap[D]? ∧ W'.heap[D + 1]? = W.heap[D + 1]? ∧ I k W'
  | _, _, _ => False
/-- A RANGE OVER A FUNCTION THAT HANDS OUT A KNOWN LIST, whose rounds always go on, and turn whatever they like but the loop's own two blocks. -/
theorem wpIn_range_at {α : Type} {n : Nat} {P : Program} {g : Operand} {ps : Array Tmp} {assign body : Code} {Q : Exit → Act → World → Prop} {a : Act} {w : World}
    {gf : Nat} {lb : Array Value} (hg : a.eval g = .func (.func gf) #[] lb) (eg : ∀ args w, (callFunc gf args).run P w = .ok (.enter gf args) w)
    {encs : α → Array Value} {ys : List α} (hseq : hands (n - 1) P gf lb encs ys w) (hps : ∀ x, (encs x).size = ps.size)
    (I : Nat → World → Prop) (hI : ∀ k W x y, I k W → W.heap[w.heap.size + 1]? = some (.loop x) → I k (W.putObj (w.heap.size + 1) (.loop y))) (hd : ∀ k W, I k W → I k W.drew) (h0 : ∀ o o', I 0 ((w.alloc o).alloc o')) (a₁ : α → Act)
    (hassign : ∀ (l : Nat) (x : α) (W : World) (K : Act → World → Prop), K (a₁ x) W →
      assign.wpIn (Fence.wide.inRound l) (n - 1 - 1) P (Exit.then K (fun _ _ _ => False)) { tmps := (ps.zip (encs x)).foldl (fun t (p, v) => t.setIfInBounds p v) a.tmps, defers := [] } W)
    (hbody : ∀ (l k : Nat) (hk : k < ys.length) (W : World) (x : Loop), I k W → W.heap[w.heap.size]? = some (.deferred (some [])) → W.heap[w.heap.size + 1]? = some (.loop x) → body.wpIn (Fence.wide.inRound l) (n - 1 - 1) P (goesAt w.heap.size I (k + 1) W) (a₁ ys[k]) W)
    (hdone : ∀ (W : World), I ys.length W → W.heap[w.heap.size]? = some (.deferred (some [])) → Q .normal { a with defers := { target := .collected w.heap.size, args := #[] } :: a.defers } W) :
    (Code.rangeFunc g ps assign body).wpIn Fence.wide n P Q a w := by
  refine wpIn_rangeFunc fun fn hfn => ?_
  -- the record of the loop, in its two states
  obtain ⟨mk, hmk⟩ : ∃ mk : LoopState → Loop, mk = fun st => { state := st, pending := none, fn, tmps := a.tmps, params := ps, assign, body, defers := w.heap.size } := ⟨_, rfl⟩
  obtain ⟨W1, hW1⟩ : ∃ W1, W1 = (w.alloc (.deferred (some []))).alloc (.loop (mk .ready)) := ⟨_, rfl⟩
  have b1 : Below w.heap.size w W1 := by rw [hW1]; exact ((Below.refl _ _).alloc (Nat.le_refl _) _).alloc (by simp) _
  have c1 : W1.heap[w.heap.size + 1]? = some (.loop (mk .ready)) := by
    rw [hW1]; have := World.alloc_heap_new (w.alloc (.deferred (some []))) (.loop (mk .ready)); rwa [World.size_alloc] at this
  have d1 : W1.heap[w.heap.size]? = some (.deferred (some [])) := by
    rw [hW1]; exact (Below.heap_alloc _ _ _ (by simp)).trans (World.alloc_heap_new w _)
  have i1 : I 0 W1 := by rw [hW1]; exact h0 _ _
  refine ⟨w.heap.size + 1, [{ target := .collected w.heap.size, args := #[] }], W1, { target := .fn (.func gf) lb, args := #[.func (.yield (w.heap.size + 1)) #[] #[]] }, W1, gf, #[.func (.yield (w.heap.size + 1)) #[] #[]] ++ lb, W1, ?_, ?_, ?_, ?_, ?_, ?_⟩
  · rw [hW1, hmk]; exact run_enterLoop_outer _ _ _ _ _
  · simp only [resolve, hg]; simp [go_sem]
  · exact fun _ _ => trivial
  · simp [invoke, go_sem, eg]
  · exact fun h => absurd h (by simp [Fence.wide])
  · refine (hseq (w.heap.size + 1) (fun k W => I k W ∧ W.heap[w.heap.size + 1]? = some (.loop (mk .ready)) ∧ W.heap[w.heap.size]? = some (.deferred (some []))) W1 b1 (fun k W h => ⟨hd k W h.1, h.2⟩) ⟨i1, c1, d1⟩ ?_).mono ?_
    · rintro k hk W ⟨hi, hl, hD⟩
      have hlt : w.heap.size + 1 < W.heap.size := (Array.getElem?_eq_some_iff.1 hl).1
      have hy := run_yield (P := P) (args := encs ys[k]) hl (by rw [hmk]; exact hps _)
      have hbg := run_beginRound (P := P) hl (by rw [hmk])
      obtain ⟨W2, hW2⟩ : ∃ W2, W2 = W.putObj (w.heap.size + 1) (.loop { mk .ready with state := .busy }) := ⟨_, rfl⟩
      rw [← hW2] at hbg
      have l2 : W2.heap[w.heap.size + 1]? = some (.loop { mk .ready with state := .busy }) := by rw [hW2]; exact World.putObj_heap_same hlt
      have e2 : W2.heap[w.heap.size]? = some (.deferred (some [])) := by rw [hW2]; exact (World.putObj_heap_other (by omega)).trans hD
      have i2 : I k W2 := by rw [hW2]; exact hI _ _ _ _ hi hl
      have hlt2 : w.heap.size + 1 < W2.heap.size := (Array.getElem?_eq_some_iff.1 l2).1
      have hrec : mk .ready = { state := .ready, pending := none, fn := fn, tmps := a.tmps, params := ps, assign := assign, body := body, defers := w.heap.size } := by rw [hmk]
      rw [hrec] at hy
      refine ⟨fn, _, assign, body, hy, roundIn_of_wpIn hfn (hassign _ ys[k] W _ ⟨W2, hbg, wpIn_mono (hbody _ k hk W2 _ i2 e2 l2) ?_⟩)⟩
      rintro e a3 W3 hp
      cases e with
      | normal =>
        obtain ⟨hkD, hkl, hi3⟩ := hp
        have l3 := hkl.trans l2
        have hen := run_endRound (P := P) none l3
        have hlt3 : w.heap.size + 1 < W3.heap.size := (Array.getElem?_eq_some_iff.1 l3).1
        refine ⟨_, _, hen, rfl, hI _ _ _ _ hi3 l3, ?_, (World.putObj_heap_other (by omega)).trans (hkD.trans e2)⟩
        rw [World.putObj_heap_same (Array.getElem?_eq_some_iff.1 l3).1, hrec]; rfl
      | ret => exact hp.elim
      | exit id => exact hp.elim
      | goto t => exact hp.elim
      | panic ch => exact hp.elim
      | outgrown => exact hp.elim
    · rintro e W2 ⟨⟨v, rfl⟩, hi, hl, hD⟩
      have hen := run_endLoop (P := P) hl (by rw [hmk]; simp)
      have hlt2 : w.heap.size + 1 < W2.heap.size := (Array.getElem?_eq_some_iff.1 hl).1
      exact ⟨_, _, hen, by rw [hmk]; exact hdone _ (hI _ _ _ _ hi hl) ((World.putObj_heap_other (by omega)).trans hD)⟩
end Go.Proofs.YtkgegihkhdgdoaaDoor

/- The book that is handed in, or none; a function's ways out, where it ranges over a function. -/
namespace Go.Proofs.YtkgegihkhdgdoaaDoor
set_option linter.unusedSimpArgs false
set_option linter.unusedVariables false
open Go.RowKit Go.Deep

/-- kv is a book of these notes, all its memory in F, or nil. -/
def bkAt (kv : Value) (w : World) (F : Nat → Prop) (N : List Nt) (c : Int) : Prop :=
  (kv = .pointer none ∧ ∀ j, F j → j < w.heap.size) ∨ ∃ k, kv = .pointer (some ⟨k, 0, none⟩) ∧ bookAt w F k N c
section
variable {kv : Value} {w w' : World} {F G : Nat → Prop} {N : List Nt} {c : Int}
theorem bkAt.lt (h : bkAt kv w F N c) : ∀ j, F j → j < w.heap.size := by
  rcases h with ⟨_, h⟩ | ⟨k, _, h⟩
  · exact h
  · exact h.2.1
theorem bkAt.far (h : bkAt kv w F N c) (hb : ∀ j, F j → j < w.heap.size → w'.heap[j]? = w.heap[j]?) (hs : w.heap.size ≤ w'.heap.size) : bkAt kv w' F N c := by
  rcases h with ⟨e, h⟩ | ⟨k, e, h⟩
  · exact Or.inl ⟨e, fun j hj => Nat.lt_of_lt_of_le (h j hj) hs⟩
  · exact Or.inr ⟨k, e, h.far hb hs⟩
theorem bkAt.below {B : Nat} (h : bkAt kv w F N c) (hb : Below B w w') (hB : w.heap.size ≤ B) : bkAt kv w' F N c :=
  h.far (fun j _ hl => hb.block j (by omega)) hb.size
theorem bkAt.grow (h : bkAt kv w F N c) (hG : ∀ j, F j → G j) (hl : ∀ j, G j → j < w.heap.size) : bkAt kv w G N c := by
  rcases h with ⟨e, h⟩ | ⟨k, e, h⟩
  · exact Or.inl ⟨e, hl⟩
  · exact Or.inr ⟨k, e, h.grow hG hl⟩
theorem bkAt.drew (h : bkAt kv w F N c) : bkAt kv w.drew F N c := h.below ((Below.refl w.heap.size w).drew) (Nat.le_refl _)
end
/-- without a book nothing old turns. -/
theorem bkAt.none (w : World) (N : List Nt) (c : Int) : bkAt (.pointer none) w (fun _ => False) N c := Or.inl ⟨rfl, fun _ h => h.elim⟩
theorem Fr.none {w w' : World} (h : Fr (fun _ => False) w w') : Below w.heap.size w w' := h.below (fun _ f => f.elim) (Nat.le_refl _)
theorem node_k (F : Nat → Prop) (kv : Value) (N : List Nt) (c : Int) (L : List (List Int)) (v : Value) (w : World) (hk : bkAt kv w F N c) (h : sumsAt w v L) (hL : L.length ≤ 1000) (ht : tabIs w) (hF0 : ¬ F 1) (hN : N.length < 1000000) (hc : 0 ≤ c ∧ c < 1000000000) :
    Calls Tryd.prog 70 #[kv, v] w fun e w' => e = .returned (sumV (nodeS L)) ∧ bkAt kv w' (Gr F w w') (addN N (ntOf L)) (c + 1) ∧ Fr F w w' := by
  have hlt := hk.lt
  rcases hk with ⟨rfl, _⟩ | ⟨k, rfl, hk⟩
  · refine (node_nil L v w h hL ht).mono ?_
    rintro e w' ⟨rfl, hb⟩
    have := hb.size
    exact ⟨rfl, Or.inl ⟨rfl, fun j hj => by
      rcases hj with hj | hj
      · have := hlt j hj; omega
      · exact hj.2⟩, Fr.of_below F hb⟩
  · refine (node_book F k N c L v w hk h hL ht hF0 hN hc).mono ?_
    rintro e w' ⟨rfl, hb, hf⟩
    exact ⟨rfl, Or.inr ⟨k, rfl, hb⟩, hf⟩
theorem root_k (F : Nat → Prop) (kv : Value) (N : List Nt) (c : Int) (L : List (List Int)) (v : Value) (w : World) (hk : bkAt kv w F N c) (h : sumsAt w v L) (hvF : 0 < L.length → ∀ j, v.ownBlock = some j → ¬ F j) (hL : L.length ≤ 1000) (ht : tabIs w) (hF0 : ¬ F 1) (hN : N.length + L.length < 100000) (hc : 0 ≤ c ∧ c + L.length < 100000000) :
    Calls Tryd.prog 40 #[kv, v] w fun e w' => e = .returned (sumV (rootS L)) ∧ bkAt kv w' (Gr F w w') (rootN N L) (c + callsR L.length) ∧ Fr F w w' := by
  have hlt := hk.lt
  rcases hk with ⟨rfl, _⟩ | ⟨k, rfl, hk⟩
  · refine (root_nil 1000 L v w hL (Nat.le_refl _) h ht).mono ?_
    rintro e w' ⟨rfl, hb⟩
    have := hb.size
    exact ⟨rfl, Or.inl ⟨rfl, fun j hj => by
      rcases hj with hj | hj
      · have := hlt j hj; omega
      · exact hj.2⟩, Fr.of_below F hb⟩
  · refine (root_book 1000 F k N c L v w hL (Nat.le_refl _) hk h hvF ht hF0 (by omega) (by omega)).mono ?_
    rintro e w' ⟨rfl, hb, hf⟩
    exact ⟨rfl, Or.inr ⟨k, rfl, hb⟩, hf⟩
section
variable {P : Program} {fn : Func} {R : Ending → World → Prop} {a : Act} {w : World} {v : Value} {n : Nat}
theorem bodyPostM_ret (hr : (results fn a.tmps).run P w = .ok v w) (hd : a.defers = []) (hR : R (.returned v) w) : bodyPostM Fence.wide n P fn R .ret a w := by
  show LeavesInM Fence.wide n P fn a.tmps R a.defers .returning w
  rw [hd]
  exact ⟨v, hr, hR⟩
theorem bodyPostM_mark {D : Nat} (hd : a.defers = [{ target := .collected D, args := #[] }]) (hK : w.heap[D]? = some (.deferred (some []))) (hr : (results fn a.tmps).run P (w.putObj D (.deferred none)) = .ok v (w.putObj D (.deferred none))) (hR : R (.returned v) (w.putObj D (.deferred none))) : bodyPostM Fence.wide n P fn R .ret a w := by
  show LeavesInM Fence.wide n P fn a.tmps R a.defers .returning w
  rw [hd]
  exact ⟨by simp, .inl ⟨_, _, rfl, run_takeDeferred hK, ⟨v, hr, hR⟩⟩⟩
end
end Go.Proofs.YtkgegihkhdgdoaaDoor

/- bytes.Compare, bytes.Equal, bytes.Clone. -/
namespace Go.Proofs.YtkgegihkhdgdoaaDoor
set_option linter.unusedSimpArgs false
set_option linter.unusedVariables false
open Go.RowKit Go.Deep

/-- lists of bytes, compared: -1, 0, 1. -/
def cmpI : List Int → List Int → Int
  | [], [] => 0
  | [], _ :: _ => -1
  | _ :: _, [] => 1
  | a :: x, b :: y => if a < b then -1 else if b < a then 1 else cmpI x y
theorem cmpI_self : ∀ x : List Int, cmpI x x = 0
  | [] => rfl
  | a :: x => by rw [cmpI, if_neg (by omega), if_neg (by omega)]; exact cmpI_self x
theorem cmpI_zero : ∀ x y : List Int, cmpI x y = 0 → x = y
  | [], [], _ => rfl
  | [], _ :: _, h => by simp [cmpI] at h
  | _ :: _, [], h => by simp [cmpI] at h
  | a :: x, b :: y, h => by
    rw [cmpI] at h
    split at h
    · omega
    · split at h
      · omega
      · rw [cmpI_zero x y h, show a = b by omega]
theorem cmpI_trans : ∀ x y z : List Int, cmpI x y < 0 → cmpI y z < 0 → cmpI x z < 0
  | [], [], _, h, _ => by simp [cmpI] at h
  | [], _ :: _, [], _, h => by simp [cmpI] at h
  | [], _ :: _, _ :: _, _, _ => by simp [cmpI]
  | _ :: _, [], _, h, _ => by simp [cmpI] at h
  | _ :: _, _ :: _, [], _, h => by simp [cmpI] at h
  | a :: x, b :: y, c :: z, h1, h2 => by
    rw [cmpI] at h1 h2 ⊢
    by_cases a1 : a < b
    · by_cases b1 : b < c
      · rw [if_pos (by omega)]; decide
      · rw [if_neg b1] at h2
        by_cases b2 : c < b
        · rw [if_pos b2] at h2; omega
        · rw [if_pos (by omega)]; decide
    · rw [if_neg a1] at h1
      by_cases a2 : b < a
      · rw [if_pos a2] at h1; omega
      · rw [if_neg a2] at h1
        by_cases b1 : b < c
        · rw [if_pos (by omega)]; decide
        · rw [if_neg b1] at h2
          by_cases b2 : c < b
          · rw [if_pos b2] at h2; omega
          · rw [if_neg b2] at h2
            rw [if_neg (by omega), if_neg (by omega)]
            exact cmpI_trans x y z h1 h2
theorem cmp_bytes : ∀ x y : List Int, (∀ b ∈ x, 0 ≤ b ∧ b ≤ 255) → (∀ b ∈ y, 0 ≤ b ∧ b ≤ 255) → Lib.compareBytes (x.map fun n => UInt8.ofNat n.toNat) (y.map fun n => UInt8.ofNat n.toNat) = cmpI x y
  | [], [], _, _ => rfl
  | [], _ :: _, _, _ => rfl
  | _ :: _, [], _, _ => rfl
  | a :: x, b :: y, hx, hy => by
    have ha := hx a (by simp)
    have hb := hy b (by simp)
    have h1 : (UInt8.ofNat a.toNat < UInt8.ofNat b.toNat) ↔ a < b := by rw [UInt8.lt_iff_toNat_lt, UInt8.toNat_ofNat', UInt8.toNat_ofNat']; omega
    have h2 : (UInt8.ofNat b.toNat < UInt8.ofNat a.toNat) ↔ b < a := by rw [UInt8.lt_iff_toNat_lt, UInt8.toNat_ofNat', UInt8.toNat_ofNat']; omega
    rw [List.map_cons, List.map_cons, Lib.compareBytes, cmpI, cmp_bytes x y (fun c hc => hx c (by simp [hc])) (fun c hc => hy c (by simp [hc]))]
    simp only [h1, h2]
theorem any_bytes {w : World} {v : Value} {l : List Int} (h : anyBytes w v l) : ∀ b ∈ l, 0 ≤ b ∧ b ≤ 255 := fun b hb => by
  obtain ⟨i, hi, rfl⟩ := List.getElem_of_mem hb
  have hg : l.getD i 0 = l[i] := by rw [List.getD_eq_getElem?_getD, List.getElem?_eq_getElem hi]; rfl
  rcases h with (⟨_, rfl⟩ | ⟨_, _, _, _, _, _, _, _, h7⟩) | ⟨_, rfl⟩
  · simp at hi
  · rw [← hg]; exact h7 i
  · simp at hi
theorem bytesOf_run (w : World) (v : Value) (l : List Int) (h : anyBytes w v l) : (Extern.Bytes.bytesOf v).run Tryd.prog w = .ok (strOf l) w := by
  rcases h with (⟨rfl, rfl⟩ | ⟨pb, po, cap, rfl, h2, h3, h4, h6, h7⟩) | ⟨⟨a, rfl⟩, rfl⟩
  · rfl
  · have hl := Lib.run_loadBytesX (P := Tryd.prog) w l ⟨pb, po, none⟩ .empty (fun j x hj => by
      have hjl : j < l.length := (List.getElem?_eq_some_iff.1 hj).1
      have e : (⟨pb, po, none⟩ : Addr).add j = ⟨pb, po + j, none⟩ := by unfold Addr.add; split <;> simp_all
      rw [e, h6 j hjl, List.getD_eq_getElem?_getD, hj]
      rfl)
    show (Extern.Bytes.loadBytes ⟨pb, po, none⟩ l.length .empty).run Tryd.prog w = _
    rw [hl]
    congr 1
    apply ByteArray.ext
    show (#[] : Array UInt8) ++ (Lib.bytesOf l).toArray = (strOf l).data
    simp [strOf, Lib.bytesOf]
  · cases a with
    | none => rfl
    | some a => rfl
theorem cmp_run (w : World) (u v : Value) (x y : List Int) (hx : anyBytes w u x) (hy : anyBytes w v y) : (callFunc 68 #[u, v]).run Tryd.prog w = .ok (.value (.int .i64 (cmpI x y))) w := by
  rw [run_callFunc_extern Tryd.func68 (by kernel_rfl) (by kernel_rfl) (by kernel_rfl) (e := Extern.BytealgCompare.compare) (by kernel_rfl)]
  have hc : (Extern.BytealgCompare.compare #[u, v]).run Tryd.prog w = .ok (.int .i64 (cmpI x y)) w := by
    show (do pure (goInt (Extern.BytealgCompare.cmp (← Extern.Bytes.bytesOf u) (← Extern.Bytes.bytesOf v))) : Sem Value).run Tryd.prog w = _
    rw [Sem.run_bind, bytesOf_run w u x hx, Result.andThen_ok, Sem.run_bind, bytesOf_run w v y hy, Result.andThen_ok, Lib.cmp_eq]
    have := cmp_bytes x y (any_bytes hx) (any_bytes hy)
    simp only [strOf]
    rw [this]
    rfl
  rw [hc]
  rfl
theorem compare_any (w : World) (u v : Value) (x y : List Int) (hx : anyBytes w u x) (hy : anyBytes w v y) :
    Calls Tryd.prog 38 #[u, v] w fun e w' => e = .returned (.int .i64 (cmpI x y)) ∧ w' = w := by
  have hr := cmp_run w u v x y hx hy
  clear hx hy
  go_enter Tryd.func38, Tryd.ntmps38
  go_wp2
  go_ret
  exact ⟨rfl, rfl⟩
end Go.Proofs.YtkgegihkhdgdoaaDoor

/- keyed.leaf: a pair's leaf. -/
namespace Go.Proofs.YtkgegihkhdgdoaaDoor
set_option linter.unusedSimpArgs false
set_option linter.unusedVariables false
open Go.RowKit Go.Deep

theorem of_k (F : Nat → Prop) (kv : Value) (N : List Nt) (c kind : Int) (n : Nat) (v : Value) (ps : Nat → List Int) (w : World) (hk : bkAt kv w F N c) (hp : anyParts w v n ps) (hs : ∀ i, i ≤ n → 1 + (flatTo (blobsB ps) i).length ≤ 100000000) (ht : tabIs w) (hF0 : ¬ F 1) (hN : N.length < 1000000) (hc : 0 ≤ c ∧ c < 1000000000) :
    Calls Tryd.prog 69 #[kv, .int .i64 kind, v] w fun e w' => e = .returned (sumV (sumL (preB kind n ps))) ∧ bkAt kv w' (Gr F w w') (addN N (sumL (preB kind n ps), strOf (preB kind n ps))) (c + 1) ∧ Fr F w w' := by
  have hlt := hk.lt
  rcases hk with ⟨rfl, _⟩ | ⟨k, rfl, hk⟩
  · refine (of_nil kind n v ps w hp hs ht).mono ?_
    rintro e w' ⟨rfl, hb⟩
    have := hb.size
    exact ⟨rfl, Or.inl ⟨rfl, fun j hj => by
      rcases hj with hj | hj
      · have := hlt j hj; omega
      · exact hj.2⟩, Fr.of_below F hb⟩
  · refine (of_any F k N c kind n v ps w hk hp hs ht hF0 hN hc).mono ?_
    rintro e w' ⟨rfl, hb, hf⟩
    exact ⟨rfl, Or.inr ⟨k, rfl, hb⟩, hf⟩
/-- a pair: key, value. -/
abbrev Pr := List Int × List Int
def prPs (x : Pr) (i : Nat) : List Int := if i = 0 then x.1 else x.2
def leafB (x : Pr) : List Int := preB 4 2 (prPs x)
def leafS (x : Pr) : List Int := sumL (leafB x)
def leafNt (x : Pr) : Nt := (leafS x, strOf (leafB x))
theorem leafS_sum (x : Pr) : isSum (leafS x) := sumL_is _
theorem blobB_le (l : List Int) : (blobB l).length ≤ l.length + 9 := by
  unfold blobB
  rw [List.length_append]
  have := numB_le (l.length : Int)
  omega
theorem prPs_light (x : Pr) (h : x.1.length + x.2.length ≤ 1000000) : ∀ i, i ≤ 2 → 1 + (flatTo (blobsB (prPs x)) i).length ≤ 100000000 := fun i hi => by
  have h1 := flatTo_mono (blobsB (prPs x)) 2 i hi
  have h2 : (flatTo (blobsB (prPs x)) 2).length = (blobB x.1).length + (blobB x.2).length := by simp [flatTo, blobsB, prPs]
  have h3 := blobB_le x.1
  have h4 := blobB_le x.2
  omega
theorem parts_two (w : World) (kc vc : Value) (x : Pr) (h1 : anyBytes w kc x.1) (h2 : anyBytes w vc x.2) : isParts (w.alloc (.cells #[kc, vc] 23)) (.slice (some ⟨w.heap.size, 0, none⟩) 2 2) 2 (prPs x) := by
  have hb : (w.alloc (.cells #[kc, vc] 23)).heap[w.heap.size]? = some (.cells #[kc, vc] 23) := blk_alloc_new _ _
  have bw : Below w.heap.size w (w.alloc (.cells #[kc, vc] 23)) := (Below.refl _ _).alloc (Nat.le_refl _) _
  refine Or.inr ⟨w.heap.size, 0, 2, fun i => if i = 0 then kc else vc, rfl, by simp, by decide, fun i hi => ?_⟩
  rw [cell_of_row _ _ _ _ _ _ hb]
  have : i = 0 ∨ i = 1 := by omega
  rcases this with rfl | rfl
  · exact ⟨rfl, h1.below bw (Nat.le_refl _)⟩
  · exact ⟨rfl, h2.below bw (Nat.le_refl _)⟩
set_option maxHeartbeats 2000000 in
set_option maxRecDepth 100000 in
theorem leaf_k (F : Nat → Prop) (kv : Value) (N : List Nt) (c : Int) (kc vc : Value) (x : Pr) (w : World) (hk : bkAt kv w F N c) (h1 : anyBytes w kc x.1) (h2 : anyBytes w vc x.2) (hx : x.1.length + x.2.length ≤ 1000000) (ht : tabIs w) (hF0 : ¬ F 1) (hN : N.length < 1000000) (hc : 0 ≤ c ∧ c < 1000000000) :
    Calls Tryd.prog 63 #[kv, .agg #[kc, vc]] w fun e w' => e = .returned (sumV (leafS x)) ∧ bkAt kv w' (Gr F w w') (addN N (leafNt x)) (c + 1) ∧ Fr F w w' := by
  have hz32 := zero_s32
  have hlt := hk.lt
  obtain ⟨w1, hw1⟩ : ∃ w1, w1 = (w.alloc (.cells #[kc, vc] 38)).alloc (.cells (rowV 32 (fun _ => .int .u8 0)) 32) := ⟨_, rfl⟩
  have b1 : Below w.heap.size w w1 := by rw [hw1]; exact ((Below.refl _ _).alloc (Nat.le_refl _) _).alloc (by simp) _
  have z1 : w1.heap.size = w.heap.size + 2 := by rw [hw1]; simp
  have rz : w1.rowIs (w.heap.size + 1) 32 32 (fun _ => .int .u8 0) := by
    have r := rowIs_box (w.alloc (.cells #[kc, vc] 38)) 32 32 (fun _ => .int .u8 0)
    rw [World.size_alloc] at r; rw [hw1]; exact r
  have hb0 : w1.heap[w.heap.size]? = some (.cells #[kc, vc] 38) := by rw [hw1, blk_alloc_lt _ _ _ (by simp), blk_alloc_new]
  have c0 : w1.cell? ⟨w.heap.size, 0, none⟩ = some kc := by rw [cell_of_row _ _ _ _ _ _ hb0]; rfl
  have c1 : w1.cell? ⟨w.heap.size, 1, none⟩ = some vc := by rw [cell_of_row _ _ _ _ _ _ hb0]; rfl
  obtain ⟨w2, hw2⟩ : ∃ w2, w2 = w1.alloc (.cells #[kc, vc] 23) := ⟨_, rfl⟩
  have b2 : Below w1.heap.size w1 w2 := by rw [hw2]; exact (Below.refl _ _).alloc (Nat.le_refl _) _
  have z2 : w2.heap.size = w1.heap.size + 1 := by rw [hw2]; simp
  have b02 : Below w.heap.size w w2 := b1.trans (b2.mono (by omega))
  have hp : isParts w2 (.slice (some ⟨w1.heap.size, 0, none⟩) 2 2) 2 (prPs x) := by rw [hw2]; exact parts_two w1 kc vc x (h1.below b1 (Nat.le_refl _)) (h2.below b1 (Nat.le_refl _))
  have X := of_k F kv N c 4 2 _ (prPs x) w2 (hk.below b02 (Nat.le_refl _)) hp.any (prPs_light x hx) (ht.below b02 ht.1) hF0 hN hc
  have X' : Calls Tryd.prog 69 #[kv, .int .i64 4, .slice (some ⟨w1.heap.size, 0, none⟩) 2 2] w2 fun e w' => e = .returned (.agg (rowV 32 (arrV (leafS x)))) ∧ bkAt kv w' (Gr F w2 w') (addN N (leafNt x)) (c + 1) ∧ Fr F w2 w' := X
  have HX : Hid (∀ w3, bkAt kv w3 (Gr F w2 w3) (addN N (leafNt x)) (c + 1) → Fr F w2 w3 → w3.rowIs (w.heap.size + 1) 32 32 (fun _ => .int .u8 0) ∧ ∀ w4, But w3.heap.size (w.heap.size + 1) w3 w4 → w4.heap.size = w3.heap.size → bkAt kv w4 (Gr F w w4) (addN N (leafNt x)) (c + 1) ∧ Fr F w w4) := (show _ from fun w3 k3 f3 => by
    have s3 := f3.size
    have nF : ∀ j, w.heap.size ≤ j → ¬ F j := fun j hj hf => by have := hlt j hf; omega
    refine ⟨World.rowIs.of_block (b2.row rz (by omega)) (f3.block _ (by omega) (nF _ (by omega))), fun w4 b4 z4 => ⟨?_, ?_⟩⟩
    · refine (bkAt.far k3 (fun j hj hl => b4.block j hl (fun e => ?_)) b4.size).grow (fun j hj => ?_) (fun j hj => ?_)
      · rcases hj with hj | hj
        · exact nF j (by omega) hj
        · omega
      · rcases hj with hj | hj
        · exact Or.inl hj
        · exact Or.inr ⟨by omega, by omega⟩
      · rcases hj with hj | hj
        · have := hlt j hj; omega
        · exact hj.2
    · exact ⟨b4.os.trans (f3.os.trans b02.os), b4.tape.trans (f3.tape.trans b02.tape), b4.output.trans (f3.output.trans b02.output), by have := b02.size; omega, fun j hj hn => (b4.block j (by omega) (by omega)).trans ((f3.block j (by omega) hn).trans (b02.block j hj))⟩)
  obtain ⟨ka, kcap, rfl, _⟩ := h1.slice
  obtain ⟨va, vcap, rfl, _⟩ := h2.slice
  clear X hk h1 h2 hp b1 b2 b02 z1 z2 rz hb0 hx ht hlt
  unfold sumV
  go_enter Tryd.func63, Tryd.ntmps63
  go_upto_region 1 with fail
  rw [← hw1]
  clear hw1
  go_wp2_with fail
  rw [← hw2]
  clear hw2 c0 c1
  refine X'.mono ?_
  rintro e w3 ⟨rfl, k3, f3⟩
  obtain ⟨r3, K3⟩ := HX.out w3 k3 f3
  have HK3 : Hid _ := K3
  clear X' HX k3 f3 K3
  go_wp2_with (refine wpList_store_row rfl 32 _ _ rfl rfl (w.heap.size + 1) 0 32 (arrV (leafS x)) rfl rfl hi32' (fun _ _ => rfl) _ _ _ r3 (by omega) ?_; intro w4 r4 hz4 hb4)
  exact bodyPost_ret (results_cell_seg rfl _ _ (w.heap.size + 1) 32 32 (arrV (leafS x)) _ rfl Tryd.underlying32 rfl hi32' (r4.congr fun i hi => by rw [if_pos (by omega), Nat.sub_zero])) rfl ⟨rfl, HK3.out w4 hb4 hz4⟩
end Go.Proofs.YtkgegihkhdgdoaaDoor
