import Derived.Test.YtldjefhgbigplaaPackFirst
namespace Go.Proofs.Ytldjefhgbigplaa
open Go.RowKit Go.Deep

def errI (b : Bool) : Int := if b then 2 else 0
/-- a Cut in memory. -/
def cutV (v : Value) (b : Bool) (j : Nat) : Value := if j = 0 then v else .bool b
def cutIs (w : World) (c : Nat) (v : Value) (b : Bool) : Prop := w.rowIs c 49 2 (cutV v b)
theorem cutIs.c0 {w : World} {c : Nat} {v : Value} {b : Bool} (h : cutIs w c v b) : w.cell? ⟨c, 0, none⟩ = some v := h.cell (i := 0) (by omega)
theorem cutIs.c1 {w : World} {c : Nat} {v : Value} {b : Bool} (h : cutIs w c v b) : w.cell? ⟨c, 1, none⟩ = some (.bool b) := h.cell (i := 1) (by omega)
theorem cutIs.lt {w : World} {c : Nat} {v : Value} {b : Bool} (h : cutIs w c v b) : c < w.heap.size := World.block_lt_of_cell? _ _ h.c0
theorem cutIs.set0 {w : World} {c : Nat} {v : Value} {b : Bool} (h : cutIs w c v b) (u : Value) : cutIs (w.setCell ⟨c, 0, none⟩ u) c u b := (World.rowIs.set h 0 u).congr fun i hi => by
  unfold cutV; split <;> rfl
theorem cutIs.set1 {w : World} {c : Nat} {v : Value} {b : Bool} (h : cutIs w c v b) (u : Bool) : cutIs (w.setCell ⟨c, 1, none⟩ (.bool u)) c v u := (World.rowIs.set h 1 (.bool u)).congr fun i hi => by
  unfold cutV
  by_cases e : i = 1
  · subst e; rfl
  · obtain rfl : i = 0 := by omega
    rfl
/-- A CUT, WITH THESE BYTES LEFT, AND A FAULT OR NONE: all its memory lies from B on. -/
def cutOf (w : World) (B c : Nat) (l : List Int) (b : Bool) : Prop :=
  ∃ v, cutIs w c v b ∧ isBytes w v l ∧ B ≤ c ∧ ∀ k, v.ownBlock = some k → B ≤ k ∧ k ≠ c
theorem cutOf.lt {w : World} {B c : Nat} {l : List Int} {b : Bool} (h : cutOf w B c l b) : c < w.heap.size := by
  obtain ⟨v, h, _⟩ := h; exact h.lt
theorem cutOf.ge {w : World} {B c : Nat} {l : List Int} {b : Bool} (h : cutOf w B c l b) : B ≤ c := by
  obtain ⟨v, _, _, h, _⟩ := h; exact h
theorem cutOf.byte {w : World} {B c : Nat} {l : List Int} {b : Bool} (h : cutOf w B c l b) (i : Nat) : 0 ≤ l.getD i 0 ∧ l.getD i 0 ≤ 255 := by
  obtain ⟨v, _, h, _⟩ := h; exact h.byte i
theorem cutOf.len {w : World} {B c : Nat} {l : List Int} {b : Bool} (h : cutOf w B c l b) : l.length ≤ maxLen := by
  obtain ⟨v, _, h, _⟩ := h
  obtain ⟨_, _, _, h⟩ := h.slice
  exact h
/-- what happens elsewhere leaves a Cut as it was. -/
theorem cutOf.far {w w' : World} {B c : Nat} {l : List Int} {b : Bool} (h : cutOf w B c l b) (hb : ∀ k, k < w.heap.size → B ≤ k → w'.heap[k]? = w.heap[k]?) (hs : w.heap.size ≤ w'.heap.size) : cutOf w' B c l b := by
  obtain ⟨v, h1, h2, h3, h4⟩ := h
  exact ⟨v, h1.of_block (hb c h1.lt h3), h2.far (fun k hk => hb k (h2.block k hk) (h4 k hk).1) hs, h3, h4⟩
theorem cutOf.below {w w' : World} {B C c : Nat} {l : List Int} {b : Bool} (h : cutOf w B c l b) (hb : Below C w w') (hC : w.heap.size ≤ C) : cutOf w' B c l b :=
  h.far (fun k hk _ => hb.block k (by omega)) hb.size
theorem cutOf.mono {w : World} {B C c : Nat} {l : List Int} {b : Bool} (h : cutOf w B c l b) (hC : C ≤ B) : cutOf w C c l b := by
  obtain ⟨v, h1, h2, h3, h4⟩ := h
  exact ⟨v, h1, h2, by omega, fun k hk => ⟨by have := h4 k hk; omega, (h4 k hk).2⟩⟩
theorem cutOf.fail {w : World} {B c : Nat} {l : List Int} {b : Bool} (h : cutOf w B c l b) : cutOf (w.setCell ⟨c, 1, none⟩ (.bool true)) B c l true := by
  obtain ⟨v, h1, h2, h3, h4⟩ := h
  refine ⟨v, h1.set1 true, h2.far (fun k hk => blk_setCell_other _ _ _ _ (h4 k hk).2) (by rw [nblk_setCell]; exact Nat.le_refl _), h3, h4⟩

set_option maxHeartbeats 400000 in
theorem err_any (c : Nat) (v : Value) (b : Bool) (w : World) (h : cutIs w c v b) :
    Calls Try.prog 28 #[.pointer (some ⟨c, 0, none⟩)] w fun e w' => e = .returned (.int .i64 (errI b)) ∧ w' = w := by
  have c1 := h.c1
  cases b
  · go_enter Try.func28, Try.ntmps28
    go_wp2
    go_ret
    exact ⟨rfl, rfl⟩
  · go_enter Try.func28, Try.ntmps28
    go_wp2
    go_ret
    exact ⟨rfl, rfl⟩
theorem err_nil (w : World) : Calls Try.prog 28 #[.pointer none] w fun e w' => e = .returned (.int .i64 2) ∧ w' = w := by
  go_enter Try.func28, Try.ntmps28
  go_wp2
  go_ret
  exact ⟨rfl, rfl⟩
theorem fail_any (c B : Nat) (l : List Int) (b : Bool) (w : World) (h : cutOf w B c l b) :
    Calls Try.prog 36 #[.pointer (some ⟨c, 0, none⟩)] w fun e w' => e = .returned (.tuple #[]) ∧ cutOf w' B c l true ∧ But w.heap.size c w w' := by
  have HF : Hid _ := h.fail
  obtain ⟨v, h1, h2, h3, h4⟩ := h
  have c1 := h1.c1
  have z1 := World.rowIs.frozen h1 1
  clear h1 h2 h3 h4
  go_enter Try.func36, Try.ntmps36
  go_wp2
  go_end0
  exact ⟨rfl, HF.out, (But.refl _ _ _).set 1 _⟩
theorem fail_nil (w : World) : Calls Try.prog 36 #[.pointer none] w fun e w' => e = .returned (.tuple #[]) ∧ w' = w := by
  go_enter Try.func36, Try.ntmps36
  go_wp2
  go_end0
  exact ⟨rfl, rfl⟩
theorem left_any (c B : Nat) (l : List Int) (b : Bool) (w : World) (h : cutOf w B c l b) :
    Calls Try.prog 26 #[.pointer (some ⟨c, 0, none⟩)] w fun e w' => e = .returned (.int .i64 (l.length : Int)) ∧ w' = w := by
  obtain ⟨v, h1, h2, h3, h4⟩ := h
  have c0 := h1.c0
  obtain ⟨a, cp, rfl, hm⟩ := h2.slice
  clear h1 h2 h3 h4
  go_enter Try.func26, Try.ntmps26
  go_wp2
  go_ret
  exact ⟨rfl, rfl⟩
theorem left_nil (w : World) : Calls Try.prog 26 #[.pointer none] w fun e w' => e = .returned (.int .i64 0) ∧ w' = w := by
  go_enter Try.func26, Try.ntmps26
  go_wp2
  go_ret
  exact ⟨rfl, rfl⟩
/-- Err, of a Cut. -/
theorem err_of (c B : Nat) (l : List Int) (b : Bool) (w : World) (h : cutOf w B c l b) :
    Calls Try.prog 28 #[.pointer (some ⟨c, 0, none⟩)] w fun e w' => e = .returned (.int .i64 (errI b)) ∧ w' = w := by
  obtain ⟨v, h1, _⟩ := h
  exact err_any c v b w h1
/-- a fault, or bytes that are left. -/
def doneB (l : List Int) (b : Bool) : Bool := b || decide (0 < l.length)
set_option maxHeartbeats 400000 in
theorem done_any (c B : Nat) (l : List Int) (b : Bool) (w : World) (h : cutOf w B c l b) :
    Calls Try.prog 27 #[.pointer (some ⟨c, 0, none⟩)] w fun e w' => e = .returned (.int .i64 (errI (doneB l b))) ∧ cutOf w' B c l (doneB l b) ∧ But w.heap.size c w w' := by
  have HC : Hid _ := h
  have hm := h.len
  unfold maxLen at hm
  clear h
  by_cases hl : 0 < l.length
  · have e1 : doneB l b = true := by simp [doneB, hl]
    have hl2 : (0 : Int) < (l.length : Int) := by omega
    rw [e1]
    go_enter Try.func27, Try.ntmps27
    go_wp2_with fail
    refine (left_any c B l b _ HC.out).mono ?_
    rintro e w' ⟨rfl, hw⟩
    obtain rfl := hw.symm
    clear hw
    go_wp2_with fail
    refine (fail_any c B l b _ HC.out).mono ?_
    rintro e w1 ⟨rfl, hc1, hb1⟩
    have HC1 : Hid _ := hc1
    clear hc1
    go_wp2_with fail
    refine (err_of c B l true _ HC1.out).mono ?_
    rintro e w' ⟨rfl, hw⟩
    obtain rfl := hw.symm
    clear hw
    go_wp2
    go_ret
    exact ⟨rfl, HC1.out, hb1⟩
  · have e1 : doneB l b = b := by simp [doneB, hl]
    have hl2 : (l.length : Int) ≤ 0 := by omega
    rw [e1]
    go_enter Try.func27, Try.ntmps27
    go_wp2_with fail
    refine (left_any c B l b _ HC.out).mono ?_
    rintro e w' ⟨rfl, hw⟩
    obtain rfl := hw.symm
    clear hw
    go_wp2_with fail
    refine (err_of c B l b _ HC.out).mono ?_
    rintro e w' ⟨rfl, hw⟩
    obtain rfl := hw.symm
    clear hw
    go_wp2
    go_ret
    exact ⟨rfl, HC.out, But.refl _ _ _⟩
theorem done_nil (w : World) : Calls Try.prog 27 #[.pointer none] w fun e w' => e = .returned (.int .i64 2) ∧ w' = w := by
  go_enter Try.func27, Try.ntmps27
  go_wp2_with fail
  refine (left_nil _).mono ?_
  rintro e w' ⟨rfl, hw⟩
  obtain rfl := hw.symm
  clear hw
  go_wp2_with fail
  refine (err_nil _).mono ?_
  rintro e w' ⟨rfl, hw⟩
  obtain rfl := hw.symm
  clear hw
  go_wp2
  go_ret
  exact ⟨rfl, rfl⟩

set_option maxHeartbeats 400000 in
theorem clone_any (v : Value) (l : List Int) (w : World) (hv : isBytes w v l) (hl : l.length ≤ 1099511627776) :
    Calls Try.prog 34 #[v] w fun e w' => ∃ v', e = .returned v' ∧ newBytes w' w.heap.size v' l ∧ Below w.heap.size w w' := by
  by_cases hn : v = .slice none 0 0
  · subst hn
    have hl0 : l = [] := by
      rcases hv with ⟨_, h⟩ | ⟨pb, po, cap, h1, _⟩
      · exact h
      · cases h1
    subst hl0
    clear hv
    have hq := fun wx : World => Go.Lib.run_eql_slice_nil (P := Try.prog) wx 22 5 none 0 0 0 0 Try.underlying22
    go_enter Try.func34, Try.ntmps34
    go_wp2
    go_ret
    exact ⟨_, rfl, newBytes.nil _ _, Below.refl _ _⟩
  · obtain ⟨v', w', hr, hn', hb'⟩ := bytes_copy_run w v l hv hl
    rcases hv with ⟨h, _⟩ | ⟨pb, po, cap, rfl, _⟩
    · exact absurd h hn
    · have HN : Hid _ := hn'
      have HB : Hid _ := hb'
      clear hn' hb' hn
      have hq := fun wx : World => Go.Lib.run_eql_slice_nil (P := Try.prog) wx 22 5 (some ⟨pb, po, none⟩) l.length cap 0 0 Try.underlying22
      go_enter Try.func34, Try.ntmps34
      go_wp2_with (first | (at_builtin; refine wpList_append_run rfl _ _ _ rfl rfl rfl hr ?_))
      go_ret
      exact ⟨_, rfl, HN.out, HB.out⟩
set_option maxHeartbeats 400000 in
theorem from_any (v : Value) (l : List Int) (w : World) (hv : isBytes w v l) (hl : l.length ≤ 1099511627776) :
    Calls Try.prog 18 #[v] w fun e w' => ∃ c, e = .returned (.pointer (some ⟨c, 0, none⟩)) ∧ cutOf w' w.heap.size c l false ∧ Below w.heap.size w w' := by
  go_enter Try.func18, Try.ntmps18
  go_wp2_with fail
  refine (clone_any v l w hv hl).mono ?_
  rintro e w1 ⟨v1, rfl, hn1, hb1⟩
  have HN : Hid _ := hn1
  have HB : Hid _ := hb1
  have hsz := hb1.size
  obtain ⟨a1, cp1, rfl, _⟩ := hn1.is.slice
  clear hn1 hb1 hv
  go_wp2
  go_ret
  refine ⟨_, rfl, ⟨.slice a1 l.length cp1, ?_, newBytes.is (HN.out |> fun h => newBytes.below h ((Below.refl _ _).alloc (Nat.le_refl _) _) (Nat.le_refl _)), hsz, fun k hk => ?_⟩, HB.out.alloc hsz _⟩
  · refine rowIs_new w1 _ _ 2 _ rfl (fun i hi => ?_)
    have : i = 0 ∨ i = 1 := by omega
    rcases this with rfl | rfl <;> rfl
  · have := newBytes.block HN.out k hk
    omega
end Go.Proofs.Ytldjefhgbigplaa
