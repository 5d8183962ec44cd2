import Derived.Test.YtldjefhgbigplaaRefFirst
namespace Go.Proofs.Ytldjefhgbigplaa
set_option linter.unusedVariables false
open Go.RowKit Go.Deep

/-- the document's Cut in memory. -/
def rcutIs (w : World) (c : Nat) (v : Value) (b : Bool) : Prop := w.rowIs c 38 2 (cutV v b)
theorem rcutIs.c0 {w : World} {c : Nat} {v : Value} {b : Bool} (h : rcutIs w c v b) : w.cell? ⟨c, 0, none⟩ = some v := h.cell (i := 0) (by omega)
theorem rcutIs.c1 {w : World} {c : Nat} {v : Value} {b : Bool} (h : rcutIs w c v b) : w.cell? ⟨c, 1, none⟩ = some (.bool b) := h.cell (i := 1) (by omega)
theorem rcutIs.lt {w : World} {c : Nat} {v : Value} {b : Bool} (h : rcutIs w c v b) : c < w.heap.size := World.block_lt_of_cell? _ _ h.c0
theorem rcutIs.set0 {w : World} {c : Nat} {v : Value} {b : Bool} (h : rcutIs w c v b) (u : Value) : rcutIs (w.setCell ⟨c, 0, none⟩ u) c u b := (World.rowIs.set h 0 u).congr fun i hi => by
  unfold cutV; split <;> rfl
theorem rcutIs.set1 {w : World} {c : Nat} {v : Value} {b : Bool} (h : rcutIs w c v b) (u : Bool) : rcutIs (w.setCell ⟨c, 1, none⟩ (.bool u)) c v u := (World.rowIs.set h 1 (.bool u)).congr fun i hi => by
  unfold cutV
  by_cases e : i = 1
  · subst e; rfl
  · obtain rfl : i = 0 := by omega
    rfl
def rcutOf (w : World) (B c : Nat) (l : List Int) (b : Bool) : Prop :=
  ∃ v, rcutIs w c v b ∧ isBytes w v l ∧ B ≤ c ∧ ∀ k, v.ownBlock = some k → B ≤ k ∧ k ≠ c
theorem rcutOf.lt {w : World} {B c : Nat} {l : List Int} {b : Bool} (h : rcutOf w B c l b) : c < w.heap.size := by
  obtain ⟨v, h, _⟩ := h; exact h.lt
theorem rcutOf.ge {w : World} {B c : Nat} {l : List Int} {b : Bool} (h : rcutOf w B c l b) : B ≤ c := by
  obtain ⟨v, _, _, h, _⟩ := h; exact h
theorem rcutOf.byte {w : World} {B c : Nat} {l : List Int} {b : Bool} (h : rcutOf w B c l b) (i : Nat) : 0 ≤ l.getD i 0 ∧ l.getD i 0 ≤ 255 := by
  obtain ⟨v, _, h, _⟩ := h; exact h.byte i
theorem rcutOf.len {w : World} {B c : Nat} {l : List Int} {b : Bool} (h : rcutOf w B c l b) : l.length ≤ maxLen := by
  obtain ⟨v, _, h, _⟩ := h
  obtain ⟨_, _, _, h⟩ := h.slice
  exact h
theorem rcutOf.far {w w' : World} {B c : Nat} {l : List Int} {b : Bool} (h : rcutOf w B c l b) (hb : ∀ k, k < w.heap.size → B ≤ k → w'.heap[k]? = w.heap[k]?) (hs : w.heap.size ≤ w'.heap.size) : rcutOf w' B c l b := by
  obtain ⟨v, h1, h2, h3, h4⟩ := h
  exact ⟨v, h1.of_block (hb c h1.lt h3), h2.far (fun k hk => hb k (h2.block k hk) (h4 k hk).1) hs, h3, h4⟩
theorem rcutOf.below {w w' : World} {B C c : Nat} {l : List Int} {b : Bool} (h : rcutOf w B c l b) (hb : Below C w w') (hC : w.heap.size ≤ C) : rcutOf w' B c l b :=
  h.far (fun k hk _ => hb.block k (by omega)) hb.size
theorem rcutOf.mono {w : World} {B C c : Nat} {l : List Int} {b : Bool} (h : rcutOf w B c l b) (hC : C ≤ B) : rcutOf w C c l b := by
  obtain ⟨v, h1, h2, h3, h4⟩ := h
  exact ⟨v, h1, h2, by omega, fun k hk => ⟨by have := h4 k hk; omega, (h4 k hk).2⟩⟩
theorem rcutOf.set {w : World} {B c : Nat} {l : List Int} {b : Bool} (h : rcutOf w B c l b) (u : Bool) : rcutOf (w.setCell ⟨c, 1, none⟩ (.bool u)) B c l u := by
  obtain ⟨v, h1, h2, h3, h4⟩ := h
  refine ⟨v, h1.set1 u, h2.far (fun k hk => blk_setCell_other _ _ _ _ (h4 k hk).2) (by rw [nblk_setCell]; exact Nat.le_refl _), h3, h4⟩

theorem cell_alloc' {W : World} {p : Addr} {v : Value} (o : Obj) (h : W.cell? p = some v) : (W.alloc o).cell? p = some v := Go.Lib.cell?_alloc_some o h
/-- off: a fault. -/
theorem off_bad (c B : Nat) (l : List Int) (b r : Bool) (n : Nat) (hn : n ≤ 9223372036854775807) (w : World) (h : rcutOf w B c l b) (hbad : b = true ∨ r = false ∨ l.length < n) :
    Calls Try.prog 46 #[.pointer (some ⟨c, 0, none⟩), .int .i64 n, .bool r] w fun e w' => e = .returned (.tuple #[.slice none 0 0, .bool false]) ∧ rcutOf w' B c l true ∧ But w.heap.size c w w' := by
  have HF : Hid _ := h.set true
  have hlm := h.len
  unfold maxLen at hlm
  obtain ⟨v, h1, h2, h3, h4⟩ := h
  have c0 := h1.c0
  have c1 := h1.c1
  have z1 := World.rowIs.frozen h1 1
  obtain ⟨va, vc, rfl, _⟩ := h2.slice
  have i1 : (l.length : Int) ≤ 9223372036854775807 := by omega
  have i2 : (n : Int) ≤ 9223372036854775807 := by omega
  clear h1 h2 h3 h4
  cases b
  · cases r
    · clear hbad
      go_enter Try.func46, Try.ntmps46
      go_wp2
      go_ret2
      exact ⟨rfl, HF.out, (But.refl _ _ _).set 1 _⟩
    · have hlt : (l.length : Int) < (n : Int) := by
        rcases hbad with h | h | h
        · cases h
        · cases h
        · omega
      clear hbad
      go_enter Try.func46, Try.ntmps46
      go_wp2
      go_ret2
      exact ⟨rfl, HF.out, (But.refl _ _ _).set 1 _⟩
  · clear hbad
    go_enter Try.func46, Try.ntmps46
    go_wp2
    go_ret2
    exact ⟨rfl, HF.out, (But.refl _ _ _).set 1 _⟩
/-- off: a fault; the world behind it. -/
theorem off_bad_is (c : Nat) (v : Value) (l : List Int) (b r : Bool) (n : Nat) (hn : n ≤ 9223372036854775807) (w : World) (h1 : rcutIs w c v b) (h2 : isBytes w v l) (hbad : b = true ∨ r = false ∨ l.length < n) :
    Calls Try.prog 46 #[.pointer (some ⟨c, 0, none⟩), .int .i64 n, .bool r] w fun e w' => e = .returned (.tuple #[.slice none 0 0, .bool false]) ∧ w' = w.setCell ⟨c, 1, none⟩ (.bool true) := by
  obtain ⟨_, _, _, hlm⟩ := h2.slice
  unfold maxLen at hlm
  have c0 := h1.c0
  have c1 := h1.c1
  have z1 := World.rowIs.frozen h1 1
  obtain ⟨va, vc, rfl, _⟩ := h2.slice
  have i1 : (l.length : Int) ≤ 9223372036854775807 := by omega
  have i2 : (n : Int) ≤ 9223372036854775807 := by omega
  clear h1 h2
  cases b
  · cases r
    · clear hbad
      go_enter Try.func46, Try.ntmps46
      go_wp2
      go_ret2
      exact ⟨rfl, rfl⟩
    · have hlt : (l.length : Int) < (n : Int) := by
        rcases hbad with h | h | h
        · cases h
        · cases h
        · omega
      clear hbad
      go_enter Try.func46, Try.ntmps46
      go_wp2
      go_ret2
      exact ⟨rfl, rfl⟩
  · clear hbad
    go_enter Try.func46, Try.ntmps46
    go_wp2
    go_ret2
    exact ⟨rfl, rfl⟩
theorem isBytes_from {w : World} {pb po len cap : Nat} {l : List Int} (h : isBytes w (.slice (some ⟨pb, po, none⟩) len cap) l) (n o' : Nat) (hn : n ≤ l.length) (ho : n < cap → o' = po + n) : isBytes w (.slice (some ⟨pb, o', none⟩) (len - n) (cap - n)) (l.drop n) := by
  have hby := h.byte
  rcases h with ⟨h, _⟩ | ⟨pb', po', cap', he, g1, g2, g3, g4, _⟩
  · cases h
  · have he' : (pb = pb' ∧ po = po') ∧ len = l.length ∧ cap = cap' := by simpa using he
    obtain ⟨⟨rfl, rfl⟩, rfl, rfl⟩ := he'
    exact Or.inr ⟨pb, o', cap - n, by rw [List.length_drop], by rw [List.length_drop]; omega, by omega, g3, fun i hi => by rw [List.length_drop] at hi; rw [ho (by omega), Nat.add_assoc, g4 (n + i) (by omega), getD_drop], drop_byte hby n⟩
set_option maxHeartbeats 1000000 in
set_option maxRecDepth 100000 in
/-- off: so many bytes. -/
theorem off_good (c B : Nat) (l : List Int) (n : Nat) (w : World) (h : rcutOf w B c l false) (hn0 : 0 < l.length) (hn : n ≤ l.length) (hl : l.length ≤ 1099511627776) :
    Calls Try.prog 46 #[.pointer (some ⟨c, 0, none⟩), .int .i64 n, .bool true] w fun e w' => ∃ v v1, e = .returned (.tuple #[v, .bool true]) ∧ newBytes w' w.heap.size v (l.take n) ∧ (rcutIs w' c v1 false ∧ isBytes w' v1 (l.drop n) ∧ B ≤ c ∧ ∀ k, v1.ownBlock = some k → w.heap.size ≤ k) ∧ But w.heap.size c w w' := by
  have hlt := h.lt
  have hge := h.ge
  obtain ⟨v, h1, h2, h3, h4⟩ := h
  have c0 := h1.c0
  have c1 := h1.c1
  have z0 := World.rowIs.frozen h1 0
  have h2' := h2
  rcases h2 with ⟨_, rfl⟩ | ⟨pb, po, cap, rfl, g1, g2, g3, g4, _⟩
  · simp at hn0
  · obtain ⟨hpB, hpc⟩ := h4 pb rfl
    obtain ⟨o', ho', hsl⟩ := run_slice_from (P := Try.prog) 22 5 pb po l.length cap n Try.underlying22 (by kernel_rfl) hn
    have hst := run_slice_to (P := Try.prog) 22 5 pb po l.length cap n Try.underlying22 (by kernel_rfl) (by omega)
    have bF := isBytes_from h2' n o' hn ho'
    have bT := isBytes_to h2' n hn
    -- the rest, copied
    obtain ⟨v1, w1, hr1, hn1, hb1⟩ := bytes_copy_run w _ _ bF (by simp; omega)
    have k1 := h1.of_block (hb1.block c hlt)
    have d0 : w1.cell? ⟨c, 0, none⟩ = some _ := (rcutIs.c0 k1)
    have dz : w1.frozen? ⟨c, 0, none⟩ = false := World.rowIs.frozen k1 0
    have k2 : rcutIs (w1.setCell ⟨c, 0, none⟩ v1) c v1 false := rcutIs.set0 k1 v1
    have hb2 : But w.heap.size c w (w1.setCell ⟨c, 0, none⟩ v1) := (But.of_below hb1 c).set 0 v1
    have bT2 : isBytes (w1.setCell ⟨c, 0, none⟩ v1) _ (l.take n) := bT.far (fun k hk => by
      have : pb = k := by simpa [Value.ownBlock] using hk
      subst this
      exact hb2.block pb g3 hpc) hb2.size
    have hnb : (w1.setCell ⟨c, 0, none⟩ v1).heap.size = w1.heap.size := nblk_setCell _ _ _
    have n2 : isBytes (w1.setCell ⟨c, 0, none⟩ v1) v1 (l.drop n) := hn1.is.far (fun k hk => blk_setCell_other _ _ _ _ (by have := hn1.block k hk; show k ≠ c; omega)) (by rw [hnb]; exact Nat.le_refl _)
    -- the answer, copied
    obtain ⟨v3, w3, hr3, hn3, hb3⟩ := bytes_copy_run (w1.setCell ⟨c, 0, none⟩ v1) _ _ bT2 (by rw [List.length_take]; omega)
    rw [hnb] at hr3
    have HC : Hid _ := (⟨k2.of_block (hb3.block c (by rw [hnb]; have := hb1.size; omega)), n2.below hb3 (Nat.le_refl _), hge, fun k hk => (hn1.block k hk).1⟩ : rcutIs w3 c v1 false ∧ isBytes w3 v1 (l.drop n) ∧ B ≤ c ∧ ∀ k, v1.ownBlock = some k → w.heap.size ≤ k)
    have HN : Hid _ := hn3.mono hb2.size
    have HB : Hid _ := hb2.trans (But.of_below (hb3.mono hb2.size) c)
    have i1 : (n : Int) ≤ (l.length : Int) := by omega
    have i2 : (l.length : Int) ≤ 1099511627776 := by omega
    obtain ⟨ra1, rc1, rfl, _⟩ := hn1.is.slice
    rw [List.length_drop] at hr1 hr3
    have hcA := cell_alloc' (.cells #[] 5) c0
    clear h1 h2' bF bT k1 k2 hb2 bT2 hnb n2 hn3 hb3 g4 ho' h4 hn1
    go_enter Try.func46, Try.ntmps46
    go_wp2_with (first | (at_builtin; refine wpList_append_run rfl (.tmp 36) (.tmp 42) _ rfl rfl rfl hr1 ?_) | (at_builtin; refine wpList_append_run rfl (.tmp 46) (.tmp 47) _ rfl rfl rfl hr3 ?_))
    go_ret2
    exact ⟨_, _, rfl, HN.out, HC.out, HB.out⟩
theorem rcutOf_of {w : World} {B C c : Nat} {v : Value} {l : List Int} {b : Bool} (h : rcutIs w c v b ∧ isBytes w v l ∧ B ≤ c ∧ ∀ k, v.ownBlock = some k → C ≤ k) (hC : c < C) (hB : B ≤ C) : rcutOf w B c l b :=
  ⟨v, h.1, h.2.1, h.2.2.1, fun k hk => by have := h.2.2.2 k hk; omega⟩
theorem firstR_some {l : List Int} {x : Int} {n : Nat} (h : firstB l = some (x, n)) : firstR l = (x, n) := by unfold firstR; rw [h]; rfl
theorem firstR_none {l : List Int} (h : firstB l = none) : firstR l = (0, 0) := by unfold firstR; rw [h]; rfl
theorem numOf_of_none {l : List Int} {most : Int} (h : firstB l = none) : numOf l most = none := by unfold numOf; rw [h]
theorem numOf_of_big {l : List Int} {most x : Int} {n : Nat} (h : firstB l = some (x, n)) (hx : most < x) : numOf l most = none := by unfold numOf; rw [h]; simp only; rw [if_pos hx]
theorem numOf_of_ok {l : List Int} {most x : Int} {n : Nat} (h : firstB l = some (x, n)) (hx : x ≤ most) : numOf l most = some (x, n) := by unfold numOf; rw [h]; simp only; rw [if_neg (by omega)]
set_option maxHeartbeats 1000000 in
/-- the document's Num. -/
theorem rnum_any (c B : Nat) (l : List Int) (b : Bool) (most : Int) (w : World) (h : rcutOf w B c l b) (hl : l.length ≤ 1099511627776) :
    Calls Try.prog 37 #[.pointer (some ⟨c, 0, none⟩), .int .u64 most] w fun e w' => e = .returned (.int .u64 (numR l b most).1) ∧ rcutOf w' B c (numR l b most).2.1 (numR l b most).2.2 ∧ But w.heap.size c w w' := by
  have hby := h.byte
  have HC : Hid _ := h
  have hlt := h.lt
  obtain ⟨v, h1, h2, h3, h4⟩ := h
  have c0 := h1.c0
  have RF := rfirst_any l v w h2
  clear h1 h2 h3 h4
  cases hf : firstB l with
  | none =>
    rw [firstR_none hf] at RF
    have hR : numR l b most = (0, l, true) := by
      unfold numR; rw [numOf_of_none hf]; split <;> rfl
    rw [hR]
    go_enter Try.func37, Try.ntmps37
    go_wp2_with fail
    refine RF.mono ?_
    rintro e w1 ⟨rfl, hb1⟩
    clear RF
    have HC1 : Hid _ := rcutOf.below HC.out hb1 (Nat.le_refl _)
    go_wp2_with fail
    refine (off_bad c B l b false 0 (by omega) _ HC1.out (Or.inr (Or.inl rfl))).mono ?_
    rintro e w2 ⟨rfl, hc2, hb2⟩
    have HC2 : Hid _ := hc2
    clear hc2
    go_wp2
    go_ret
    exact ⟨rfl, HC2.out, (But.of_below hb1 c).trans (hb2.mono hb1.size)⟩
  | some q =>
    obtain ⟨x, n⟩ := q
    obtain ⟨g1, g2, g3, g4, g5, g6⟩ := firstB_some hby hf
    rw [firstR_some hf] at RF
    have i1 : (0 : Int) < (n : Int) := by omega
    by_cases hx : x ≤ most
    · cases b with
      | true =>
        have hR : numR l true most = (0, l, true) := rfl
        rw [hR]
        go_enter Try.func37, Try.ntmps37
        go_wp2_with fail
        refine RF.mono ?_
        rintro e w1 ⟨rfl, hb1⟩
        clear RF
        have HC1 : Hid _ := rcutOf.below HC.out hb1 (Nat.le_refl _)
        go_wp2_with fail
        refine (off_bad c B l true true n (by omega) _ HC1.out (Or.inl rfl)).mono ?_
        rintro e w2 ⟨rfl, hc2, hb2⟩
        have HC2 : Hid _ := hc2
        clear hc2
        go_wp2
        go_ret
        exact ⟨rfl, HC2.out, (But.of_below hb1 c).trans (hb2.mono hb1.size)⟩
      | false =>
        have hR : numR l false most = (x, l.drop n, false) := by unfold numR; rw [numOf_of_ok hf hx]; rfl
        rw [hR]
        go_enter Try.func37, Try.ntmps37
        go_wp2_with fail
        refine RF.mono ?_
        rintro e w1 ⟨rfl, hb1⟩
        clear RF
        have HC1 : Hid _ := rcutOf.below HC.out hb1 (Nat.le_refl _)
        go_wp2_with fail
        refine (off_good c B l n _ HC1.out g6 g3 hl).mono ?_
        rintro e w2 ⟨v2, v3, rfl, _, hc2, hb2⟩
        have hc2 := rcutOf_of hc2 (by have := hb1.size; omega) (by have := HC1.out; have := rcutOf.ge this; have := hb1.size; omega)
        have HC2 : Hid _ := hc2
        clear hc2
        go_wp2
        go_ret
        exact ⟨rfl, HC2.out, (But.of_below hb1 c).trans (hb2.mono hb1.size)⟩
    · have hR : numR l b most = (0, l, true) := by
        unfold numR; rw [numOf_of_big hf (by omega)]; split <;> rfl
      rw [hR]
      have hdx : decide (x ≤ most) = false := by simp; omega
      have hx2 : most < x := by omega
      go_enter Try.func37, Try.ntmps37
      go_wp2_with fail
      refine RF.mono ?_
      rintro e w1 ⟨rfl, hb1⟩
      clear RF
      have HC1 : Hid _ := rcutOf.below HC.out hb1 (Nat.le_refl _)
      go_wp2_with fail
      refine (off_bad c B l b false n (by omega) _ HC1.out (Or.inr (Or.inl rfl))).mono ?_
      rintro e w2 ⟨rfl, hc2, hb2⟩
      have HC2 : Hid _ := hc2
      clear hc2
      go_wp2
      go_ret
      exact ⟨rfl, HC2.out, (But.of_below hb1 c).trans (hb2.mono hb1.size)⟩
set_option maxHeartbeats 400000 in
/-- the document's Done. -/
theorem rdone_any (c B : Nat) (l : List Int) (b : Bool) (w : World) (h : rcutOf w B c l b) :
    Calls Try.prog 40 #[.pointer (some ⟨c, 0, none⟩)] w fun e w' => e = .returned (.bool (doneB l b)) ∧ rcutOf w' B c l (doneB l b) ∧ But w.heap.size c w w' := by
  have HF : Hid _ := h.set (doneB l b)
  have hlm := h.len
  unfold maxLen at hlm
  have HX : Hid _ := (But.refl w.heap.size c w).set 1 (.bool (doneB l b))
  obtain ⟨v, h1, h2, h3, h4⟩ := h
  have c0 := h1.c0
  have c1 := h1.c1
  have z1 := World.rowIs.frozen h1 1
  obtain ⟨va, vc, rfl, _⟩ := h2.slice
  clear h1 h2 h3 h4
  cases b with
  | true =>
    rw [show doneB l true = true from rfl] at *
    go_enter Try.func40, Try.ntmps40
    go_wp2
    go_ret
    exact ⟨rfl, HF.out, HX.out⟩
  | false =>
    by_cases hl : 0 < l.length
    · rw [show doneB l false = true by simp [doneB, hl]] at *
      have hl2 : (0 : Int) < (l.length : Int) := by omega
      go_enter Try.func40, Try.ntmps40
      go_wp2
      go_ret
      exact ⟨rfl, HF.out, HX.out⟩
    · rw [show doneB l false = false by simp [doneB, hl]] at *
      have hl2 : (l.length : Int) ≤ 0 := by omega
      go_enter Try.func40, Try.ntmps40
      go_wp2
      go_ret
      exact ⟨rfl, HF.out, HX.out⟩
end Go.Proofs.Ytldjefhgbigplaa
