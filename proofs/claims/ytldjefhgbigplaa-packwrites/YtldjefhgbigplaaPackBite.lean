import Derived.Test.YtldjefhgbigplaaRefSum
namespace Go.Proofs.Ytldjefhgbigplaa
open Go.RowKit Go.Deep

theorem zero8 : ∀ w, (zeroValue 5).run Try.prog w = .ok (.int .u8 0) w := fun w => by kernel_rfl
/-- clear, of bytes of the call's own. -/
theorem clear_run (w : World) (B : Nat) (v : Value) (l : List Int) (h : newBytes w B v l) :
    ∃ w', (Builtin.clear_ #[22] 0 #[v]).run Try.prog w = .ok (.tuple #[]) w' ∧ Below B w w' ∧ w'.heap.size = w.heap.size := by
  obtain ⟨⟨_, h | ⟨g, cap, cur, rfl, hB, hg, hc, hm, hs, ht⟩⟩, hb⟩ := h
  · obtain ⟨rfl, _⟩ := h
    exact ⟨w, by simp [Builtin.clear_, run_underlying Try.underlying22], Below.refl _ _, rfl⟩
  · rw [List.length_map] at hc ⊢
    by_cases hn : 0 < l.length
    · have hrow : w.rowIs g 5 cap (fun j => cur.getD j undef) := ⟨cur, hg, by omega, fun j hj => by rw [Array.getElem?_eq_getElem (by omega)]; simp [Array.getD, hs, hj]⟩
      exact ⟨_, Go.Lib.run_clear_slice w 22 5 0 (.int .u8 0) Try.underlying22 zero8 rfl rfl g 0 l.length cap hn (fun j hj => by rw [Nat.zero_add, hrow.cell (by omega)]; rfl) (fun j _ => hrow.frozen _), below_setCells g hB _ _ (Below.refl _ _), size_setCells _ _ _ _⟩
    · have e : l.length = 0 := by omega
      rw [e]
      exact ⟨w, by simp [Builtin.clear_, run_underlying Try.underlying22], Below.refl _ _, rfl⟩
/-- the same, and what it leaves. -/
theorem clear_run' (w : World) (B : Nat) (v : Value) (l : List Int) (h : newBytes w B v l) :
    ∃ w', (Builtin.clear_ #[22] 0 #[v]).run Try.prog w = .ok (.tuple #[]) w' ∧ Below B w w' ∧ w'.heap.size = w.heap.size ∧ ∀ k, k < w.heap.size → v.ownBlock ≠ some k → w'.heap[k]? = w.heap[k]? := by
  obtain ⟨⟨_, h | ⟨g, cap, cur, rfl, hB, hg, hc, hm, hs, ht⟩⟩, hb⟩ := h
  · obtain ⟨rfl, _⟩ := h
    exact ⟨w, by simp [Builtin.clear_, run_underlying Try.underlying22], Below.refl _ _, rfl, fun _ _ _ => rfl⟩
  · rw [List.length_map] at hc ⊢
    by_cases hn : 0 < l.length
    · have hrow : w.rowIs g 5 cap (fun j => cur.getD j undef) := ⟨cur, hg, by omega, fun j hj => by rw [Array.getElem?_eq_getElem (by omega)]; simp [Array.getD, hs, hj]⟩
      exact ⟨_, Go.Lib.run_clear_slice w 22 5 0 (.int .u8 0) Try.underlying22 zero8 rfl rfl g 0 l.length cap hn (fun j hj => by rw [Nat.zero_add, hrow.cell (by omega)]; rfl) (fun j _ => hrow.frozen _), below_setCells g hB _ _ (Below.refl _ _), size_setCells _ _ _ _,
        fun k hk hne => (but_setCells (B := w.heap.size) (b := g) _ _ (But.refl _ _ _)).block k hk (fun e => hne (by rw [e]; rfl))⟩
    · have e : l.length = 0 := by omega
      rw [e]
      exact ⟨w, by simp [Builtin.clear_, run_underlying Try.underlying22], Below.refl _ _, rfl, fun _ _ _ => rfl⟩
/-- a Cut whose memory lies from B on, below N. -/
def cutIn (w : World) (B N c : Nat) (l : List Int) (b : Bool) : Prop :=
  ∃ v, cutIs w c v b ∧ isBytes w v l ∧ B ≤ c ∧ c < N ∧ ∀ k, v.ownBlock = some k → B ≤ k ∧ k ≠ c ∧ k < N
theorem cutIn.far {w w' : World} {B N c : Nat} {l : List Int} {b : Bool} (h : cutIn w B N c l b) (hb : ∀ k, k < N → w'.heap[k]? = w.heap[k]?) (hs : w.heap.size ≤ w'.heap.size) : cutOf w' B c l b := by
  obtain ⟨v, h1, h2, h3, h4, h5⟩ := h
  exact cutOf.behind h1 h2 h3 h5 h4 hb hs
theorem cutOf.in {w : World} {B c : Nat} {l : List Int} {b : Bool} (h : cutOf w B c l b) : cutIn w B w.heap.size c l b := by
  obtain ⟨v, h1, h2, h3, h4⟩ := h
  exact ⟨v, h1, h2, h3, h1.lt, fun k hk => ⟨(h4 k hk).1, (h4 k hk).2, h2.block k hk⟩⟩
theorem cutIn.below {w w' : World} {B N C c : Nat} {l : List Int} {b : Bool} (h : cutIn w B N c l b) (hb : Below C w w') (hC : N ≤ C) : cutIn w' B N c l b := by
  obtain ⟨v, h1, h2, h3, h4, h5⟩ := h
  exact ⟨v, h1.of_block (hb.block c (by omega)), h2.far (fun k hk => hb.block k (by have := h5 k hk; omega)) hb.size, h3, h4, h5⟩
/-- Blob: new bytes, apart from the Cut's. -/
theorem cblob_in (c B : Nat) (l : List Int) (b : Bool) (most : Int) (hm1 : most ≤ 9223372036854775807) (w : World) (h : cutOf w B c l b) (hl : l.length ≤ 1099511627776) :
    Calls Try.prog 23 #[.pointer (some ⟨c, 0, none⟩), .int .i64 most] w fun e w' => ∃ v N, e = .returned v ∧ w.heap.size ≤ N ∧ N ≤ w'.heap.size ∧ newBytes w' N v (partR l b most).1 ∧ cutIn w' B N c (partR l b most).2.1 (partR l b most).2.2 ∧ But w.heap.size c w w' := by
  have hpl := partR_len l b most
  go_enter Try.func23, Try.ntmps23
  go_wp2_with fail
  refine (part_any c B l b most hm1 w h).mono ?_
  rintro e w1 ⟨v1, rfl, hv1, _, hc1, hb1⟩
  have HC : Hid _ := hc1.in
  have HV : Hid _ := hv1
  clear hc1 hv1
  go_wp2_with fail
  refine (clone_any v1 _ w1 HV.out (by omega)).mono ?_
  rintro e w2 ⟨v2, rfl, hn2, hb2⟩
  have HN : Hid _ := hn2
  have HC2 : Hid _ := cutIn.below HC.out hb2 (Nat.le_refl _)
  clear hn2 HC HV
  go_wp2
  go_ret
  exact ⟨_, w1.heap.size, rfl, hb1.size, hb2.size, HN.out, HC2.out, hb1.trans (But.of_below (hb2.mono hb1.size) c)⟩

/-- the kind of a bite. -/
def kindI (K : Int) : Int := (K.tmod 6 + 6).tmod 6
theorem kindI_is (K : Int) : kindI K = 0 ∨ kindI K = 1 ∨ kindI K = 2 ∨ kindI K = 3 ∨ kindI K = 4 ∨ kindI K = 5 := by
  have h1 := Int.tmod_lt_of_pos K (show (0 : Int) < 6 by omega)
  have h2 := Int.lt_tmod_of_pos K (show (0 : Int) < 6 by omega)
  have h3 := Int.tmod_lt_of_pos (K.tmod 6 + 6) (show (0 : Int) < 6 by omega)
  have h4 := Int.tmod_nonneg (a := K.tmod 6 + 6) 6 (by omega)
  unfold kindI
  omega
def biteV (K N M : Int) : Value := .agg #[.int .i64 K, .int .u64 N, .int .i64 M]
theorem kind_any (K N M : Int) (w : World) :
    Calls Try.prog 35 #[.agg #[.int .i64 K, .int .u64 N, .int .i64 M]] w fun e w' => e = .returned (.int .i64 (kindI K)) ∧ Below w.heap.size w w' := by
  have h1 := Int.tmod_lt_of_pos K (show (0 : Int) < 6 by omega)
  have h2 := Int.lt_tmod_of_pos K (show (0 : Int) < 6 by omega)
  have h0 : 0 ≤ K.tmod 6 + 6 := by omega
  have HK : Hid (kindI K = (K.tmod 6 + 6).tmod 6) := rfl
  go_enter Try.func35, Try.ntmps35
  go_wp2
  go_ret
  refine ⟨?_, (Below.refl _ _).alloc (Nat.le_refl _) _⟩
  exact ret_int (by rw [HK.out, Int.tmod_eq_emod_of_nonneg h0])

/-- what a bite answers: a number, bytes, what is left, whether there was a fault. -/
def biteR (k N M : Int) (l : List Int) (b : Bool) : Int × List Int × List Int × Bool :=
  if k = 0 then ((numR l b N).1, [], (numR l b N).2.1, (numR l b N).2.2)
  else if k = 1 ∨ k = 2 then (0, (partR l b M).1, (partR l b M).2.1, (partR l b M).2.2)
  else if k = 3 then (0, (sumR l b).1, (sumR l b).2.1, (sumR l b).2.2)
  else if k = 4 then (0, [], l, true)
  else (errI (doneB l b), [], l, doneB l b)
theorem strOf_nil : strOf [] = { data := #[] } := rfl
theorem isBytes_row {w : World} {g : Nat} {q : List Int} (hr : w.rowIs g 51 32 (arrV q)) (hq : q.length = 32) (hb : ∀ i, 0 ≤ q.getD i 0 ∧ q.getD i 0 ≤ 255) : isBytes w (.slice (some ⟨g, 0, none⟩) 32 32) q :=
  Or.inr ⟨g, 0, 32, by rw [hq], by omega, by unfold maxLen; omega, World.block_lt_of_cell? _ _ (hr.cell (i := 0) (by omega)), fun i hi => by rw [Nat.zero_add]; exact hr.cell (by omega), hb⟩
theorem sumR_byte {l : List Int} (b : Bool) (h : ∀ i, 0 ≤ l.getD i 0 ∧ l.getD i 0 ≤ 255) (i : Nat) : 0 ≤ (sumR l b).1.getD i 0 ∧ (sumR l b).1.getD i 0 ≤ 255 := by
  unfold sumR
  split
  · show 0 ≤ (List.replicate 32 (0 : Int)).getD i 0 ∧ _
    rw [getD_zeros]; omega
  · exact take_byte h 32 i
theorem cutOf.store {w w' : World} {B c g : Nat} {l : List Int} {b : Bool} (h : cutOf w B c l b) (hb : But (w.heap.size + 1) g w w') (hg : w.heap.size ≤ g) : cutOf w' B c l b :=
  h.far (fun k hk _ => hb.block k (by omega) (by omega)) hb.size

set_option maxHeartbeats 1000000 in
set_option maxRecDepth 100000 in
theorem bitten_any (c B : Nat) (l : List Int) (b : Bool) (K N M : Int) (hN : 0 ≤ N) (hM : M ≤ 9223372036854775807) (w : World) (h : cutOf w B c l b) (hl : l.length ≤ 1099511627776) :
    Calls Try.prog 19 #[.pointer (some ⟨c, 0, none⟩), .agg #[.int .i64 K, .int .u64 N, .int .i64 M]] w fun e w' => e = .returned (.tuple #[.int .u64 (biteR (kindI K) N M l b).1, .string (strOf (biteR (kindI K) N M l b).2.1)]) ∧ cutOf w' B c (biteR (kindI K) N M l b).2.2.1 (biteR (kindI K) N M l b).2.2.2 ∧ But w.heap.size c w w' := by
  have hlt := h.lt
  have hge := h.ge
  have hb0 : Below w.heap.size w (w.alloc (.cells #[.int .i64 K, .int .u64 N, .int .i64 M] 43)) := (Below.refl _ _).alloc (Nat.le_refl _) _
  have r0 := rowIs_new w #[.int .i64 K, .int .u64 N, .int .i64 M] 43 3 (fun i => if i = 0 then .int .i64 K else if i = 1 then .int .u64 N else .int .i64 M) rfl (fun i hi => by
    have : i = 0 ∨ i = 1 ∨ i = 2 := by omega
    rcases this with rfl | rfl | rfl <;> rfl)
  have hby := h.byte
  rcases kindI_is K with hk | hk | hk | hk | hk | hk
  · have hR : biteR (kindI K) N M l b = ((numR l b N).1, [], (numR l b N).2.1, (numR l b N).2.2) := by unfold biteR; rw [if_pos hk]
    rw [hR]
    clear hR
    go_enter Try.func19, Try.ntmps19
    go_wp2_with fail
    refine (kind_any K N M _).mono ?_
    rintro e w1 ⟨rfl, hb1⟩
    have hB1 : Below w.heap.size w w1 := hb0.trans (hb1.mono (by simp))
    have r1 := hb1.row r0 (by simp)
    have cN : w1.cell? ⟨w.heap.size, 1, none⟩ = some (.int .u64 N) := r1.cell (i := 1) (by omega)
    have cM : w1.cell? ⟨w.heap.size, 2, none⟩ = some (.int .i64 M) := r1.cell (i := 2) (by omega)
    have HC : Hid _ := h.below hB1 (Nat.le_refl _)
    have HBu : Hid _ := But.of_below hB1 c
    have hs1 := hB1.size
    clear r0 r1 hb0 hb1 hB1 h
    go_wp2_with fail
    refine (cnum_any c B l b N hN _ HC.out).mono ?_
    rintro e w2 ⟨rfl, hc2, hb2⟩
    have HC2 : Hid _ := hc2
    clear hc2
    go_wp2
    go_ret2
    exact ⟨rfl, HC2.out, HBu.out.trans (hb2.mono hs1)⟩
  · have hR : biteR (kindI K) N M l b = (0, (partR l b M).1, (partR l b M).2.1, (partR l b M).2.2) := by unfold biteR; rw [if_neg (by omega), if_pos (by omega)]
    rw [hR]
    clear hR
    go_enter Try.func19, Try.ntmps19
    go_wp2_with fail
    refine (kind_any K N M _).mono ?_
    rintro e w1 ⟨rfl, hb1⟩
    have hB1 : Below w.heap.size w w1 := hb0.trans (hb1.mono (by simp))
    have r1 := hb1.row r0 (by simp)
    have cN : w1.cell? ⟨w.heap.size, 1, none⟩ = some (.int .u64 N) := r1.cell (i := 1) (by omega)
    have cM : w1.cell? ⟨w.heap.size, 2, none⟩ = some (.int .i64 M) := r1.cell (i := 2) (by omega)
    have HC : Hid _ := h.below hB1 (Nat.le_refl _)
    have HBu : Hid _ := But.of_below hB1 c
    have hs1 := hB1.size
    clear r0 r1 hb0 hb1 hB1 h
    go_wp2_with fail
    refine (cblob_in c B l b M hM _ HC.out hl).mono ?_
    rintro e w2 ⟨v2, N2, rfl, hN1, hN2, hn2, hc2, hb2⟩
    have hcv := conv8 w2 v2 _ hn2.is
    obtain ⟨w3, hclr, hb3, hz3⟩ := clear_run w2 N2 v2 _ hn2
    have HC3 : Hid _ := cutIn.far hc2 (fun k hk => hb3.block k hk) hb3.size
    have HB3 : Hid _ := HBu.out.trans ((hb2.mono hs1).trans (But.of_below (hb3.mono (by omega)) c))
    obtain ⟨a2, c2, rfl, _⟩ := hn2.is.slice
    clear hc2 hn2 hb2 hb3
    go_wp2
    go_ret2
    exact ⟨rfl, HC3.out, HB3.out⟩
  · have hR : biteR (kindI K) N M l b = (0, (partR l b M).1, (partR l b M).2.1, (partR l b M).2.2) := by unfold biteR; rw [if_neg (by omega), if_pos (by omega)]
    rw [hR]
    clear hR
    go_enter Try.func19, Try.ntmps19
    go_wp2_with fail
    refine (kind_any K N M _).mono ?_
    rintro e w1 ⟨rfl, hb1⟩
    have hB1 : Below w.heap.size w w1 := hb0.trans (hb1.mono (by simp))
    have r1 := hb1.row r0 (by simp)
    have cN : w1.cell? ⟨w.heap.size, 1, none⟩ = some (.int .u64 N) := r1.cell (i := 1) (by omega)
    have cM : w1.cell? ⟨w.heap.size, 2, none⟩ = some (.int .i64 M) := r1.cell (i := 2) (by omega)
    have HC : Hid _ := h.below hB1 (Nat.le_refl _)
    have HBu : Hid _ := But.of_below hB1 c
    have hs1 := hB1.size
    clear r0 r1 hb0 hb1 hB1 h
    go_wp2_with fail
    refine (ctext_any c B l b M hM _ HC.out).mono ?_
    rintro e w2 ⟨rfl, hc2, hb2⟩
    have HC2 : Hid _ := hc2
    clear hc2
    go_wp2
    go_ret2
    exact ⟨rfl, HC2.out, HBu.out.trans (hb2.mono hs1)⟩
  · have hR : biteR (kindI K) N M l b = (0, (sumR l b).1, (sumR l b).2.1, (sumR l b).2.2) := by unfold biteR; rw [if_neg (by omega), if_neg (by omega), if_pos hk]
    rw [hR]
    clear hR
    go_enter Try.func19, Try.ntmps19
    go_wp2_with fail
    refine (kind_any K N M _).mono ?_
    rintro e w1 ⟨rfl, hb1⟩
    have hB1 : Below w.heap.size w w1 := hb0.trans (hb1.mono (by simp))
    have r1 := hb1.row r0 (by simp)
    have cN : w1.cell? ⟨w.heap.size, 1, none⟩ = some (.int .u64 N) := r1.cell (i := 1) (by omega)
    have cM : w1.cell? ⟨w.heap.size, 2, none⟩ = some (.int .i64 M) := r1.cell (i := 2) (by omega)
    have HC : Hid _ := h.below hB1 (Nat.le_refl _)
    have HBu : Hid _ := But.of_below hB1 c
    have hs1 := hB1.size
    clear r0 r1 hb0 hb1 hB1 h
    have HQ : Hid _ := sumR_length l b
    have HQB : Hid _ := sumR_byte b hby
    go_wp2_with fail
    refine (csum_any c B l b _ HC.out).mono ?_
    rintro e w2 ⟨rfl, hc2, hb2⟩
    have HC2 : Hid _ := hc2
    clear hc2
    have hz := rowIs_zero w2 #[.int .u8 0, .int .u8 0, .int .u8 0, .int .u8 0, .int .u8 0, .int .u8 0, .int .u8 0, .int .u8 0, .int .u8 0, .int .u8 0, .int .u8 0, .int .u8 0, .int .u8 0, .int .u8 0, .int .u8 0, .int .u8 0, .int .u8 0, .int .u8 0, .int .u8 0, .int .u8 0, .int .u8 0, .int .u8 0, .int .u8 0, .int .u8 0, .int .u8 0, .int .u8 0, .int .u8 0, .int .u8 0, .int .u8 0, .int .u8 0, .int .u8 0, .int .u8 0] 51 32 (.int .u8 0) rfl
    have hba : Below w2.heap.size w2 (w2.alloc (.cells #[.int .u8 0, .int .u8 0, .int .u8 0, .int .u8 0, .int .u8 0, .int .u8 0, .int .u8 0, .int .u8 0, .int .u8 0, .int .u8 0, .int .u8 0, .int .u8 0, .int .u8 0, .int .u8 0, .int .u8 0, .int .u8 0, .int .u8 0, .int .u8 0, .int .u8 0, .int .u8 0, .int .u8 0, .int .u8 0, .int .u8 0, .int .u8 0, .int .u8 0, .int .u8 0, .int .u8 0, .int .u8 0, .int .u8 0, .int .u8 0, .int .u8 0, .int .u8 0] 51)) := (Below.refl _ _).alloc (Nat.le_refl _) _
    have hsa : (w2.alloc (.cells #[.int .u8 0, .int .u8 0, .int .u8 0, .int .u8 0, .int .u8 0, .int .u8 0, .int .u8 0, .int .u8 0, .int .u8 0, .int .u8 0, .int .u8 0, .int .u8 0, .int .u8 0, .int .u8 0, .int .u8 0, .int .u8 0, .int .u8 0, .int .u8 0, .int .u8 0, .int .u8 0, .int .u8 0, .int .u8 0, .int .u8 0, .int .u8 0, .int .u8 0, .int .u8 0, .int .u8 0, .int .u8 0, .int .u8 0, .int .u8 0, .int .u8 0, .int .u8 0] 51)).heap.size = w2.heap.size + 1 := by simp
    go_wp2_with (first | (refine wpList_store_row rfl 51 _ _ rfl rfl w2.heap.size 0 32 _ rfl rfl hi32 (fun _ _ => rfl) _ _ _ hz (by omega) ?_; intro w3 r3 hz3 hb3))
    have R3 : Hid (w3.drew.rowIs w2.heap.size 51 32 (arrV (sumR l b).1)) := by
      have := r3.congr (g := arrV (sumR l b).1) (fun i hi => by rw [if_pos (by omega)]; rfl)
      exact this
    have HC3 : Hid _ := (cutOf.below HC2.out hba (Nat.le_refl _)).in
    have HB3 : Hid (But w.heap.size c w w3) := by
      have hs2 := hb2.size
      have : But w.heap.size c w w3 := HBu.out.trans ((hb2.mono hs1).trans ((But.of_below (hba.mono (by omega)) c).trans ⟨hb3.os, hb3.tape, hb3.output, hb3.size, fun k hk _ => hb3.block k (by omega) (by omega)⟩))
      exact this
    have HC4 : Hid _ := cutOf.far HC2.out (w' := w3) (fun k hk _ => (hb3.block k (by omega) (by omega)).trans (hba.block k hk)) (by omega)
    clear HC3 hb3 hz3 r3 hz hba hsa hb2 HC2 HBu
    refine wp_region_noPanic ?_
    refine wp_region_held_drew (S := fun w' => w'.rowIs w2.heap.size 51 32 (arrV (sumR l b).1)) (by kernel_rfl) R3.out (fun hHeld => ?_)
    refine take_op (i := 0) (v := ?vs0) rfl (by kernel_rfl) (by kernel_rfl) (by kernel_rfl) (fun _ _ _ h => h) rfl hHeld ?ys0 ?rs0
    case ys0 => (intro wz hz; go_simp; first | done | with_reducible rfl)
    try simp only [Act.put, List.setIfInBounds_toArray, List.set_cons_zero, List.set_cons_succ]
    refine take_op (i := 1) (v := ?vs1) rfl (by kernel_rfl) (by kernel_rfl) (by kernel_rfl) (fun _ _ _ h => h) rfl hHeld ?ys1 ?rs1
    case ys1 => (intro wz hz; have hcv := conv8 wz _ _ (isBytes_row hz HQ.out HQB.out); go_simp; first | done | with_reducible rfl)
    try simp only [Act.put, List.setIfInBounds_toArray, List.set_cons_zero, List.set_cons_succ]
    refine take_op (i := 2) (v := ?vs2) rfl (by kernel_rfl) (by kernel_rfl) (by kernel_rfl) (fun _ _ _ h => h) rfl hHeld ?ys2 ?rs2
    case ys2 => (intro wz hz; go_simp; first | done | with_reducible rfl)
    try simp only [Act.put, List.setIfInBounds_toArray, List.set_cons_zero, List.set_cons_succ]
    refine take_op (i := 3) (v := ?vs3) rfl (by kernel_rfl) (by kernel_rfl) (by kernel_rfl) (fun _ _ _ h => h) rfl hHeld ?ys3 ?rs3
    case ys3 => (intro wz hz; go_simp; first | done | with_reducible rfl)
    try simp only [Act.put, List.setIfInBounds_toArray, List.set_cons_zero, List.set_cons_succ]
    refine wpAnyH_done (by kernel_rfl) ?_ _
    refine NoPanic.normal ?_
    have hHeld : True := trivial
    go_wp2
    go_ret2
    exact ⟨rfl, HC4.out, HB3.out.drew⟩
  · have hR : biteR (kindI K) N M l b = (0, [], l, true) := by unfold biteR; rw [if_neg (by omega), if_neg (by omega), if_neg (by omega), if_pos hk]
    rw [hR]
    clear hR
    go_enter Try.func19, Try.ntmps19
    go_wp2_with fail
    refine (kind_any K N M _).mono ?_
    rintro e w1 ⟨rfl, hb1⟩
    have hB1 : Below w.heap.size w w1 := hb0.trans (hb1.mono (by simp))
    have r1 := hb1.row r0 (by simp)
    have cN : w1.cell? ⟨w.heap.size, 1, none⟩ = some (.int .u64 N) := r1.cell (i := 1) (by omega)
    have cM : w1.cell? ⟨w.heap.size, 2, none⟩ = some (.int .i64 M) := r1.cell (i := 2) (by omega)
    have HC : Hid _ := h.below hB1 (Nat.le_refl _)
    have HBu : Hid _ := But.of_below hB1 c
    have hs1 := hB1.size
    clear r0 r1 hb0 hb1 hB1 h
    go_wp2_with fail
    refine (fail_any c B l b _ HC.out).mono ?_
    rintro e w2 ⟨rfl, hc2, hb2⟩
    have HC2 : Hid _ := hc2
    clear hc2
    go_wp2
    go_ret2
    exact ⟨rfl, HC2.out, HBu.out.trans (hb2.mono hs1)⟩
  · have hR : biteR (kindI K) N M l b = (errI (doneB l b), [], l, doneB l b) := by unfold biteR; rw [if_neg (by omega), if_neg (by omega), if_neg (by omega), if_neg (by omega)]
    rw [hR]
    clear hR
    go_enter Try.func19, Try.ntmps19
    go_wp2_with fail
    refine (kind_any K N M _).mono ?_
    rintro e w1 ⟨rfl, hb1⟩
    have hB1 : Below w.heap.size w w1 := hb0.trans (hb1.mono (by simp))
    have r1 := hb1.row r0 (by simp)
    have cN : w1.cell? ⟨w.heap.size, 1, none⟩ = some (.int .u64 N) := r1.cell (i := 1) (by omega)
    have cM : w1.cell? ⟨w.heap.size, 2, none⟩ = some (.int .i64 M) := r1.cell (i := 2) (by omega)
    have HC : Hid _ := h.below hB1 (Nat.le_refl _)
    have HBu : Hid _ := But.of_below hB1 c
    have hs1 := hB1.size
    clear r0 r1 hb0 hb1 hB1 h
    have he : 0 ≤ errI (doneB l b) ∧ errI (doneB l b) ≤ 2 := by unfold errI; split <;> omega
    go_wp2_with fail
    refine (done_any c B l b _ HC.out).mono ?_
    rintro e w2 ⟨rfl, hc2, hb2⟩
    have HC2 : Hid _ := hc2
    clear hc2
    obtain ⟨he0, he1⟩ := he
    go_wp2
    go_ret2
    exact ⟨rfl, HC2.out, HBu.out.trans (hb2.mono hs1)⟩
end Go.Proofs.Ytldjefhgbigplaa
