import Derived.Laws.MakeOwn
import Derived.ProofKit
import Derived.OpenShut
import Derived.Test.YthjfalbchkbdfaaDoorRows
import Derived.ChangeSlices
import Derived.Deep.Slices
import Derived.Deep.Strs
import Derived.Test.YthjfalbchkbdfaaDoorCards
import Derived.Deep.DeepHandedRow
import Derived.Lib.LaidTab
import Derived.Lib.LaidU8
import Derived.Test.YthjfalbchkbdfaaDoorOwn1
import Derived.Test.YthjfalbchkbdfaaDoorOwn2
import Derived.Test.YthjfalbchkbdfaaDoorOwn3
import Derived.Test.YthjfalbchkbdfaaDoorOwn4
import Derived.Test.YthjfalbchkbdfaaDoorOwn5
set_option linter.unusedVariables false
set_option linter.unusedSimpArgs false
/- A nil book's Of; the document's Preimage and Of. -/
namespace Go.Proofs.YthjfalbchkbdfaaDoor
set_option linter.unusedSimpArgs false
set_option linter.unusedVariables false
open Go.RowKit Go.Deep

set_option maxHeartbeats 1000000 in
set_option maxRecDepth 100000 in
theorem of_nil (kind : Int) (n : Nat) (v : Value) (ps : Nat → List Int) (w : World) (hp : anyParts w v n ps) (hs : ∀ i, i ≤ n → 1 + (flatTo (blobsB ps) i).length ≤ 100000000) (ht : tabIs w) :
    Calls Tryd.prog 31 #[.pointer none, .int .i64 kind, v] w fun e w' => e = .returned (sumV (sumL (preB kind n ps))) ∧ Below w.heap.size w w' := by
  have ht0 := ht.1
  obtain ⟨pl, hpl⟩ : ∃ pl, pl = preB kind n ps := ⟨_, rfl⟩
  have hpll : pl.length ≤ 100000000 := by
    rw [hpl, preB, List.length_append]; have := hs n (Nat.le_refl _); simp; omega
  have r0 := rowIs_zero w (Array.replicate 32 (.int .u8 0)) 39 32 (.int .u8 0) rfl
  have hb0 : Below w.heap.size w (w.alloc (.cells (Array.replicate 32 (.int .u8 0)) 39)) := (Below.refl w.heap.size w).alloc (Nat.le_refl _) _
  have hs0 : (w.alloc (.cells (Array.replicate 32 (.int .u8 0)) 39)).heap.size = w.heap.size + 1 := by simp
  have X := pre_any kind n v ps _ (hp.below hb0 (Nat.le_refl _)) (fun i hi => by have := hs i hi; omega)
  rw [← hpl] at X ⊢
  clear hpl
  obtain ⟨a, cap, rfl, _, _⟩ := hp.open
  clear hp hs
  go_enter Tryd.func31, Tryd.ntmps31
  go_wp2_with fail
  refine X.mono ?_
  rintro e w1 ⟨v1, rfl, hn1, hb1⟩
  have hb1' : Below (w.alloc (.cells (Array.replicate 32 (.int .u8 0)) 39)).heap.size (w.alloc (.cells (Array.replicate 32 (.int .u8 0)) 39)) w1 := hb1
  have hn1' : newBytes w1 (w.alloc (.cells (Array.replicate 32 (.int .u8 0)) 39)).heap.size v1 pl := hn1
  rw [hs0] at hb1' hn1'
  have hB1 : Below w.heap.size w w1 := hb0.trans (hb1'.mono (by omega))
  have r1 : w1.rowIs w.heap.size 39 32 (fun _ => .int .u8 0) := hb1'.row r0 (by omega)
  have hs1 : w.heap.size + 1 ≤ w1.heap.size := by have := hb1'.size; omega
  obtain ⟨va, vc, rfl, _⟩ := hn1'.is.slice
  have Y := sum_one pl _ _ w1 hn1' (by omega) (ht.below hB1 ht0)
  clear X hb1 hn1 hb0 r0 hs0 hb1' hn1'
  go_wp2_with fail
  refine Y.mono ?_
  rintro e w3 ⟨rfl, hb3⟩
  have hs3 := hb3.size
  have r3 := hb3.row r1 (by omega)
  have hB3 : Below w.heap.size w w3 := hB1.trans (hb3.mono (by omega))
  have r4 := rowIs_zero w3 (Array.replicate 32 (.int .u8 0)) 39 32 (.int .u8 0) rfl
  have hs4 : (w3.alloc (.cells (Array.replicate 32 (.int .u8 0)) 39)).heap.size = w3.heap.size + 1 := by simp
  have hb4 : Below w3.heap.size w3 (w3.alloc (.cells (Array.replicate 32 (.int .u8 0)) 39)) := (Below.refl _ _).alloc (Nat.le_refl _) _
  clear Y hb3 r1 hB1
  go_upto_if 16 with (first | (refine wpList_store_row rfl 39 (.tmp 8) (.tmp 14) rfl rfl w3.heap.size 0 32 (arrV (sumL pl)) rfl rfl hi32' (fun _ _ => rfl) _ _ _ r4 (by omega) ?_; intro w5 r5 hz5 hb5))
  have hz5' : w5.heap.size = w3.heap.size + 1 := hz5.trans hs4
  have hb5' : But (w3.heap.size + 1) w3.heap.size (w3.alloc (.cells (Array.replicate 32 (.int .u8 0)) 39)) w5 := hs4 ▸ hb5
  have hB35 : Below w3.heap.size w3 w5 := hb4.trans ((hb5'.mono (by omega)).below (Nat.le_refl _))
  have hB5 : Below w.heap.size w w5 := hB3.trans (hB35.mono (by omega))
  have r5' : w5.rowIs w3.heap.size 39 32 (arrV (sumL pl)) := r5.congr fun i hi => by rw [if_pos (by omega), Nat.sub_zero]
  have r5w := hB35.row r3 (by omega)
  clear r4 hb4 r5 hb5 hb5' hB35 r3 hB3
  go_wp2_with (first | (refine wpList_load_seg rfl 39 _ rfl w3.heap.size 0 32 (arrV (sumL pl)) rfl _ Tryd.underlying39 rfl hi32' (fun i hi => by rw [Nat.zero_add]; exact r5'.cell hi) ?_) | (refine wpList_store_row rfl 39 (.tmp 6) (.tmp 31) rfl rfl w.heap.size 0 32 (arrV (sumL pl)) rfl rfl hi32' (fun _ _ => rfl) _ _ _ r5w (by omega) ?_; intro w6 r6 hz6 hb6))
  exact bodyPost_ret (results_cell_seg rfl _ _ w.heap.size 39 32 (arrV (sumL pl)) _ rfl Tryd.underlying39 rfl hi32' (r6.congr fun i hi => by rw [if_pos (by omega), Nat.sub_zero])) rfl ⟨rfl, hB5.trans ((hb6.mono (by omega)).below (Nat.le_refl _))⟩

set_option maxRecDepth 100000 in
theorem rpre_any (kind : Int) (n : Nat) (v : Value) (ps : Nat → List Int) (w : World) (hp : anyParts w v n ps) (hs : ∀ i, i ≤ n → 1 + (flatTo (blobsB ps) i).length ≤ 1000000000000) :
    Calls Tryd.prog 47 #[.int .i64 kind, v] w fun e w' => ∃ v', e = .returned v' ∧ newBytes w' w.heap.size v' (preB kind n ps) ∧ Below w.heap.size w w' := by
  have hb0 : Below w.heap.size w (w.alloc (.cells #[.int .u8 (kind % 256)] 5)) := (Below.refl _ _).alloc (Nat.le_refl _) _
  have hk : 0 ≤ kind % 256 ∧ kind % 256 ≤ 255 := by omega
  have h1 : isBytes (w.alloc (.cells #[.int .u8 (kind % 256)] 5)) (.slice (some ⟨w.heap.size, 0, none⟩) 1 1) [kind % 256] := one_byte w _ hk.1 hk.2
  have X := rblobs_any [kind % 256] _ v n ps _ h1 (hp.below hb0 (Nat.le_refl _)) (fun i hi => by have := hs i hi; simp; omega)
  obtain ⟨a, cap, rfl, _, _⟩ := hp.open
  go_enter Tryd.func47, Tryd.ntmps47
  go_wp2_with fail
  refine X.mono ?_
  rintro e w1 ⟨v1, rfl, hn1, hb1⟩
  go_wp2
  go_ret
  exact ⟨_, rfl, hn1.mono (by simp), hb0.trans (hb1.mono (by simp))⟩

set_option maxHeartbeats 1000000 in
set_option maxRecDepth 100000 in
theorem rof_any (kind : Int) (n : Nat) (v : Value) (ps : Nat → List Int) (w : World) (hp : anyParts w v n ps) (hs : ∀ i, i ≤ n → 1 + (flatTo (blobsB ps) i).length ≤ 100000000) :
    Calls Tryd.prog 32 #[.int .i64 kind, v] w fun e w' => e = .returned (sumV (sumL (preB kind n ps))) ∧ Below w.heap.size w w' := by
  obtain ⟨pl, hpl⟩ : ∃ pl, pl = preB kind n ps := ⟨_, rfl⟩
  have hpll : pl.length ≤ 100000000 := by
    rw [hpl, preB, List.length_append]; have := hs n (Nat.le_refl _); simp; omega
  have r0 := rowIs_zero w (Array.replicate 32 (.int .u8 0)) 39 32 (.int .u8 0) rfl
  have hb0 : Below w.heap.size w (w.alloc (.cells (Array.replicate 32 (.int .u8 0)) 39)) := (Below.refl w.heap.size w).alloc (Nat.le_refl _) _
  have hs0 : (w.alloc (.cells (Array.replicate 32 (.int .u8 0)) 39)).heap.size = w.heap.size + 1 := by simp
  have X := rpre_any kind n v ps _ (hp.below hb0 (Nat.le_refl _)) (fun i hi => by have := hs i hi; omega)
  rw [← hpl] at X ⊢
  clear hpl
  obtain ⟨a, cap, rfl, _, _⟩ := hp.open
  clear hp hs
  go_enter Tryd.func32, Tryd.ntmps32
  go_wp2_with fail
  refine X.mono ?_
  rintro e w1 ⟨v1, rfl, hn1, hb1⟩
  have hb1' : Below (w.alloc (.cells (Array.replicate 32 (.int .u8 0)) 39)).heap.size (w.alloc (.cells (Array.replicate 32 (.int .u8 0)) 39)) w1 := hb1
  have hn1' : newBytes w1 (w.alloc (.cells (Array.replicate 32 (.int .u8 0)) 39)).heap.size v1 pl := hn1
  rw [hs0] at hb1' hn1'
  have hB1 : Below w.heap.size w w1 := hb0.trans (hb1'.mono (by omega))
  have r1 : w1.rowIs w.heap.size 39 32 (fun _ => .int .u8 0) := hb1'.row r0 (by omega)
  have hs1 : w.heap.size + 1 ≤ w1.heap.size := by have := hb1'.size; omega
  have hq : isParts (w1.alloc (.cells #[v1] 57)) (.slice (some ⟨w1.heap.size, 0, none⟩) 1 1) 1 (fun _ => pl) := Or.inr ⟨w1.heap.size, 0, 1, fun _ => v1, rfl, by simp, by unfold maxLen; omega, fun i hi => by
    obtain rfl : i = 0 := by omega
    exact ⟨one_cell w1 _ _, Or.inl (hn1'.is.below ((Below.refl _ _).alloc (Nat.le_refl _) _) (Nat.le_refl _))⟩⟩
  have Y := rsum_any 1 _ _ _ hq.any (fun i hi => by
    have : i = 0 ∨ i = 1 := by omega
    rcases this with rfl | rfl
    · simp [flatTo]
    · simp [flatTo]; omega)
  have f1 : flatTo (fun _ => pl) 1 = pl := by simp [flatTo]
  rw [f1] at Y
  obtain ⟨va, vc, rfl, _⟩ := hn1'.is.slice
  clear X hb1 hn1 hb0 r0 hs0 hb1' hn1' hq f1
  go_wp2_with fail
  refine Y.mono ?_
  rintro e w3 ⟨rfl, hb3⟩
  have hb3' : Below w1.heap.size w1 w3 := ((Below.refl _ w1).alloc (Nat.le_refl _) _).trans (hb3.mono (by simp))
  have r3 := hb3'.row r1 (by omega)
  have hB3 : Below w.heap.size w w3 := hB1.trans (hb3'.mono (by omega))
  rw [sumL_row]
  clear Y hb3 hb3' r1 hB1
  go_wp2_with (first | (refine wpList_store_row rfl 39 _ _ rfl rfl w.heap.size 0 32 (arrV (sumL pl)) rfl rfl hi32' (fun _ _ => rfl) _ _ _ r3 (by omega) ?_; intro w6 r6 hz6 hb6))
  exact bodyPost_ret (results_cell_seg rfl _ _ w.heap.size 39 32 (arrV (sumL pl)) _ rfl Tryd.underlying39 rfl hi32' (r6.congr fun i hi => by rw [if_pos (by omega), Nat.sub_zero])) rfl ⟨rfl, hB3.trans ((hb6.mono (by have := hB3.size; omega)).below (Nat.le_refl _))⟩
end Go.Proofs.YthjfalbchkbdfaaDoor

/- words.Seal, and the document's. -/
namespace Go.Proofs.YthjfalbchkbdfaaDoor
set_option linter.unusedSimpArgs false
set_option linter.unusedVariables false
open Go.RowKit Go.Deep

/-- texts, as parts. -/
def psS (st : List ByteArray) (i : Nat) : List Int := (st.map sBytes).getD i []
theorem psS_at {st : List ByteArray} {i : Nat} (h : i < st.length) : psS st i = sBytes st[i] := by
  unfold psS; rw [List.getD_eq_getElem?_getD, List.getElem?_map, List.getElem?_eq_getElem h]; rfl
theorem psS_flat (st : List ByteArray) (hl : st.length ≤ 100) (hs : ∀ s ∈ st, s.size ≤ 100) : ∀ i, i ≤ st.length → 1 + (flatTo (blobsB (psS st)) i).length ≤ 1 + 200 * i
  | 0, _ => by simp [flatTo]
  | i + 1, hi => by
    have h1 := psS_flat st hl hs i (by omega)
    have h2 : (blobsB (psS st) i).length ≤ 200 := by
      unfold blobsB
      rw [blobB_length, psS_at (by omega), sBytes_length]
      have h3 := hs _ (List.getElem_mem (show i < st.length by omega))
      have := szI_le ((st[i]'(by omega)).size : Int)
      omega
    rw [flatTo, List.length_append]
    omega
theorem make_parts (w : World) (n : Nat) (hn : n ≤ 100000) : ∃ w', (Instr.makeSlice 56 (.int .i64 (n : Int)) (.int .i64 (n : Int))).run Tryd.prog w = .ok (.slice (some ⟨w.heap.size, 0, none⟩) n n) w' ∧ w'.rowIs w.heap.size 57 n (fun _ => .slice none 0 0) ∧ Below w.heap.size w w' ∧ w'.heap.size = w.heap.size + 1 := by
  have hi := hiB
  cases hq : Tryd.prog.info? 57 with
  | none => rw [hq] at hi; cases hi
  | some i =>
    rw [hq] at hi
    simp only [Option.map_some, Option.some.injEq, Prod.mk.injEq] at hi
    obtain ⟨h1, h2, h3⟩ := hi
    have hr := run_makeSlice (P := Tryd.prog) (w := w) 56 57 i _ Tryd.underlying56 hq h1 .i64 .i64 (n : Int) (n : Int) (by omega) (Int.le_refl _) (by rw [h2]; simp; omega) (by rw [h3]; omega) (by omega)
    simp only [Int.toNat_natCast] at hr
    refine ⟨_, hr, rowIs_new w _ _ n _ (by rw [h2, Nat.mul_one]; simp [madeCells, Value.cells]) (fun j hj => by rw [h2, Nat.mul_one]; simp [madeCells, Value.cells, hj, Nat.mod_one]), (Below.refl _ _).alloc (Nat.le_refl _) _, World.size_alloc _ _⟩
set_option maxHeartbeats 8000000 in
set_option maxRecDepth 100000 in
theorem seal_any (F : Nat → Prop) (k : Nat) (N : List Nt) (c : Int) (v : Value) (st : List ByteArray) (w : World) (h : bookAt w F k N c) (hv : strsAt w v st) (hl : st.length ≤ 100) (hz : ∀ s ∈ st, s.size ≤ 100) (ht : tabIs w) (hF0 : ¬ F 3) (hN : N.length < 1000000) (hc : 0 ≤ c ∧ c < 1000000000) :
    Calls Tryd.prog 19 #[.pointer (some ⟨k, 0, none⟩), v] w fun e w' => e = .returned (sumV (sumL (preB 8 st.length (psS st)))) ∧ (∃ G N', bookAt w' G k N' (c + 1)) ∧ ∀ B, (∀ j, F j → B ≤ j) → B ≤ w.heap.size → Below B w w' := by
  obtain ⟨va, vc, rfl, hvc, _, hlm, hrow⟩ := hv.slice
  obtain ⟨pl, hpl⟩ : ∃ pl, pl = preB 8 st.length (psS st) := ⟨_, rfl⟩
  rw [← hpl]
  have HPL : Hid (pl = preB 8 st.length (psS st)) := (show _ from hpl)
  clear hpl
  have r0 := rowIs_zero w (Array.replicate 32 (.int .u8 0)) 39 32 (.int .u8 0) rfl
  have b0 : Below w.heap.size w (w.alloc (.cells (Array.replicate 32 (.int .u8 0)) 39)) := (Below.refl w.heap.size w).alloc (Nat.le_refl _) _
  have s0 : (w.alloc (.cells (Array.replicate 32 (.int .u8 0)) 39)).heap.size = w.heap.size + 1 := by simp
  obtain ⟨w1, hmk, g1, b1, s1⟩ := make_parts (w.alloc (.cells (Array.replicate 32 (.int .u8 0)) 39)) st.length (by omega)
  rw [s0] at hmk g1 s1
  have hlt := h.2.1
  have B1 : Hid (Below w.heap.size w w1) := (show Below w.heap.size w w1 from b0.trans (b1.mono (by omega)))
  have R1 : Hid (w1.rowIs w.heap.size 39 32 (fun _ => .int .u8 0)) := (show w1.rowIs w.heap.size 39 32 (fun _ => .int .u8 0) from r0.of_block (b1.block _ (by omega)))
  have G1 : Hid (w1.rowIs (w.heap.size + 1) 57 st.length (fun _ => .slice none 0 0)) := (show _ from g1)
  have S1 : Hid (w1.heap.size = w.heap.size + 2) := (show w1.heap.size = w.heap.size + 2 from by omega)
  have HK : Hid (bookAt w F k N c) := (show _ from h)
  have HR : Hid _ := hrow
  have HLT : Hid (∀ j, F j → j < w.heap.size) := (show _ from hlt)
  have HT : Hid (tabIs w) := (show _ from ht)
  have HZ : Hid (∀ s ∈ st, s.size ≤ 100) := (show _ from hz)
  have HX : Hid (¬ F 3 ∧ N.length < 1000000 ∧ 0 ≤ c ∧ c < 1000000000) := (show _ from ⟨hF0, hN, hc.1, hc.2⟩)
  have hli : (st.length : Int) ≤ 100 := by omega
  have ht0 := ht.1
  have HT0 : Hid (3 < w.heap.size) := (show _ from ht0)
  clear h hv hrow ht hz hlt r0 b0 g1 b1 s1 hF0 hN hc ht0
  go_enter Tryd.func19, Tryd.ntmps19
  go_wp2_with (first | (refine wpList_make_run rfl _ _ _ rfl rfl rfl hmk ?_))
  clear hmk s0
  go_loopw [6, 7, 13] (fun x y z wr => ∃ (j : Nat) (sv : Nat → Value), z = .int .i64 (j : Int) ∧ j ≤ st.length ∧ wr.rowIs (w.heap.size + 1) 57 st.length sv ∧ (∀ i, i < j → isBytes wr (sv i) (psS st i) ∧ (sv i).ownBlock ≠ some (w.heap.size + 1)) ∧ wr.rowIs w.heap.size 39 32 (fun _ => .int .u8 0) ∧ w.heap.size + 2 ≤ wr.heap.size ∧ Below w.heap.size w wr) (fun _ _ z _ => st.length - (intOf z).toNat)
  case atStart => exact ⟨0, _, rfl, Nat.zero_le _, G1.out, fun i hi => absurd hi (Nat.not_lt_zero i), R1.out, Nat.le_of_eq S1.out.symm, B1.out⟩
  case round =>
    obtain ⟨j, sv, rfl, hj, hg, hp, hr, hs2, hb⟩ := hrel
    have HG : Hid (wr.rowIs (w.heap.size + 1) 57 st.length sv) := (show _ from hg)
    have HP : Hid (∀ i, i < j → isBytes wr (sv i) (psS st i) ∧ (sv i).ownBlock ≠ some (w.heap.size + 1)) := (show _ from hp)
    have HRR : Hid (wr.rowIs w.heap.size 39 32 (fun _ => .int .u8 0)) := (show _ from hr)
    have HB : Hid (Below w.heap.size w wr) := (show _ from hb)
    have HS2 : Hid (w.heap.size + 2 ≤ wr.heap.size) := (show _ from hs2)
    have j0 : (0 : Int) ≤ (j : Int) := by omega
    clear hg hp hr
    by_cases hlt : j < st.length
    · have hlt' : (j : Int) < (st.length : Int) := by omega
      obtain ⟨pb, po, rfl, hpb, hcell⟩ := HR.out (by omega)
      have hg0 := List.getElem?_eq_getElem hlt
      obtain ⟨hc0, _⟩ := hcell j _ hg0
      have hc := (hb.cell (p := ⟨pb, po + j, none⟩) hpb).trans hc0
      have hsz := HZ.out _ (List.getElem_mem hlt)
      have hps := psS_at hlt
      generalize st[j] = q at hc hsz hps
      obtain ⟨v', w', hcv, hi', ho', hb', hsz', _⟩ := str_bytes wr q (by omega)
      have hgx := HG.out.of_block (hb'.block (w.heap.size + 1) (by omega))
      have hcx := World.rowIs.cell hgx (i := j) hlt
      have hfx := World.rowIs.frozen hgx j
      have hgs := World.rowIs.set hgx j v'
      have ho2 : ∀ i, i ≠ w.heap.size + 1 → (w'.setCell ⟨w.heap.size + 1, j, none⟩ v').heap[i]? = w'.heap[i]? := fun i hi => blk_setCell_other _ _ _ _ hi
      have hvb : v'.ownBlock ≠ some (w.heap.size + 1) := fun e => by have := ho' _ e; omega
      have FIN : Hid ((∀ i, i < j + 1 → isBytes (w'.setCell ⟨w.heap.size + 1, j, none⟩ v') ((fun i => if i = j then v' else sv i) i) (psS st i) ∧ ((fun i => if i = j then v' else sv i) i).ownBlock ≠ some (w.heap.size + 1)) ∧ (w'.setCell ⟨w.heap.size + 1, j, none⟩ v').rowIs (w.heap.size + 1) 57 st.length (fun i => if i = j then v' else sv i) ∧ (w'.setCell ⟨w.heap.size + 1, j, none⟩ v').rowIs w.heap.size 39 32 (fun _ => .int .u8 0) ∧ w.heap.size + 2 ≤ (w'.setCell ⟨w.heap.size + 1, j, none⟩ v').heap.size ∧ Below w.heap.size w (w'.setCell ⟨w.heap.size + 1, j, none⟩ v')) := (show (∀ i, i < j + 1 → isBytes (w'.setCell ⟨w.heap.size + 1, j, none⟩ v') ((fun i => if i = j then v' else sv i) i) (psS st i) ∧ ((fun i => if i = j then v' else sv i) i).ownBlock ≠ some (w.heap.size + 1)) ∧ (w'.setCell ⟨w.heap.size + 1, j, none⟩ v').rowIs (w.heap.size + 1) 57 st.length (fun i => if i = j then v' else sv i) ∧ (w'.setCell ⟨w.heap.size + 1, j, none⟩ v').rowIs w.heap.size 39 32 (fun _ => .int .u8 0) ∧ w.heap.size + 2 ≤ (w'.setCell ⟨w.heap.size + 1, j, none⟩ v').heap.size ∧ Below w.heap.size w (w'.setCell ⟨w.heap.size + 1, j, none⟩ v') from by
        refine ⟨fun i hi => ?_, hgs, (HRR.out.of_block (hb'.block _ (by omega))).of_block (ho2 _ (by omega)), by rw [nblk_setCell]; omega, (hb.trans (hb'.mono (by omega))).setCell (p := ⟨_, j, none⟩) (Nat.le_succ _) _⟩
        by_cases e : i = j
        · subst e
          simp only [if_pos]
          rw [hps]
          exact ⟨isBytes.far hi' (fun k hk => ho2 k (fun e => hvb (e ▸ hk))) (by rw [nblk_setCell]; exact Nat.le_refl _), hvb⟩
        · simp only [if_neg e]
          obtain ⟨h1, h2⟩ := HP.out i (by omega)
          exact ⟨isBytes.far h1 (fun k hk => (ho2 k (fun e => h2 (e ▸ hk))).trans (hb'.block k (h1.block k hk))) (by rw [nblk_setCell]; omega), h2⟩)
      obtain ⟨ua, uc, rfl, _⟩ := hi'.slice
      clear hcell hg0 hc0 hps hgx hgs ho2 hvb hi' ho' hb' hsz' hs2 hpb hb hsz
      go_wp2_with (first | (refine wpList_convert_run rfl _ _ _ rfl rfl hcv ?_))
      go_light
      exact ⟨⟨j + 1, _, by go_num, by omega, FIN.out.2.1, FIN.out.1, FIN.out.2.2.1, FIN.out.2.2.2.1, FIN.out.2.2.2.2⟩, by simp [intOf]; omega⟩
    · obtain rfl : j = st.length := by omega
      have hpt : anyParts wr (.slice (some ⟨w.heap.size + 1, 0, none⟩) st.length st.length) st.length (psS st) := .inl (.inr ⟨w.heap.size + 1, 0, st.length, sv, rfl, by omega, by unfold maxLen; omega, fun i hi => ⟨by rw [Nat.zero_add]; exact World.rowIs.cell HG.out hi, .inl (HP.out i hi).1⟩⟩)
      have X := of_any F k N c 8 st.length _ (psS st) wr (bookAt.below HK.out hb (Nat.le_refl _)) hpt (fun i hi => by have := psS_flat st (by omega) HZ.out i hi; omega) (HT.out.below hb HT0.out) HX.out.1 HX.out.2.1 HX.out.2.2
      rw [← HPL.out] at X
      clear hpt hb HP HG
      go_wp2_with fail
      refine X.mono ?_
      rintro e w3 ⟨rfl, hbk, hfr⟩
      have r3 : w3.rowIs w.heap.size 39 32 (fun _ => .int .u8 0) := HRR.out.of_block (hfr.block _ (by omega) (fun hf => by have := HLT.out _ hf; omega))
      have BK : Hid _ := hbk
      have FR : Hid (Fr F wr w3) := (show _ from hfr)
      have hfs := hfr.size
      clear X hbk hfr
      go_wp2_with (first | (refine wpList_store_row rfl 39 _ _ rfl rfl w.heap.size 0 32 (arrV (sumL pl)) rfl rfl hi32' (fun _ _ => rfl) _ _ _ r3 (by omega) ?_; intro w6 r6 hz6 hb6))
      have r7 : w6.rowIs w.heap.size 39 32 (arrV (sumL pl)) := r6.congr fun i hi => by rw [if_pos (by omega), Nat.sub_zero]
      refine bodyPost_ret (results_cell_seg rfl _ _ w.heap.size 39 32 (arrV (sumL pl)) _ rfl Tryd.underlying39 rfl hi32' r7) rfl ?_
      refine ⟨rfl, ⟨_, _, bookAt.far BK.out (fun j hj hl => hb6.block j hl (fun e => ?_)) (by omega)⟩, fun B hB hBw => ?_⟩
      · subst e
        rcases hj with h | h
        · have := HLT.out _ h; omega
        · omega
      · have q1 : Below B wr w3 := FR.out.below hB (Nat.le_trans hBw HB.out.size)
        have q2 : Below B w w3 := (HB.out.mono hBw).trans q1
        exact q2.trans ((hb6.mono (by omega)).below hBw)
set_option maxHeartbeats 4000000 in
set_option maxRecDepth 100000 in
theorem rseal_any (v : Value) (st : List ByteArray) (w : World) (hv : strsAt w v st) (hl : st.length ≤ 100) (hz : ∀ s ∈ st, s.size ≤ 100) :
    Calls Tryd.prog 20 #[v] w fun e w' => e = .returned (sumV (sumL (preB 8 st.length (psS st)))) ∧ Below w.heap.size w w' := by
  obtain ⟨va, vc, rfl, hvc, _, hlm, hrow⟩ := hv.slice
  obtain ⟨pl, hpl⟩ : ∃ pl, pl = preB 8 st.length (psS st) := ⟨_, rfl⟩
  rw [← hpl]
  have HPL : Hid (pl = preB 8 st.length (psS st)) := (show _ from hpl)
  clear hpl
  have r0 := rowIs_zero w (Array.replicate 32 (.int .u8 0)) 39 32 (.int .u8 0) rfl
  have b0 : Below w.heap.size w (w.alloc (.cells (Array.replicate 32 (.int .u8 0)) 39)) := (Below.refl w.heap.size w).alloc (Nat.le_refl _) _
  have s0 : (w.alloc (.cells (Array.replicate 32 (.int .u8 0)) 39)).heap.size = w.heap.size + 1 := by simp
  have HR : Hid _ := hrow
  have HZ : Hid (∀ s ∈ st, s.size ≤ 100) := (show _ from hz)
  have R0 : Hid _ := r0
  have B0 : Hid _ := b0
  have S0 : Hid _ := s0
  have hli : (st.length : Int) ≤ 100 := by omega
  clear hv hrow hz r0 b0 s0
  go_enter Tryd.func20, Tryd.ntmps20
  go_wp2_with fail
  go_loopw [3, 4] (fun x y wr => ∃ j : Nat, y = .int .i64 (j : Int) ∧ j ≤ st.length ∧ mineParts wr (w.heap.size + 1) x ((st.map sBytes).take j) ∧ wr.rowIs w.heap.size 39 32 (fun _ => .int .u8 0) ∧ w.heap.size + 1 ≤ wr.heap.size ∧ Below w.heap.size w wr) (fun _ y _ => st.length - (intOf y).toNat)
  case atStart => exact ⟨0, rfl, Nat.zero_le _, by rw [List.take_zero]; exact mineParts.nil _ _, R0.out, Nat.le_of_eq S0.out.symm, B0.out⟩
  case round =>
    obtain ⟨j, rfl, hj, hm, hr, hs2, hb⟩ := hrel
    have HM : Hid _ := hm
    have HRR : Hid (wr.rowIs w.heap.size 39 32 (fun _ => .int .u8 0)) := (show _ from hr)
    have HB : Hid (Below w.heap.size w wr) := (show _ from hb)
    have HS2 : Hid (w.heap.size + 1 ≤ wr.heap.size) := (show _ from hs2)
    have j0 : (0 : Int) ≤ (j : Int) := by omega
    clear hm hr
    by_cases hlt : j < st.length
    · have hlt' : (j : Int) < (st.length : Int) := by omega
      obtain ⟨pb, po, rfl, hpb, hcell⟩ := HR.out (by omega)
      have hg0 := List.getElem?_eq_getElem hlt
      obtain ⟨hc0, _⟩ := hcell j _ hg0
      have hc := (hb.cell (p := ⟨pb, po + j, none⟩) hpb).trans hc0
      have hsz := HZ.out _ (List.getElem_mem hlt)
      have htk : (st.map sBytes).take (j + 1) = (st.map sBytes).take j ++ [sBytes st[j]] := by
        rw [List.take_succ_eq_append_getElem (by rw [List.length_map]; exact hlt), List.getElem_map]
      generalize st[j] = q at hc hsz htk
      obtain ⟨v9, w9, hr9, hi9, ho9, hb9, hs9, hf9⟩ := str_bytes wr q (by omega)
      obtain ⟨v8, w8, hr8, hm8, hb8⟩ := part_append_run w9 (w.heap.size + 1) _ v9 _ (sBytes q) (mineParts.below HM.out hb9 (Nat.le_refl _)) ⟨hi9, hf9⟩ (fun p hp => by
        have := ho9 p hp
        refine ⟨by omega, fun e => ?_⟩
        obtain ⟨svs, h1, _⟩ := HM.out
        have := (h1.block p e).2
        omega) (by rw [List.length_take, List.length_map]; omega) (by omega)
      rw [← htk] at hm8
      have M8 : Hid _ := hm8
      have B8 : Hid (Below w.heap.size w w8 ∧ w.heap.size + 1 ≤ w8.heap.size ∧ w8.rowIs w.heap.size 39 32 (fun _ => .int .u8 0)) := (show Below w.heap.size w w8 ∧ w.heap.size + 1 ≤ w8.heap.size ∧ w8.rowIs w.heap.size 39 32 (fun _ => .int .u8 0) from ⟨(hb.trans (hb9.mono (by omega))).trans (hb8.mono (Nat.le_succ _)), by have := hb8.size; omega, (HRR.out.of_block (hb9.block _ (by omega))).of_block (hb8.block _ (by omega))⟩)
      obtain ⟨ua, uc, rfl, _⟩ := hi9.slice
      clear hcell hg0 hc0 htk hm8 hb8 hi9 ho9 hb9 hs9 hf9 hs2 hpb hb hsz
      go_wp2_with (first | (refine wpList_convert_run rfl _ _ _ rfl rfl hr9 ?_) | (at_builtin; refine wpList_append_run rfl _ _ _ rfl rfl rfl hr8 ?_))
      go_light
      exact ⟨⟨j + 1, by go_num, by omega, M8.out, B8.out.2.2, B8.out.2.1, B8.out.1⟩, by simp [intOf]; omega⟩
    · obtain rfl : j = st.length := by omega
      have hm := HM.out
      rw [List.take_of_length_le (by rw [List.length_map]; exact Nat.le_refl _)] at hm
      have hpt := mineParts.parts (L := st.map sBytes) hm
      rw [List.length_map] at hpt
      have X := rof_any 8 st.length _ (psS st) wr hpt.any (fun i hi => by have := psS_flat st (by omega) HZ.out i hi; omega)
      rw [← HPL.out] at X
      clear hpt hm HM
      go_wp2_with fail
      refine X.mono ?_
      rintro e w3 ⟨rfl, b3⟩
      have r3 : w3.rowIs w.heap.size 39 32 (fun _ => .int .u8 0) := HRR.out.of_block (b3.block _ (by omega))
      have b3' : Below w.heap.size w w3 := hb.trans (b3.mono hb.size)
      clear X b3 hb
      go_wp2_with (first | (refine wpList_store_row rfl 39 _ _ rfl rfl w.heap.size 0 32 (arrV (sumL pl)) rfl rfl hi32' (fun _ _ => rfl) _ _ _ r3 (by omega) ?_; intro w6 r6 hz6 hb6))
      exact bodyPost_ret (results_cell_seg rfl _ _ w.heap.size 39 32 (arrV (sumL pl)) _ rfl Tryd.underlying39 rfl hi32' (r6.congr fun i hi => by rw [if_pos (by omega), Nat.sub_zero])) rfl ⟨rfl, b3'.trans ((hb6.mono (by have := b3'.size; omega)).below (Nat.le_refl _))⟩
end Go.Proofs.YthjfalbchkbdfaaDoor

/- How often a book has hashed. -/
namespace Go.Proofs.YthjfalbchkbdfaaDoor
set_option linter.unusedSimpArgs false
set_option linter.unusedVariables false
open Go.RowKit Go.Deep

theorem calls_any (F : Nat → Prop) (k : Nat) (N : List Nt) (c : Int) (w : World) (h : bookAt w F k N c) : Calls Tryd.prog 21 #[.pointer (some ⟨k, 0, none⟩)] w fun e w' => e = .returned (.int .i64 c) ∧ w' = w := by
  obtain ⟨h1, h2, pv, h3, ⟨rfl, rfl, rfl⟩ | ⟨nb, rfl, _, lv, mv, r, _⟩⟩ := h
  · go_enter Tryd.func21, Tryd.ntmps21
    go_wp2_with fail
    refine (empty_zero k w h3).mono ?_
    rintro e w' ⟨rfl, rfl⟩
    go_wp2
    go_ret
    exact ⟨rfl, rfl⟩
  · have c0 : w.cell? ⟨k, 0, none⟩ = some (.pointer (some ⟨nb, 0, none⟩)) := h3.cell (i := 0) (by omega)
    have c2 : w.cell? ⟨nb, 2, none⟩ = some (.int .i64 c) := r.cell (i := 2) (by omega)
    go_enter Tryd.func21, Tryd.ntmps21
    go_wp2_with fail
    refine (empty_some k nb w h3).mono ?_
    rintro e w' ⟨rfl, hw⟩
    obtain rfl := hw.symm
    clear hw
    go_wp2
    go_ret
    exact ⟨rfl, rfl⟩
end Go.Proofs.YthjfalbchkbdfaaDoor

/- The law WordsStops walked. -/
namespace Go.Proofs.YthjfalbchkbdfaaDoor
set_option linter.unusedSimpArgs false
set_option linter.unusedVariables false
open Go.RowKit Go.Deep

theorem eql_sum9 (q : List Int) (wx : World) : (binOp .eql 39 (.agg (rowV 32 (arrV q))) (.agg (rowV 32 (arrV q)))).run Tryd.prog wx = .ok (.bool true) wx := by
  have := run_eql_arr (P := Tryd.prog) wx 39 5 .u8 32 (fun i => q.getD i 0) (fun i => q.getD i 0) Tryd.underlying39 Tryd.underlying5 (by kernel_rfl) (by kernel_rfl)
  rw [(arrEq_iff 32 _ _).2 (fun _ _ => rfl)] at this
  exact this
set_option maxHeartbeats 8000000 in
set_option maxRecDepth 100000 in
theorem wordsStops_any (v : Value) (st : List ByteArray) (w : World) (hT : utT w) (ht : tabIs w) (hv : strsAt w v st) :
    Calls Tryd.prog 5 #[v] w fun e w' => e = .returned (.bool true) ∧ Below w.heap.size w w' := by
  obtain ⟨va, vc, rfl, _⟩ := hv.slice
  have X := much2_any { data := #[] } _ st w hv
  have HT : Hid (utT w) := (show utT w from hT)
  have HTB : Hid (tabIs w) := (show _ from ht)
  have HV : Hid (strsAt w (.slice va st.length vc) st) := (show _ from hv)
  clear hT hv ht
  go_enter Tryd.func5, Tryd.ntmps5
  go_wp2_with fail
  refine X.mono ?_
  rintro e w1 ⟨⟨b, rfl, hb⟩, hw⟩
  obtain rfl := hw
  clear X
  cases b with
  | true =>
    have XA := awake_any w1 HT.out
    go_wp2_with fail
    refine XA.mono ?_
    rintro e w2 ⟨rfl, b2⟩
    clear XA hb
    go_wp2
    go_ret
    exact ⟨rfl, b2⟩
  | false =>
    obtain ⟨_, h2, h3⟩ := hb rfl
    have H2 : Hid (st.length ≤ 100) := (show _ from h2)
    have H3 : Hid (∀ x ∈ st, x.size ≤ 100) := (show _ from h3)
    obtain ⟨wa, hwa⟩ : ∃ wa, wa = w1.alloc (.cells #[] 9) := ⟨_, rfl⟩
    obtain ⟨v', w2, hr2, hv2, b2⟩ := own_strs w1 _ st HV.out h2 wa hwa
    obtain ⟨va', vc', rfl, _⟩ := hv2.slice
    obtain ⟨w3, hw3⟩ : ∃ w3, w3 = w2.alloc (.cells #[.pointer none] 36) := ⟨_, rfl⟩
    have b23 : Below w2.heap.size w2 w3 := by rw [hw3]; exact (Below.refl _ _).alloc (Nat.le_refl _) _
    have k3 : bookAt w3 (fun j => j = w2.heap.size) w2.heap.size [] 0 := bookAt.new w2 w3 w2.heap.size (by rw [hw3]; exact boxAt.new w2 36 (.pointer none))
    have B3 : Hid (Below w1.heap.size w1 w3) := (show Below w1.heap.size w1 w3 from b2.trans (b23.mono b2.size))
    have V3 : Hid (strsAt w3 (.slice va' st.length vc') st) := (show _ from hv2.below b23)
    have K3 : Hid (bookAt w3 (fun j => j = w2.heap.size) w2.heap.size [] 0) := (show _ from k3)
    have V2 : Hid (strsAt w2 (.slice va' st.length vc') st) := (show _ from hv2)
    have C3 : Hid (Below w2.heap.size w2 w3) := (show _ from b23)
    have LE : Hid (w1.heap.size ≤ w2.heap.size) := (show _ from b2.size)
    have LE3 : Hid (w2.heap.size < w3.heap.size) := (show w2.heap.size < w3.heap.size from by rw [hw3, World.size_alloc]; omega)
    have XM := mayStops_any _ st w3 (HT.out.below B3.out) V3.out
    clear hb h2 h3 b2 hv2 b23 k3
    go_wp2_with (first | (at_builtin; refine wpList_append_run rfl _ _ _ rfl rfl rfl (by rw [← hwa]; exact hr2) ?_) | fail)
    rw [← hw3]
    refine XM.mono ?_
    rintro e w4 ⟨rfl, b4⟩
    have B4 : Hid (Below w1.heap.size w1 w4) := (show Below w1.heap.size w1 w4 from B3.out.trans (b4.mono B3.out.size))
    have V4 : Hid (strsAt w4 (.slice va' st.length vc') st) := (show _ from V3.out.below b4)
    have K4 : Hid (bookAt w4 (fun j => j = w2.heap.size) w2.heap.size [] 0) := (show _ from bookAt.below K3.out b4 (Nat.le_refl _))
    have LE4 : Hid (w2.heap.size < w4.heap.size) := (show w2.heap.size < w4.heap.size from Nat.lt_of_lt_of_le LE3.out b4.size)
    have C4 : Hid (Below w2.heap.size w2 w4) := (show Below w2.heap.size w2 w4 from C3.out.trans (b4.mono C3.out.size))
    clear XM b4 hr2 hwa hw3 K3
    have XR := rmayStops_any _ st w4 (HV.out.below B4.out) (fun s hs => Nat.le_trans (H3.out s hs) (by decide))
    go_wp2_with fail
    refine XR.mono ?_
    rintro e w5 ⟨rfl, b5⟩
    have B5 : Hid (Below w1.heap.size w1 w5) := (show Below w1.heap.size w1 w5 from B4.out.trans (b5.mono B4.out.size))
    have V5 : Hid (strsAt w5 (.slice va' st.length vc') st) := (show _ from V4.out.below b5)
    have K5 : Hid (bookAt w5 (fun j => j = w2.heap.size) w2.heap.size [] 0) := (show _ from bookAt.below K4.out b5 (Nat.le_refl _))
    have C5 : Hid (Below w2.heap.size w2 w5) := (show Below w2.heap.size w2 w5 from C4.out.trans (b5.mono C4.out.size))
    clear XR b5 K4
    have XS := seal_any (fun j => j = w2.heap.size) w2.heap.size [] 0 _ st w5 K5.out V5.out H2.out H3.out (HTB.out.below B5.out HTB.out.1) (by have := HTB.out.1; have := LE.out; show ¬ 3 = w2.heap.size; omega) (by decide) (by decide)
    have hE := eql_sum9 (sumL (preB 8 st.length (psS st)))
    have XQ := fun wx (hb : Below w1.heap.size w1 wx) => rseal_any _ st wx (HV.out.below hb) H2.out H3.out
    generalize sumL (preB 8 st.length (psS st)) = q at XS XQ hE
    have HXQ : Hid _ := XQ
    generalize mayP st = mp
    clear XQ
    cases mp with
    | true =>
      go_wp2_with fail
      refine XS.mono ?_
      rintro e w6 ⟨rfl, ⟨G, N', hk6⟩, hb6⟩
      have C6 : Hid (Below w2.heap.size w2 w6) := (show Below w2.heap.size w2 w6 from C5.out.trans (hb6 _ (fun j hj => Nat.le_of_eq hj.symm) C5.out.size))
      have B6 : Hid (Below w1.heap.size w1 w6) := (show Below w1.heap.size w1 w6 from B5.out.trans (hb6 _ (fun j hj => by rw [hj]; exact LE.out) B5.out.size))
      have K6 : Hid _ := hk6
      clear XS hk6 hb6
      have XQ := HXQ.out w6 B6.out
      go_wp2_with fail
      refine XQ.mono ?_
      rintro e w7 ⟨rfl, b7⟩
      have C7 : Hid (Below w2.heap.size w2 w7) := (show Below w2.heap.size w2 w7 from C6.out.trans (b7.mono C6.out.size))
      have B7 : Hid (Below w1.heap.size w1 w7) := (show Below w1.heap.size w1 w7 from B6.out.trans (b7.mono B6.out.size))
      have XC := calls_any G w2.heap.size N' (0 + 1) w7 (bookAt.below K6.out b7 (Nat.le_refl _))
      clear XQ b7 K6
      unfold sumV
      go_wp2_with fail
      refine XC.mono ?_
      rintro e w8 ⟨rfl, hw8⟩
      obtain rfl := hw8.symm
      clear XC hw8
      have XK := kept_any _ _ st w7 (V2.out.below C7.out) (HV.out.below B7.out)
      go_wp2_with fail
      refine XK.mono ?_
      rintro e w9 ⟨rfl, b9⟩
      have B9 : Hid (Below w1.heap.size w1 w9) := (show Below w1.heap.size w1 w9 from B7.out.trans (b9.mono B7.out.size))
      clear XK b9
      have XA := awake_any w9 (HT.out.below B9.out)
      go_wp2_with fail
      refine XA.mono ?_
      rintro e w10 ⟨rfl, b10⟩
      clear XA
      go_wp2
      go_ret
      exact ⟨rfl, B9.out.trans (b10.mono B9.out.size)⟩
    | false =>
      go_wp2_with fail
      refine XS.mono ?_
      rintro e w6 ⟨rfl, ⟨G, N', hk6⟩, hb6⟩
      have C6 : Hid (Below w2.heap.size w2 w6) := (show Below w2.heap.size w2 w6 from C5.out.trans (hb6 _ (fun j hj => Nat.le_of_eq hj.symm) C5.out.size))
      have B6 : Hid (Below w1.heap.size w1 w6) := (show Below w1.heap.size w1 w6 from B5.out.trans (hb6 _ (fun j hj => by rw [hj]; exact LE.out) B5.out.size))
      have K6 : Hid _ := hk6
      clear XS hk6 hb6
      have XQ := HXQ.out w6 B6.out
      go_wp2_with fail
      refine XQ.mono ?_
      rintro e w7 ⟨rfl, b7⟩
      have C7 : Hid (Below w2.heap.size w2 w7) := (show Below w2.heap.size w2 w7 from C6.out.trans (b7.mono C6.out.size))
      have B7 : Hid (Below w1.heap.size w1 w7) := (show Below w1.heap.size w1 w7 from B6.out.trans (b7.mono B6.out.size))
      have XC := calls_any G w2.heap.size N' (0 + 1) w7 (bookAt.below K6.out b7 (Nat.le_refl _))
      clear XQ b7 K6
      unfold sumV
      go_wp2_with fail
      refine XC.mono ?_
      rintro e w8 ⟨rfl, hw8⟩
      obtain rfl := hw8.symm
      clear XC hw8
      have XK := kept_any _ _ st w7 (V2.out.below C7.out) (HV.out.below B7.out)
      go_wp2_with fail
      refine XK.mono ?_
      rintro e w9 ⟨rfl, b9⟩
      have B9 : Hid (Below w1.heap.size w1 w9) := (show Below w1.heap.size w1 w9 from B7.out.trans (b9.mono B7.out.size))
      clear XK b9
      have XA := awake_any w9 (HT.out.below B9.out)
      go_wp2_with fail
      refine XA.mono ?_
      rintro e w10 ⟨rfl, b10⟩
      clear XA
      go_wp2
      go_ret
      exact ⟨rfl, B9.out.trans (b10.mono B9.out.size)⟩
end Go.Proofs.YthjfalbchkbdfaaDoor

/- The frame of a law's row: what was read reads behind the call as it did, where nothing old has turned. -/
namespace Go.Proofs.YthjfalbchkbdfaaDoor
open Go.RowKit Go.Deep Go.ChangeShapes Go.WideShapes Go.ChangeAt

theorem below_trodAll {H : Type} {enc : TypeId × Value → H} {P : Program} (hl : laidOutB P = true) {W W' : World} (hb : Below W.heap.size W W') :
    ∀ {ts : List TypeId} {vs : List Value} {ds : List (DataW H)} {ps : List MemPlace}, (∀ t ∈ ts, P.readableRec t = true ∧ t < P.types.size) → DataW.TrodAll enc P W 0 (fun _ => true) true ts vs ds ps → (∀ x ∈ ps, x.block < W.heap.size) →
      DataW.TrodAll enc P W' 0 (fun b => decide (b < W.heap.size)) true ts vs ds ps
  | [], [], [], _, _, h, _ => h
  | t :: ts, v :: vs, d :: ds, ps, hts, h, hlt => by
    obtain ⟨p, q, h1, h2, e⟩ := h
    subst e
    exact ⟨p, q, Below.trod hl (hts t List.mem_cons_self).1 (hts t List.mem_cons_self).2 h1 hb (fun x hx => hlt x (List.mem_append_left _ hx)), below_trodAll hl hb (fun u hu => hts u (List.mem_cons_of_mem _ hu)) h2 (fun x hx => hlt x (List.mem_append_right _ hx)), rfl⟩

/-- WHAT A LAW's ROW ASKS BEHIND THE CALL, where the answer is true and nothing old has turned. -/
theorem law_post {H : Type} {enc : TypeId × Value → H} {P : Program} {spec : ChangeSpec} {f : Func} {W W' : World} {args : Array Value} {ds gs : List (DataW H)} {before : List MemPlace} {tb : TypeId}
    (hl : laidOutB P = true) (hts : ∀ t ∈ f.params.toList, P.readableRec t = true ∧ t < P.types.size) (hvars : spec.vars = []) (hres : f.resultTypes = #[tb]) (hbool : P.underlying tb = some .bool)
    (hspec : spec.fn H (ds ++ gs) = { results := [.lit (.bool true)], args := ds })
    (hW : DataW.Whole enc P f.params.toList spec.vars false W args.toList ds gs before) (hb : Below W.heap.size W W') : spec.post enc P f false true false false W args (.bool true) W' := by
  have hW' := hW
  have hlt := hW.lt
  obtain ⟨p, q, hA, hV, rfl, hfz, hnd⟩ := hW
  rw [hvars] at hV
  obtain ⟨rfl, rfl⟩ := trodVars_none hV
  refine ⟨ds, [], p ++ [], [], p, [], hW', ?_, ?_, ?_, ?_, fun h => by cases h⟩
  · rw [hspec, hres]
    exact trodAll_cons_mk (shut_bool hbool _) trodAll_mk0
  · rw [hspec]
    exact below_trodAll hl hb hts hA (fun x hx => hlt x (List.mem_append_left _ hx))
  · rw [hspec, hvars]; exact hV
  · exact hb.frame _

end Go.Proofs.YthjfalbchkbdfaaDoor

/- The frame of a law's row, where no package variable is laid. -/
namespace Go.Proofs.YthjfalbchkbdfaaDoor
open Go.RowKit Go.Deep Go.ChangeShapes Go.WideShapes Go.ChangeAt
theorem own : ownKnob Tryd.prog.godebug = none := by kernel_rfl
theorem laidOut : laidOutB Tryd.prog = true := by kernel_rfl
end Go.Proofs.YthjfalbchkbdfaaDoor

/- Slices that came in, opened. -/
namespace Go.Proofs.YthjfalbchkbdfaaDoor
open Go.RowKit Go.Deep Go.ChangeShapes Go.WideShapes

/-- A SLICE, opened at every index. -/
theorem open_any {H : Type} {enc : TypeId × Value → H} {P : Program} {w : World} {base b0 : Nat} {sp : Nat → Bool} {held : Bool} {r : Reach} {t e : TypeId} {v : Value} {d : DataW H} {ps : List MemPlace} (c : Nat)
    (hu : P.underlying t = some (.slice e)) (hc : P.cellsOf e = c) (hval : Value.okWide P w r b0 t v) (hd : DataW.Trod enc P w base sp held t v d ps) :
    (v = .slice none 0 0) ∨ ∃ pb po len cap : Nat, v = .slice (some ⟨pb, po, none⟩) len cap ∧ len ≤ cap ∧ cap ≤ maxLen ∧ pb < w.heap.size ∧
      ∀ i, i < len → ∃ (cs' : List Value) (n : Nat) (D : DataW H × List MemPlace), cs'.length = c ∧ (∀ j, j < c → w.cell? ⟨pb, po + i * c + j, none⟩ = cs'[j]?) ∧ DataW.trod enc P w base sp held n e cs' = some D := by
  obtain ⟨a, len, cap, rfl⟩ := okWide_slice hu hval
  obtain ⟨fuel, hf⟩ := hd
  rcases open_slice hu hf with ⟨h0, _⟩ | ⟨a', len', cap', m, n, D, Pl, h0, _, h1, h2, h3, _, h4⟩
  · left; simpa [Value.cells] using h0
  · right
    have h0' : a = some a' ∧ len = len' ∧ cap = cap' := by simpa [Value.cells] using h0
    obtain ⟨rfl, rfl, rfl⟩ := h0'
    have hlm : len ≤ m := by rw [h3]; split <;> omega
    simp only [Value.okWide, hu, Cell.okWide, Cell.ok] at hval
    obtain ⟨_, _, _, hsp, row, cells, hsh, _⟩ := hval
    obtain ⟨pb, po, spot⟩ := a'
    obtain rfl : spot = none := hsp
    refine ⟨pb, po, len, cap, rfl, h1, h2, ?_, fun i hi => ?_⟩
    · unfold World.shape? at hsh
      cases hq : w.heap[pb]? with
      | none => rw [hq] at hsh; cases hsh
      | some o => exact (Array.getElem?_eq_some_iff.1 hq).1
    · obtain ⟨cs', g1, g2⟩ := h4 i (by omega)
      rw [hc] at g1
      obtain ⟨_, hlen, hcell⟩ := World.cells?_some g1
      refine ⟨cs', n, _, hlen, fun j hj => ?_, g2⟩
      have e0 := hcell j (by omega)
      rw [add_add, Addr.add_mid] at e0
      rw [Nat.add_assoc]; exact e0
end Go.Proofs.YthjfalbchkbdfaaDoor

/- A row of texts that came in, opened. -/
namespace Go.Proofs.YthjfalbchkbdfaaDoor
set_option maxRecDepth 100000
open Go.RowKit Go.Deep Go.ChangeShapes Go.WideShapes

theorem cellsStr : Tryd.prog.cellsOf 9 = 1 := by kernel_rfl
theorem open_strs {H : Type} {enc : TypeId × Value → H} {w : World} {base b0 : Nat} {sp : Nat → Bool} {held : Bool} {r : Reach} {v : Value} {d : DataW H} {ps : List MemPlace}
    (hval : Value.okWide Tryd.prog w r b0 22 v) (hd : DataW.Trod enc Tryd.prog w base sp held 22 v d ps) : ∃ L, strsAt w v L := by
  rcases open_any 1 Tryd.underlying22 cellsStr hval hd with rfl | ⟨pb, po, len, cap, rfl, h1, h2, h3, h4⟩
  · exact ⟨[], Or.inl ⟨rfl, rfl⟩⟩
  · have each : ∀ i, i < len → ∃ z : ByteArray, w.cell? ⟨pb, po + i, none⟩ = some (.string z) ∧ z.size ≤ maxLen := fun i hi => by
      obtain ⟨cs', n, D, g1, g2, g3⟩ := h4 i hi
      obtain ⟨z, rfl, _, hw⟩ := DataW.trod_string Tryd.underlying9 g3
      have := g2 0 (by omega)
      rw [Nat.mul_one, Nat.add_zero] at this
      exact ⟨z, this, hw⟩
    haveI : Inhabited ByteArray := ⟨ByteArray.empty⟩
    obtain ⟨f, hf⟩ := choose_lt each
    refine ⟨(List.range len).map f, Or.inr ⟨pb, po, cap, by simp, by simpa using h1, h2, h3, fun i s hi => ?_⟩⟩
    rw [List.getElem?_map] at hi
    by_cases hl : i < len
    · rw [List.getElem?_range hl] at hi
      obtain rfl := Option.some.inj hi
      exact hf i hl
    · rw [List.getElem?_eq_none (by simpa using hl)] at hi
      cases hi
end Go.Proofs.YthjfalbchkbdfaaDoor

/- The three tables, as the row lists them; a world that holds them, for the witness. -/
namespace Go.Proofs.YthjfalbchkbdfaaDoor
set_option maxRecDepth 100000
open Go.RowKit Go.Deep Go.ChangeShapes Go.WideShapes Go.ChangeAt Go.Lib Go.Shelf

theorem u8Extra : U8Extra Tryd.prog uRen where
  n3 := by kernel_rfl
  n4 := by kernel_rfl
  y3 := by kernel_rfl
  y4 := by kernel_rfl
  c5 := by kernel_rfl
  c119 := by kernel_rfl
  c138 := by kernel_rfl
/-- the letters' table, as data. -/
def ltData : DataW Unit := .agg ((List.range 43).map fun i => .agg ([ltA i, ltB i].map fun z => .lit (.int .i64 z)))
theorem gLet : Tryd.prog.globalNamed "incipit/utf.letters" = some 0 := by kernel_rfl
theorem gLetType : (Tryd.prog.globals[0]?).map (·.type) = some 77 := by kernel_rfl
theorem cellsInt : Tryd.prog.cellsOf 3 = 1 := by kernel_rfl
theorem cellsSpan : Tryd.prog.cellsOf 76 = 2 := by kernel_rfl
theorem letters_of_reads {w : World} (h : VarReads Tryd.prog w "incipit/utf.letters" ltData) : ltT w := by
  intro i hi
  obtain ⟨g, t, cs, fuel, p, hg, hty, hvar, hd⟩ := h
  obtain rfl := Option.some.inj (gLet.symm.trans hg)
  obtain rfl := Option.some.inj (gLetType.symm.trans hty)
  obtain ⟨fuel', d, q, hdi, he⟩ := array_elem Tryd.underlying77 hd i hi
  simp only [List.getElem?_map, List.getElem?_range hi, Option.map_some, Option.some.injEq] at hdi
  subst hdi
  rw [cellsSpan] at he
  have hcs := ints_of_struct Tryd.underlying76 (fun j f hj => by
    match j, hj with
    | 0, hj => simp at hj; subst hj; exact ⟨Tryd.underlying3, rfl, cellsInt⟩
    | 1, hj => simp at hj; subst hj; exact ⟨Tryd.underlying3, rfl, cellsInt⟩
    | j + 2, hj => simp at hj) (by rw [cellsSpan]; rfl) he
  have e0 := congrArg (·[0]?) hcs
  have e1 := congrArg (·[1]?) hcs
  simp only [List.getElem?_take, List.getElem?_drop] at e0 e1
  constructor
  · rw [World.var?_cell hg hvar (i * 2), ← Array.getElem?_toList]
    simpa using e0
  · rw [World.var?_cell hg hvar (i * 2 + 1), ← Array.getElem?_toList]
    simpa using e1
theorem dFirst : Rows.laid_unicode_utf8_first = firstData := by kernel_rfl
theorem dAccept : (Rows.laid_unicode_utf8_acceptRanges : DataW Unit) = acceptData := by kernel_rfl
theorem dLetters : (Rows.laid_incipit_utf_letters : DataW Unit) = ltData := by kernel_rfl
/-- the tables' blocks, laid. -/
def lObj : Obj → Obj
  | .cells _ t frozen => .cells lrow t frozen
  | o => o
def fObj : Obj → Obj
  | .cells _ t frozen => .cells ((List.range 256).map fun c => Value.int .u8 (firstT c)).toArray t frozen
  | o => o
def aObj : Obj → Obj
  | .cells _ t frozen => .cells ((List.range 16).flatMap fun i => [Value.int .u8 (accLo i), Value.int .u8 (accHi i)]).toArray t frozen
  | o => o
end Go.Proofs.YthjfalbchkbdfaaDoor

/- The four tables, as WordsStops' row lists them. -/
namespace Go.Proofs.YthjfalbchkbdfaaDoor
set_option maxRecDepth 100000
open Go.RowKit Go.Deep Go.ChangeShapes Go.WideShapes Go.ChangeAt Go.Lib Go.Shelf

theorem gTab9 : Tryd.prog.globalNamed "incipit/sha.roundConstants" = some 3 := by kernel_rfl
theorem gTab9Type : (Tryd.prog.globals[3]?).map (·.type) = some 122 := by kernel_rfl
theorem cellsTab9 : Tryd.prog.cellsOf 122 = 64 := by kernel_rfl
theorem cellsWord9 : Tryd.prog.cellsOf 86 = 1 := by kernel_rfl
/-- what the row's list gives. -/
theorem laid_us {W : World} (h : laidMetH Tryd.prog Rows.wordsStopsRow.laid W) : utT W ∧ tabIs W := by
  have h' : laidMet Tryd.prog [("unicode/utf8.acceptRanges", Rows.laid_unicode_utf8_acceptRanges), ("incipit/utf.letters", Rows.laid_incipit_utf_letters), ("incipit/sha.roundConstants", Rows.laid_incipit_sha_roundConstants), ("unicode/utf8.first", Rows.laid_unicode_utf8_first)] W := h
  have h1 := laidMet.reads h' (n := "unicode/utf8.first") (d := Rows.laid_unicode_utf8_first) (by simp)
  have h2 := laidMet.reads h' (n := "unicode/utf8.acceptRanges") (d := Rows.laid_unicode_utf8_acceptRanges) (by simp)
  have h3 := laidMet.reads h' (n := "incipit/utf.letters") (d := Rows.laid_incipit_utf_letters) (by simp)
  have h4 : VarReads Tryd.prog W "incipit/sha.roundConstants" (Lib.tabData .u32 kList) := laidMet.reads h' (n := "incipit/sha.roundConstants") (d := Rows.laid_incipit_sha_roundConstants) (by simp)
  rw [dFirst] at h1
  rw [dAccept] at h2
  rw [dLetters] at h3
  refine ⟨⟨utf8Tabs_of_reads { uLays with } u8Extra h1 h2, letters_of_reads h3⟩, ?_⟩
  have ht : Lib.TabIs Tryd.prog W "incipit/sha.roundConstants" .u32 kList := by
    obtain ⟨g', t', cs, fuel, p, hg', ht', hvar, hd⟩ := h4
    obtain rfl := Option.some.inj (gTab9.symm.trans hg')
    obtain rfl := Option.some.inj (gTab9Type.symm.trans ht')
    unfold Lib.TabIs
    rw [hvar, ← Lib.cells_of_tab Tryd.underlying122 Tryd.underlying86 cellsWord9 cellsTab9 hd]
  refine ⟨?_, fun i hi => ht.cell gTab9 i (by simpa [kList] using hi)⟩
  have h0 := ht.cell gTab9 0 (by decide)
  exact block_lt_of_cell h0
/-- the table's block, laid. -/
def kObj : Obj → Obj
  | .cells _ t frozen => .cells #[.int .u32 1116352408, .int .u32 1899447441, .int .u32 3049323471, .int .u32 3921009573, .int .u32 961987163, .int .u32 1508970993, .int .u32 2453635748, .int .u32 2870763221, .int .u32 3624381080, .int .u32 310598401, .int .u32 607225278, .int .u32 1426881987, .int .u32 1925078388, .int .u32 2162078206, .int .u32 2614888103, .int .u32 3248222580, .int .u32 3835390401, .int .u32 4022224774, .int .u32 264347078, .int .u32 604807628, .int .u32 770255983, .int .u32 1249150122, .int .u32 1555081692, .int .u32 1996064986, .int .u32 2554220882, .int .u32 2821834349, .int .u32 2952996808, .int .u32 3210313671, .int .u32 3336571891, .int .u32 3584528711, .int .u32 113926993, .int .u32 338241895, .int .u32 666307205, .int .u32 773529912, .int .u32 1294757372, .int .u32 1396182291, .int .u32 1695183700, .int .u32 1986661051, .int .u32 2177026350, .int .u32 2456956037, .int .u32 2730485921, .int .u32 2820302411, .int .u32 3259730800, .int .u32 3345764771, .int .u32 3516065817, .int .u32 3600352804, .int .u32 4094571909, .int .u32 275423344, .int .u32 430227734, .int .u32 506948616, .int .u32 659060556, .int .u32 883997877, .int .u32 958139571, .int .u32 1322822218, .int .u32 1537002063, .int .u32 1747873779, .int .u32 1955562222, .int .u32 2024104815, .int .u32 2227730452, .int .u32 2361852424, .int .u32 2428436474, .int .u32 2756734187, .int .u32 3204031479, .int .u32 3329325298] t frozen
  | o => o
end Go.Proofs.YthjfalbchkbdfaaDoor
