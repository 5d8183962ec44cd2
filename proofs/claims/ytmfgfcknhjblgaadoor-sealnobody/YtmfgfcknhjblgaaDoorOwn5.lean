import Derived.Deep.Light
import Derived.ProofKit
import Derived.OpenShut
import Derived.Test.YtmfgfcknhjblgaaDoorRows
import Derived.ChangeSlices
import Derived.Deep.Slices
import Derived.Deep.Strs
import Derived.SizedLaws
import Derived.Test.YtmfgfcknhjblgaaDoorCards
import Derived.Deep.DeepHandedRow
import Derived.Lib.LaidTab
import Derived.Test.YtmfgfcknhjblgaaDoorOwn1
import Derived.Test.YtmfgfcknhjblgaaDoorOwn2
import Derived.Test.YtmfgfcknhjblgaaDoorOwn3
import Derived.Test.YtmfgfcknhjblgaaDoorOwn4
set_option linter.unusedVariables false
set_option linter.unusedSimpArgs false
/- The document's answer: the message of some bytes. -/
namespace Go.Proofs.YtmfgfcknhjblgaaDoor
set_option linter.unusedSimpArgs false
set_option linter.unusedVariables false
open Go.RowKit Go.Deep

/-- the bytes of a number, the lowest k of them, the highest first. -/
def lastI (N : Int) : Nat → List Int
  | 0 => []
  | k + 1 => (N / 256 ^ k % 256) :: lastI N k
theorem lastI_length (N : Int) : ∀ k, (lastI N k).length = k
  | 0 => rfl
  | k + 1 => by rw [lastI, List.length_cons, lastI_length N k]
theorem lastI_len (n : Nat) : lastI (8 * (n : Int)) 8 = lenBytes n := by
  simp [lastI, lenBytes, List.range, List.range.loop]
def slen : Value → Nat
  | .slice _ n _ => n
  | _ => 0
theorem newBytes.slen {w : World} {B : Nat} {v : Value} {l : List Int} (h : newBytes w B v l) : ∃ a c, v = .slice a l.length c := by
  obtain ⟨a, c, h, _⟩ := h.is.slice; exact ⟨a, c, h⟩
theorem newBytes.fresh1 (w : World) (B : Nat) (x : Int) (h0 : 0 ≤ x) (h1 : x ≤ 255) (hB : B ≤ w.heap.size) : newBytes (w.alloc (.cells #[.int .u8 x] 5)) B (.slice (some ⟨w.heap.size, 0, none⟩) 1 1) [x] :=
  ⟨⟨rfl, Or.inr ⟨w.heap.size, 1, #[.int .u8 x], rfl, hB, blk_alloc_new _ _, Nat.le_refl _, by unfold maxLen; omega, rfl, rfl⟩⟩, fun i => by cases i <;> simp <;> omega⟩
theorem pad_rem (L j : Nat) (h : j < (119 - L % 64) % 64) : (L + 1 + j) % 64 ≠ 56 := by omega
theorem pad_end (L : Nat) : (L + 1 + (119 - L % 64) % 64) % 64 = 56 := by omega
def padTo (l : List Int) (j : Nat) : List Int := l ++ [128] ++ List.replicate j 0
theorem padTo_length (l : List Int) (j : Nat) : (padTo l j).length = l.length + 1 + j := by simp [padTo]; omega
theorem padTo_succ (l : List Int) (j : Nat) : padTo l (j + 1) = padTo l j ++ [0] := by rw [padTo, padTo, List.replicate_succ', ← List.append_assoc]
set_option maxHeartbeats 1000000 in
set_option maxRecDepth 100000 in
theorem rmsg_any (u : Value) (l : List Int) (w : World) (hu : isBytes w u l) (hl : l.length ≤ 1000000000) :
    Calls Tryd.prog 40 #[u] w fun e w' => ∃ v', e = .returned v' ∧ newBytes w' w.heap.size v' (msg l) ∧ Below w.heap.size w w' := by
  obtain ⟨r, w2, hr, ho2, hb2⟩ := bytes_copy_run w u l hu (by omega)
  have hs2 := hb2.size
  obtain ⟨v3, w3, hr3, ho3, hb3⟩ := byte_append_run w2 w.heap.size r l 128 (by omega) (by omega) ho2 (by omega) hs2
  obtain ⟨ua, uc, rfl, hum⟩ := hu.slice
  have HO3 : Hid (newBytes w3 w.heap.size v3 (padTo l 0)) := (show newBytes w3 w.heap.size v3 (padTo l 0) from by rw [padTo, List.replicate_zero, List.append_nil]; exact ho3)
  have HB3 : Hid (Below w.heap.size w w3) := (show Below w.heap.size w w3 from hb2.trans hb3)
  clear ho3 hb3 hb2 ho2 hu hs2
  have hl' : (l.length : Int) ≤ 1000000000 := by omega
  go_enter Tryd.func40, Tryd.ntmps40
  go_wp2_with (first | (at_builtin; refine wpList_append_run rfl _ _ _ rfl rfl rfl hr ?_) | (at_builtin; refine wpList_append_run rfl _ _ _ rfl rfl rfl hr3 ?_))
  clear hr hr3
  go_loopw [3] (fun v wr => ∃ j : Nat, j ≤ (119 - l.length % 64) % 64 ∧ newBytes wr w.heap.size v (padTo l j) ∧ Below w.heap.size w wr) (fun v _ => l.length + 1 + (119 - l.length % 64) % 64 - slen v)
  case atStart => exact ⟨0, by omega, HO3.out, HB3.out⟩
  case round =>
    obtain ⟨j, hj, hown, hb⟩ := hrel
    have hs := hb.size
    have hj2 : (j : Int) ≤ 64 := by omega
    by_cases hlt : j < (119 - l.length % 64) % 64
    · have hne := pad_rem l.length j hlt
      have hne' : ((l.length : Int) + 1 + (j : Int)) % 64 ≠ 56 := by omega
      obtain ⟨v4, w4, hr4, ho4, hb4⟩ := byte_append_run wr w.heap.size _ _ 0 (by omega) (by omega) hown (by rw [padTo_length]; omega) hs
      rw [← padTo_succ] at ho4
      obtain ⟨a3, c3, rfl⟩ := hown.slen
      obtain ⟨a4, c4, rfl⟩ := ho4.slen
      have HO4 : Hid _ := ho4
      clear ho4 hown hne
      rw [padTo_length] at hr4 ⊢
      go_wp2_with (first | (at_builtin; refine wpList_append_run rfl _ _ _ rfl rfl rfl hr4 ?_))
      exact ⟨⟨j + 1, by omega, HO4.out, hb.trans hb4⟩, by simp only [slen, padTo_length]; omega⟩
    · have hje : j = (119 - l.length % 64) % 64 := by omega
      have hne : ((l.length : Int) + 1 + (j : Int)) % 64 = 56 := by omega
      have HJ : Hid (j = (119 - l.length % 64) % 64) := hje
      clear hje hlt hj
      obtain ⟨a3, c3, rfl⟩ := hown.slen
      have HM : Hid _ := hown
      clear hown HO3 HB3
      rw [padTo_length] at HM ⊢
      go_wp2
      clear hne
      go_loopw [4, 5, 6] (fun nv lv i wq => ∃ k : Nat, k ≤ 8 ∧ i = .int .i64 k ∧ nv = .int .u64 (8 * (l.length : Int) / 256 ^ k) ∧ isBytes wq lv (lastI (8 * (l.length : Int)) k) ∧ newBytes wq w.heap.size (.slice a3 (l.length + 1 + j) c3) (padTo l j) ∧ Below w.heap.size w wq) (fun _ _ i _ => 8 - (intOf i).toNat)
      case atStart => exact ⟨0, by omega, rfl, by simp, Or.inl ⟨rfl, rfl⟩, HM.out, hb⟩
      case round =>
        clear hb hs HM
        obtain ⟨k, hk, rfl, rfl, hlast, hown, hb⟩ := hrel
        have hs := hb.size
        by_cases hltk : k < 8
        · have hL1 : lastI (8 * (l.length : Int)) (k + 1) = [8 * (l.length : Int) / 256 ^ k % 256] ++ lastI (8 * (l.length : Int)) k := rfl
          have hN1 : 8 * (l.length : Int) / 256 ^ (k + 1) = 8 * (l.length : Int) / 256 ^ k / 256 := by
            rw [Int.pow_succ, Int.ediv_ediv_of_nonneg (Int.pow_nonneg (by omega))]
          have hN0 : 0 ≤ 8 * (l.length : Int) / 256 ^ k := Int.ediv_nonneg (by omega) (Int.pow_nonneg (by omega))
          have hN2 : 8 * (l.length : Int) / 256 ^ k ≤ 8000000000 := Int.le_trans (Int.ediv_le_self _ (by omega)) (by omega)
          have HL1 : Hid _ := hL1
          have HN1 : Hid _ := hN1
          clear hL1 hN1
          generalize 8 * (l.length : Int) / 256 ^ k = N at *
          have hba : Below wr.heap.size wr (wr.alloc (.cells #[.int .u8 (N % 256)] 5)) := (Below.refl _ _).alloc (Nat.le_refl _) _
          obtain ⟨q, w5, hr5, ho5, hg5, _⟩ := bytes_append_run (wr.alloc (.cells #[.int .u8 (N % 256)] 5)) wr.heap.size _ u5 [N % 256] _ (newBytes.fresh1 wr wr.heap.size (N % 256) (by omega) (by omega) (Nat.le_refl _)) (hlast.below hba (Nat.le_refl _)) (by rw [lastI_length]; simp; omega) (by simp)
          have hb5 : Below wr.heap.size wr w5 := hba.trans (below_grown hg5 (fun j hj => by have : wr.heap.size = j := by simpa [Value.ownBlock] using hj
                                                                                            omega) (by simp))
          have HO5 : Hid (isBytes w5 q (lastI (8 * (l.length : Int)) (k + 1))) := by
            rw [HL1.out]
            exact ho5.is
          have HM5 : Hid (newBytes w5 w.heap.size (.slice a3 (l.length + 1 + j) c3) (padTo l j)) := hown.below hb5 (Nat.le_refl _)
          have HB5 : Hid (Below w.heap.size w w5) := hb.trans (hb5.mono hs)
          obtain ⟨la, lc, rfl, _⟩ := hlast.slice
          clear ho5 hg5 hlast hown hb hba hb5
          go_wp2_with (first | (at_builtin; refine wpList_append_run rfl _ _ _ rfl rfl rfl hr5 ?_))
          exact ⟨⟨k + 1, by omega, by simp, by rw [HN1.out], HO5.out, HM5.out, HB5.out⟩, by simp only [intOf]; omega⟩
        · obtain rfl : k = 8 := by omega
          obtain ⟨q, w5, hr5, ho5, hg5, _⟩ := bytes_append_run wr w.heap.size _ u5 _ _ hown hlast (by rw [lastI_length, padTo_length]; have := HJ.out; omega) hs
          have HB5 : Hid (Below w.heap.size w w5) := hb.trans (below_grown hg5 (fun j hj => (hown.block j hj).1) hs)
          have HO5 : Hid (newBytes w5 w.heap.size q (msg l)) := by
            rw [lastI_len] at ho5
            have e : msg l = padTo l j ++ lenBytes l.length := by
              rw [msg, ← HJ.out, padTo]; simp
            rw [e]; exact ho5
          obtain ⟨la, lc, rfl, _⟩ := hlast.slice
          clear ho5 hg5 hlast hown hb
          go_wp2_with (first | (at_builtin; refine wpList_append_run rfl _ _ _ rfl rfl rfl hr5 ?_))
          go_ret
          exact ⟨_, rfl, HO5.out, HB5.out⟩
end Go.Proofs.YtmfgfcknhjblgaaDoor

/- The document's SHA-256: Sum. -/
namespace Go.Proofs.YtmfgfcknhjblgaaDoor
set_option linter.unusedSimpArgs false
set_option linter.unusedVariables false
open Go.RowKit Go.Deep

def s8V (v : Nat → Int) : S8 := ⟨v 0, v 1, v 2, v 3, v 4, v 5, v 6, v 7⟩
def wordsL (v : Nat → Int) : List Value := (List.range 8).map fun i => .int .u32 (v i)
theorem s8L_V (v : Nat → Int) : s8L (s8V v) = wordsL v := rfl
theorem s8V_at (v : Nat → Int) (i : Nat) (h : i < 8) : (s8V v).at i = v i := by
  have : i = 0 ∨ i = 1 ∨ i = 2 ∨ i = 3 ∨ i = 4 ∨ i = 5 ∨ i = 6 ∨ i = 7 := by omega
  rcases this with rfl | rfl | rfl | rfl | rfl | rfl | rfl | rfl <;> rfl
theorem wordsAt_ok (l : List Int) : ∀ k i, i < 8 → okW (wordsAt l k i)
  | 0, i, h => by
    have : i = 0 ∨ i = 1 ∨ i = 2 ∨ i = 3 ∨ i = 4 ∨ i = 5 ∨ i = 6 ∨ i = 7 := by omega
    rcases this with rfl | rfl | rfl | rfl | rfl | rfl | rfl | rfl <;> (unfold okW wordsAt firstI S8.at; decide)
  | k + 1, i, h => by
    unfold okW; rw [wordsAt, takeI]; omega
theorem okS_words (l : List Int) (k : Nat) : okS (s8V (wordsAt l k)) :=
  ⟨wordsAt_ok l k 0 (by omega), wordsAt_ok l k 1 (by omega), wordsAt_ok l k 2 (by omega), wordsAt_ok l k 3 (by omega), wordsAt_ok l k 4 (by omega), wordsAt_ok l k 5 (by omega), wordsAt_ok l k 6 (by omega), wordsAt_ok l k 7 (by omega)⟩
theorem words_next (l : List Int) (k : Nat) : ((List.range 8).map fun i => Value.int .u32 (((s8V (wordsAt l k)).at i + (rndTo (wAt (fun i => l.getD (64 * k + i) 0) 64) (s8V (wordsAt l k)) 64).at i) % 4294967296)) = wordsL (wordsAt l (k + 1)) := by
  unfold wordsL
  refine List.map_congr_left fun i hi => ?_
  have h8 : i < 8 := List.mem_range.1 hi
  rw [wordsAt, takeI, s8V_at _ i h8]; rfl
theorem words_cell {w : World} {B g c : Nat} {v : Nat → Int} (h : owns w B 38 (.slice (some ⟨g, 0, none⟩) 8 c) (wordsL v)) (i : Nat) (hi : i < 8) : w.cell? ⟨g, i, none⟩ = some (.int .u32 (v i)) := by
  obtain ⟨g', c', he, _, _, _, _, hc, _⟩ := h.shape (by simp [wordsL])
  obtain ⟨rfl, _⟩ : g = g' ∧ True := by
    have : g = g' := by simp at he; exact he.1
    exact ⟨this, trivial⟩
  refine hc i _ ?_
  unfold wordsL
  rw [List.getElem?_map, List.getElem?_range hi]; rfl
section
variable {P : Program}
/-- x[m:n]. -/
theorem run_slice_two (t e : TypeId) (b o len cap m n : Nat) (hu : P.underlying t = some (.slice e)) (hs : (P.info? e).map (·.size) = some 1) (hmn : m < n) (hm : n ≤ cap) (x y : Int) (hx : x = m) (hy : y = n) (w : World) :
    (Instr.slice t (.slice (some ⟨b, o, none⟩) len cap) (some (.int .i64 x)) (some (.int .i64 y)) none).run P w = .ok (.slice (some ⟨b, o + m, none⟩) (n - m) (cap - m)) w := by
  subst hx hy
  cases hq : P.info? e with
  | none => simp [hq] at hs
  | some i =>
    have hi : i.size = 1 := by simpa [hq] using hs
    have h0 : (0 : Int) ≤ (n : Int) ∧ (n : Int) ≤ (cap : Int) := by omega
    have h1 : (0 : Int) ≤ (m : Int) ∧ (m : Int) ≤ (n : Int) := by omega
    have h2 : m ≤ n := by omega
    have h3 : ¬ cap = m := by omega
    simp [Instr.slice, Instr.sliceBounds, Instr.sliceBound, asIntOf, run_underlying hu, sizeOf, typeInfo, hq, hi, h0, h1, h2, h3, hm, Addr.add_mid]
end
theorem owns_lower {w : World} {B C e : Nat} {v : Value} {xs : List Value} (h : owns w B e v xs) (hC : C ≤ B) : owns w C e v xs := by
  obtain ⟨hl, h | ⟨g, cap, cur, he, hB, hb, hc, hm, hs, ht⟩⟩ := h
  · exact ⟨hl, Or.inl h⟩
  · exact ⟨hl, Or.inr ⟨g, cap, cur, he, by omega, hb, hc, hm, hs, ht⟩⟩
set_option maxHeartbeats 4000000 in
set_option maxRecDepth 100000 in
/-- THE DOCUMENT'S Sum, OF ANY PARTS. -/
theorem rsum_any (n : Nat) (v : Value) (ps : Nat → List Int) (w : World) (hp : anyParts w v n ps) (hl : ∀ i, i ≤ n → (flatTo ps i).length ≤ 1000000000) :
    Calls Tryd.prog 15 #[v] w fun e w' => e = .returned (.agg (rowV 32 fun i => .int .u8 (sumI (flatTo ps n) i))) ∧ Below w.heap.size w w' := by
  have hi32 : (Tryd.prog.info? 30).map (·.size) = some 32 := by kernel_rfl
  have r0 : (w.alloc (.cells (Array.replicate 32 (.int .u8 0)) 30)).rowIs w.heap.size 30 32 (fun _ => .int .u8 0) := rowIs_zero w (Array.replicate 32 (.int .u8 0)) 30 32 (.int .u8 0) rfl
  obtain ⟨wb, hwb⟩ : ∃ wb, wb = (w.alloc (.cells (Array.replicate 32 (.int .u8 0)) 30)).alloc (.cells #[.int .u32 1779033703, .int .u32 3144134277, .int .u32 1013904242, .int .u32 2773480762, .int .u32 1359893119, .int .u32 2600822924, .int .u32 528734635, .int .u32 1541459225] 38) := ⟨_, rfl⟩
  have bb : Below w.heap.size w wb := by rw [hwb]; exact ((Below.refl _ _).alloc (Nat.le_refl _) _).alloc (by simp) _
  have rb : wb.rowIs w.heap.size 30 32 (fun _ => .int .u8 0) := by rw [hwb]; exact r0.alloc _
  have sb : wb.heap.size = w.heap.size + 2 := by rw [hwb]; simp
  have ob : owns wb w.heap.size 38 (.slice (some ⟨w.heap.size + 1, 0, none⟩) 8 8) (wordsL (wordsAt (msg (flatTo ps n)) 0)) := by
    refine ⟨rfl, Or.inr ⟨w.heap.size + 1, 8, #[.int .u32 1779033703, .int .u32 3144134277, .int .u32 1013904242, .int .u32 2773480762, .int .u32 1359893119, .int .u32 2600822924, .int .u32 528734635, .int .u32 1541459225], rfl, by omega, ?_, Nat.le_refl _, by unfold maxLen; omega, rfl, rfl⟩⟩
    rw [hwb]
    have := blk_alloc_new (w.alloc (.cells (Array.replicate 32 (.int .u8 0)) 30)) (.cells #[.int .u32 1779033703, .int .u32 3144134277, .int .u32 1013904242, .int .u32 2773480762, .int .u32 1359893119, .int .u32 2600822924, .int .u32 528734635, .int .u32 1541459225] 38)
    rw [nblk_alloc] at this; exact this
  have AL := rall_any n v ps wb (hp.below bb (Nat.le_refl _)) hl
  have hn := hl n (Nat.le_refl _)
  obtain ⟨l, hl'⟩ : ∃ l, l = flatTo ps n := ⟨_, rfl⟩
  rw [← hl'] at AL ob hn
  rw [← hl']
  have OB : Hid (owns wb w.heap.size 38 (.slice (some ⟨w.heap.size + 1, 0, none⟩) 8 8) (wordsL (wordsAt (msg l) 0))) := (show owns wb w.heap.size 38 (.slice (some ⟨w.heap.size + 1, 0, none⟩) 8 8) (wordsL (wordsAt (msg l) 0)) from ob)
  have RB : Hid (wb.rowIs w.heap.size 30 32 (fun _ => .int .u8 0)) := (show wb.rowIs w.heap.size 30 32 (fun _ => .int .u8 0) from rb)
  have BB : Hid (Below w.heap.size w wb) := (show Below w.heap.size w wb from bb)
  have SB : Hid (wb.heap.size = w.heap.size + 2) := (show wb.heap.size = w.heap.size + 2 from sb)
  obtain ⟨va, vc, rfl, _, _⟩ := hp.open
  clear ob rb bb sb r0 hl hl' hp
  go_enter Tryd.func15, Tryd.ntmps15
  go_wp2_with fail
  rw [hwb] at AL
  refine AL.mono ?_
  rintro e w1 ⟨v1, rfl, n1, b1⟩
  rw [← hwb] at n1 b1
  have MS := rmsg_any v1 l w1 n1.is hn
  obtain ⟨a1, c1, rfl⟩ := n1.slen
  clear AL hwb n1
  go_wp2_with fail
  refine MS.mono ?_
  rintro e w2 ⟨v2, rfl, n2, b2⟩
  clear MS
  have s1 := b1.size
  have s2 := b2.size
  obtain ⟨M, hM⟩ : ∃ M, M = msg l := ⟨_, rfl⟩
  have hML : M.length % 64 = 0 ∧ M.length ≤ 2000000000 ∧ 0 < M.length := by rw [hM, msg_length]; omega
  rw [← hM] at OB n2
  have m2 : isBytes w2 v2 M := n2.is
  obtain ⟨mb, mo, mc, rfl, hmc, hmm, hmb, hmcell, hbyte⟩ : ∃ mb mo mc : Nat, v2 = .slice (some ⟨mb, mo, none⟩) M.length mc ∧ M.length ≤ mc ∧ mc ≤ maxLen ∧ mb < w2.heap.size ∧ (∀ i, i < M.length → w2.cell? ⟨mb, mo + i, none⟩ = some (.int .u8 (M.getD i 0))) ∧ ∀ i, 0 ≤ M.getD i 0 ∧ M.getD i 0 ≤ 255 := by
    rcases m2 with ⟨_, h⟩ | h
    · rw [h] at hML; simp at hML
    · exact h
  have B2 : Hid (Below w.heap.size w w2 ∧ w2.rowIs w.heap.size 30 32 (fun _ => .int .u8 0) ∧ owns w2 w.heap.size 38 (.slice (some ⟨w.heap.size + 1, 0, none⟩) 8 8) (wordsL (wordsAt M 0))) := (show Below w.heap.size w w2 ∧ w2.rowIs w.heap.size 30 32 (fun _ => .int .u8 0) ∧ owns w2 w.heap.size 38 (.slice (some ⟨w.heap.size + 1, 0, none⟩) 8 8) (wordsL (wordsAt M 0)) from by
    have s0 := SB.out
    exact ⟨(BB.out.trans (b1.mono (by omega))).trans (b2.mono (by omega)), b2.row (b1.row RB.out (by omega)) (by omega), (OB.out.below b1 (Nat.le_refl _)).below b2 (Nat.le_refl _)⟩)
  have HM : Hid (M = msg l) := (show M = msg l from hM)
  have CL : Hid (∀ i, i < M.length → w2.cell? ⟨mb, mo + i, none⟩ = some (.int .u8 (M.getD i 0))) := (show ∀ i, i < M.length → w2.cell? ⟨mb, mo + i, none⟩ = some (.int .u8 (M.getD i 0)) from hmcell)
  have HB : Hid (∀ i, 0 ≤ M.getD i 0 ∧ M.getD i 0 ≤ 255) := (show ∀ i, 0 ≤ M.getD i 0 ∧ M.getD i 0 ≤ 255 from hbyte)
  have q0 : (M.length : Int) ≤ 2000000000 := by omega
  have q1 : (M.length : Int) ≤ (mc : Int) := by omega
  have S2 : Hid (wb.heap.size ≤ w1.heap.size ∧ w1.heap.size ≤ w2.heap.size ∧ mb < w2.heap.size) := (show wb.heap.size ≤ w1.heap.size ∧ w1.heap.size ≤ w2.heap.size ∧ mb < w2.heap.size from ⟨s1, s2, hmb⟩)
  clear hM OB n2 m2 hmcell hbyte b1 b2 s1 s2 RB BB hmb
  go_wp2
  go_loopw [3, 5] (fun x i wr => ∃ k : Nat, 64 * k ≤ M.length ∧ i = .int .i64 (64 * (k : Int)) ∧ owns wr w.heap.size 38 x (wordsL (wordsAt M k)) ∧ Below w.heap.size w wr ∧ Below w2.heap.size w2 wr ∧ wr.rowIs w.heap.size 30 32 (fun _ => .int .u8 0)) (fun _ i _ => M.length - (intOf i).toNat)
  case atStart => exact ⟨0, by omega, rfl, B2.out.2.2, B2.out.1, Below.refl _ _, B2.out.2.1⟩
  case round =>
    obtain ⟨k, hk, rfl, hx, hb, hb2, hr0⟩ := hrel
    clear B2
    obtain ⟨gx, cx, rfl, hgx, hgl, hcx, _, _, _⟩ := hx.shape (by simp [wordsL])
    have l8 : (wordsL (wordsAt M k)).length = 8 := by simp [wordsL]
    rw [l8] at hx hcx ⊢
    have s2 := S2.out
    have sr := hb2.size
    by_cases hlt : 64 * k < M.length
    · have hk1 : 64 * k + 64 ≤ M.length := by omega
      have p0 : (64 * (k : Int)) < (M.length : Int) := by omega
      have p1 : (64 * (k : Int)) + 64 ≤ (mc : Int) := by omega
      have p2 : (64 * (k : Int)) ≤ (64 * (k : Int)) + 64 := by omega
      have p3 : (0 : Int) ≤ (64 * (k : Int)) := by omega
      have SL : ∀ wz, (Instr.slice 34 (.slice (some ⟨mb, mo, none⟩) M.length mc) (some (.int .i64 (64 * (k : Int)))) (some (.int .i64 (64 * (k : Int) + 64))) none).run Tryd.prog wz = .ok (.slice (some ⟨mb, mo + 64 * k, none⟩) 64 (mc - 64 * k)) wz := fun wz => by
        have := run_slice_two (P := Tryd.prog) 34 5 mb mo M.length mc (64 * k) (64 * k + 64) Tryd.underlying34 (by kernel_rfl) (by omega) (by omega) (64 * (k : Int)) (64 * (k : Int) + 64) (by omega) (by omega) wz
        rw [this, show 64 * k + 64 - 64 * k = 64 by omega]
      have BL := block_any (s8V (wordsAt M k)) (okS_words M k) (fun i => M.getD (64 * k + i) 0) (fun i => HB.out _) gx 0 cx mb (mo + 64 * k) (mc - 64 * k) wr hgl (fun j u hu => by
        rw [s8L_V] at hu
        have hj : j < 8 := by
          by_cases hj : j < 8
          · exact hj
          · rw [List.getElem?_eq_none (by rw [l8]; omega)] at hu; cases hu
        have := words_cell hx j hj
        unfold wordsL at hu
        rw [List.getElem?_map, List.getElem?_range hj] at hu
        rw [Nat.zero_add, this]; exact hu) (by omega) (fun i hi => by
        rw [Nat.add_assoc, hb2.cell (p := ⟨mb, mo + (64 * k + i), none⟩) s2.2.2]
        exact CL.out (64 * k + i) (by omega))
      rw [words_next] at BL
      have HBe : Hid (Below w.heap.size w wr ∧ Below w2.heap.size w2 wr ∧ wr.rowIs w.heap.size 30 32 (fun _ => .int .u8 0)) := (show Below w.heap.size w wr ∧ Below w2.heap.size w2 wr ∧ wr.rowIs w.heap.size 30 32 (fun _ => .int .u8 0) from ⟨hb, hb2, hr0⟩)
      have BL' : Hid _ := BL
      clear BL hx hb hb2 hr0 CL HB
      go_wp2_with fail
      refine Calls.mono BL'.out ?_
      rintro e w3 ⟨v3, rfl, o3, b3⟩
      have NX : Hid (owns w3 w.heap.size 38 v3 (wordsL (wordsAt M (k + 1))) ∧ Below w.heap.size w w3 ∧ Below w2.heap.size w2 w3 ∧ w3.rowIs w.heap.size 30 32 (fun _ => .int .u8 0)) := (show owns w3 w.heap.size 38 v3 (wordsL (wordsAt M (k + 1))) ∧ Below w.heap.size w w3 ∧ Below w2.heap.size w2 w3 ∧ w3.rowIs w.heap.size 30 32 (fun _ => .int .u8 0) from by
        have hh := HBe.out
        have s3 := hh.1.size
        exact ⟨owns_lower o3 s3, hh.1.trans (b3.mono s3), hh.2.1.trans (b3.mono sr), b3.row hh.2.2 (by have := hh.2.2.lt; omega)⟩)
      clear o3 b3 BL' HBe SL p0 p1 p2 p3
      go_wp2
      go_light
      exact ⟨⟨k + 1, by omega, by go_num, NX.out.1, NX.out.2.1, NX.out.2.2.1, NX.out.2.2.2⟩, by simp [intOf]; omega⟩
    · have hke : k = M.length / 64 := by omega
      have p0 : ¬ (64 * (k : Int)) < (M.length : Int) := by omega
      have CW : Hid (∀ i, i < 8 → wr.cell? ⟨gx, i, none⟩ = some (.int .u32 (wordsAt M k i))) := (show ∀ i, i < 8 → wr.cell? ⟨gx, i, none⟩ = some (.int .u32 (wordsAt M k i)) from fun i hi => words_cell hx i hi)
      have FW : Hid (wordsAt M k = finalW l) := (show wordsAt M k = finalW l from by rw [hke, HM.out]; rfl)
      have HBe : Hid (Below w.heap.size w wr ∧ wr.rowIs w.heap.size 30 32 (fun _ => .int .u8 0) ∧ gx < wr.heap.size ∧ w.heap.size < wr.heap.size) := (show Below w.heap.size w wr ∧ wr.rowIs w.heap.size 30 32 (fun _ => .int .u8 0) ∧ gx < wr.heap.size ∧ w.heap.size < wr.heap.size from ⟨hb, hr0, hgl, hr0.lt⟩)
      have W8 : Hid (∀ i, i < 8 → okW (wordsAt M k i)) := (show ∀ i, i < 8 → okW (wordsAt M k i) from wordsAt_ok M k)
      clear hx hb hb2 hr0 CL HB hke s2 sr hgl
      obtain ⟨wv, hwv⟩ : ∃ wv, wv = wordsAt M k := ⟨_, rfl⟩
      rw [← hwv] at CW FW W8
      clear hwv
      obtain ⟨G, hG⟩ : ∃ G, G = wr.heap.size := ⟨_, rfl⟩
      have HG : Hid (G = wr.heap.size) := (show G = wr.heap.size from hG)
      clear hG
      go_wp2
      rw [← HG.out]
      go_loopw [7] (fun i wq => ∃ j : Nat, j ≤ 32 ∧ i = .int .i64 j ∧ wq.rowIs G 30 32 (fun i => .int .u8 (if i < j then sumByte wv i else 0)) ∧ wq.rowIs w.heap.size 30 32 (fun _ => .int .u8 0) ∧ Below w.heap.size w wq ∧ ∀ i, i < 8 → wq.cell? ⟨gx, i, none⟩ = some (.int .u32 (wv i))) (fun i _ => 32 - (intOf i).toNat)
      case atStart =>
        have hh := HBe.out
        have b1 : Below wr.heap.size wr (wr.alloc (.cells (Array.replicate 32 (.int .u8 0)) 30)) := (Below.refl _ _).alloc (Nat.le_refl _) _
        rw [HG.out]
        exact ⟨0, by omega, rfl, (rowIs_zero wr (Array.replicate 32 (.int .u8 0)) 30 32 (.int .u8 0) rfl).congr (fun i _ => by rw [if_neg (by omega)]), b1.row hh.2.1 hh.2.2.2, hh.1.trans (b1.mono hh.1.size), fun i hi => (b1.cell (p := ⟨gx, i, none⟩) hh.2.2.1).trans (CW.out i hi)⟩
      case round =>
        obtain ⟨j, hj, rfl, hro, hr0, hb, hcx8⟩ := hrel
        have hh : gx < G ∧ w.heap.size < G := by have := HBe.out; have := HG.out; omega
        clear CW HBe HG
        have g0 : (0 : Int) ≤ (j : Int) := by omega
        by_cases hlt2 : j < 32
        · have g1 : (j : Int) < 32 := by omega
          obtain ⟨q, hq⟩ : ∃ q, q = j / 4 := ⟨_, rfl⟩
          obtain ⟨r, hr⟩ : ∃ r, r = j % 4 := ⟨_, rfl⟩
          have hjq : j = 4 * q + r := by omega
          have e1 : (j : Int) / 4 = (q : Int) := by omega
          have e2 : (j : Int) % 4 = (r : Int) := by omega
          have e2' : (j : Int).tmod 4 = (r : Int) := by rw [Int.tmod_eq_emod_of_nonneg g0]; exact e2
          have g2 : (q : Int) < 8 := by omega
          have g3 : (0 : Int) ≤ (q : Int) := by omega
          have g4 : (r : Int) < 4 := by omega
          have cq := hcx8 q (by omega)
          have wq1 : IntKind.i64.wrap (q : Int) = q := IntWalk.i64_in _ (by omega)
          have wq2 : IntKind.i64.wrap (r : Int) = r := IntWalk.i64_in _ (by omega)
          have wq3 : IntKind.i64.wrap (j : Int) = j := IntWalk.i64_in _ (by omega)
          have wq4 : IntKind.i64.wrap ((r : Int) * 8) = (r : Int) * 8 := IntWalk.i64_in _ (by omega)
          have wq5 : IntKind.i64.wrap (24 - (r : Int) * 8) = 24 - (r : Int) * 8 := IntWalk.i64_in _ (by omega)
          have ok := W8.out q (by omega)
          have ok0 := ok.1
          have ok1 := ok.2
          have zo := hro.frozen j
          have co := hro.cell (i := j) hlt2
          have PW := power_any (24 - 8 * r) (by omega)
          have e3 : (24 - (r : Int) * 8) = ((24 - 8 * r : Nat) : Int) := by omega
          have hpow : (2 ^ (24 - 8 * r) % 4294967296 : Int) = 2 ^ (24 - 8 * r) := pow_small _ (by omega)
          have hpos : (0 : Int) < 2 ^ (24 - 8 * r) := Int.pow_pos (by omega)
          obtain ⟨D, hD⟩ : ∃ D : Int, D = 2 ^ (24 - 8 * r) := ⟨_, rfl⟩
          rw [hpow, ← hD] at PW
          rw [← hD] at hpos
          have hDne : D ≠ 0 := by omega
          have dv0 : 0 ≤ wv q / D := Int.ediv_nonneg ok0 (by omega)
          have dv1 : wv q / D < 4294967296 := Int.lt_of_le_of_lt (Int.ediv_le_self _ ok0) ok1
          have wq6 : IntKind.i64.wrap ((24 - 8 * r : Nat) : Int) = ((24 - 8 * r : Nat) : Int) := IntWalk.i64_in _ (by omega)
          have HV : Hid (IntKind.u8.wrap ((IntKind.u32.wrap ((wv q).tdiv D)).tmod 256) = wv q / D % 256) := (show IntKind.u8.wrap ((IntKind.u32.wrap ((wv q).tdiv D)).tmod 256) = wv q / D % 256 from by
            rw [Int.tdiv_eq_ediv_of_nonneg ok0, IntWalk.u32_in _ ⟨dv0, by omega⟩, Int.tmod_eq_emod_of_nonneg dv0, IntWalk.u8_in _ (by omega)])
          have SBy : Hid (wv q / D % 256 = sumByte wv j) := (show wv q / D % 256 = sumByte wv j from by rw [sumByte, hD, ← hq, ← hr])
          have PW' : Hid (∀ w : World, Calls Tryd.prog 42 #[.int .i64 ((24 - 8 * r : Nat) : Int)] w fun e w' => e = .returned (.int .u32 D) ∧ w' = w) := (show ∀ w : World, Calls Tryd.prog 42 #[.int .i64 ((24 - 8 * r : Nat) : Int)] w fun e w' => e = .returned (.int .u32 D) ∧ w' = w from PW)
          have NX : Hid (∀ x : Int, x = wv q / D % 256 → (wr.drew.setCell ⟨G, j, none⟩ (.int .u8 x)).rowIs G 30 32 (fun i => .int .u8 (if i < j + 1 then sumByte wv i else 0)) ∧ (wr.drew.setCell ⟨G, j, none⟩ (.int .u8 x)).rowIs w.heap.size 30 32 (fun _ => .int .u8 0) ∧ Below w.heap.size w (wr.drew.setCell ⟨G, j, none⟩ (.int .u8 x)) ∧ ∀ i, i < 8 → (wr.drew.setCell ⟨G, j, none⟩ (.int .u8 x)).cell? ⟨gx, i, none⟩ = some (.int .u32 (wv i))) := (show ∀ x : Int, x = wv q / D % 256 → (wr.drew.setCell ⟨G, j, none⟩ (.int .u8 x)).rowIs G 30 32 (fun i => .int .u8 (if i < j + 1 then sumByte wv i else 0)) ∧ (wr.drew.setCell ⟨G, j, none⟩ (.int .u8 x)).rowIs w.heap.size 30 32 (fun _ => .int .u8 0) ∧ Below w.heap.size w (wr.drew.setCell ⟨G, j, none⟩ (.int .u8 x)) ∧ ∀ i, i < 8 → (wr.drew.setCell ⟨G, j, none⟩ (.int .u8 x)).cell? ⟨gx, i, none⟩ = some (.int .u32 (wv i)) from fun x hx => by
            have bG : Below G wr (wr.drew.setCell ⟨G, j, none⟩ (.int .u8 x)) := (Below.refl G wr).drew.setCell (Nat.le_refl _) _
            refine ⟨(World.rowIs.set (w := wr.drew) hro j _).congr fun i hi => ?_, bG.row hr0 hh.2, hb.trans (bG.mono (by omega)), fun i hi => (bG.cell (p := ⟨gx, i, none⟩) hh.1).trans (hcx8 i hi)⟩
            subst hx
            by_cases e : i = j
            · subst e; rw [if_pos rfl, SBy.out, if_pos (by omega)]
            · rw [if_neg e]
              by_cases e2 : i < j
              · rw [if_pos e2, if_pos (by omega)]
              · rw [if_neg e2, if_neg (by omega)])
          clear PW hpow hD hro hr0 hb hcx8 ok hq hr hjq
          go_upto_region 11 with fail
          refine wp_region_noPanic ?_
          refine wp_region_held_drew (S := fun w' => w'.cell? ⟨gx, q, none⟩ = some (.int .u32 (wv q))) (by kernel_rfl) cq (fun hHeld => ?_)
          refine take_op (i := 0) (v := ?va0) rfl (by kernel_rfl) (by kernel_rfl) (by kernel_rfl) (fun _ _ _ h => h) rfl hHeld ?ya0 ?ra0
          case ya0 => (intro wz hz; go_simp; first | done | with_reducible rfl)
          try simp only [Act.put, List.setIfInBounds_toArray, List.set_cons_zero, List.set_cons_succ]
          refine take_op (i := 1) (v := ?va1) rfl (by kernel_rfl) (by kernel_rfl) (by kernel_rfl) (fun _ _ _ h => h) rfl hHeld ?ya1 ?ra1
          case ya1 => (intro wz hz; go_simp; first | done | with_reducible rfl)
          try simp only [Act.put, List.setIfInBounds_toArray, List.set_cons_zero, List.set_cons_succ]
          refine take_op (i := 2) (v := ?va2) rfl (by kernel_rfl) (by kernel_rfl) (by kernel_rfl) (fun _ _ _ h => h) rfl hHeld ?ya2 ?ra2
          case ya2 => (intro wz hz; go_simp; first | done | with_reducible rfl)
          try simp only [Act.put, List.setIfInBounds_toArray, List.set_cons_zero, List.set_cons_succ]
          refine take_op (i := 3) (v := ?va3) rfl (by kernel_rfl) (by kernel_rfl) (by kernel_rfl) (fun _ _ _ h => h) rfl hHeld ?ya3 ?ra3
          case ya3 => (intro wz hz; go_simp; first | done | with_reducible rfl)
          try simp only [Act.put, List.setIfInBounds_toArray, List.set_cons_zero, List.set_cons_succ]
          refine take_op (i := 4) (v := ?va4) rfl (by kernel_rfl) (by kernel_rfl) (by kernel_rfl) (fun _ _ _ h => h) rfl hHeld ?ya4 ?ra4
          case ya4 => (intro wz hz; go_simp; first | done | with_reducible rfl)
          try simp only [Act.put, List.setIfInBounds_toArray, List.set_cons_zero, List.set_cons_succ]
          refine take_op (i := 5) (v := ?va5) rfl (by kernel_rfl) (by kernel_rfl) (by kernel_rfl) (fun _ _ _ h => h) rfl hHeld ?ya5 ?ra5
          case ya5 => (intro wz hz; have hcz := hz; go_simp; first | done | with_reducible rfl)
          try simp only [Act.put, List.setIfInBounds_toArray, List.set_cons_zero, List.set_cons_succ]
          refine take_op (i := 6) (v := ?va6) rfl (by kernel_rfl) (by kernel_rfl) (by kernel_rfl) (fun _ _ _ h => h) rfl hHeld ?ya6 ?ra6
          case ya6 => (intro wz hz; go_simp; first | done | with_reducible rfl)
          try simp only [Act.put, List.setIfInBounds_toArray, List.set_cons_zero, List.set_cons_succ]
          refine take_op (i := 7) (v := ?va7) rfl (by kernel_rfl) (by kernel_rfl) (by kernel_rfl) (fun _ _ _ h => h) rfl hHeld ?ya7 ?ra7
          case ya7 => (intro wz hz; go_simp; first | done | with_reducible rfl)
          try simp only [Act.put, List.setIfInBounds_toArray, List.set_cons_zero, List.set_cons_succ]
          refine take_op (i := 8) (v := ?va8) rfl (by kernel_rfl) (by kernel_rfl) (by kernel_rfl) (fun _ _ _ h => h) rfl hHeld ?ya8 ?ra8
          case ya8 => (intro wz hz; go_simp; first | done | with_reducible rfl)
          try simp only [Act.put, List.setIfInBounds_toArray, List.set_cons_zero, List.set_cons_succ]
          refine take_op (i := 9) (v := ?va9) rfl (by kernel_rfl) (by kernel_rfl) (by kernel_rfl) (fun _ _ _ h => h) rfl hHeld ?ya9 ?ra9
          case ya9 => (intro wz hz; go_simp; first | done | with_reducible rfl)
          try simp only [Act.put, List.setIfInBounds_toArray, List.set_cons_zero, List.set_cons_succ]
          refine take_one (i := 10) rfl (by kernel_rfl) rfl (fun K hK => ?_)
          go_simp
          refine Calls.mono (PW'.out _) ?_
          rintro e w' ⟨rfl, rfl⟩
          refine hK.out _ _ hHeld (fun hHeld => ?_)
          clear hK K
          try simp only [Act.put, List.setIfInBounds_toArray, List.set_cons_zero, List.set_cons_succ]
          refine take_op (i := 11) (v := ?vb11) rfl (by kernel_rfl) (by kernel_rfl) (by kernel_rfl) (fun _ _ _ h => h) rfl hHeld ?yb11 ?rb11
          case yb11 => (intro wz hz; go_simp; first | done | with_reducible rfl)
          try simp only [Act.put, List.setIfInBounds_toArray, List.set_cons_zero, List.set_cons_succ]
          refine take_op (i := 12) (v := ?vb12) rfl (by kernel_rfl) (by kernel_rfl) (by kernel_rfl) (fun _ _ _ h => h) rfl hHeld ?yb12 ?rb12
          case yb12 => (intro wz hz; go_simp; first | done | with_reducible rfl)
          try simp only [Act.put, List.setIfInBounds_toArray, List.set_cons_zero, List.set_cons_succ]
          refine take_op (i := 13) (v := ?vb13) rfl (by kernel_rfl) (by kernel_rfl) (by kernel_rfl) (fun _ _ _ h => h) rfl hHeld ?yb13 ?rb13
          case yb13 => (intro wz hz; go_simp; first | done | with_reducible rfl)
          try simp only [Act.put, List.setIfInBounds_toArray, List.set_cons_zero, List.set_cons_succ]
          refine take_op (i := 14) (v := ?vb14) rfl (by kernel_rfl) (by kernel_rfl) (by kernel_rfl) (fun _ _ _ h => h) rfl hHeld ?yb14 ?rb14
          case yb14 => (intro wz hz; go_simp; first | done | with_reducible rfl)
          try simp only [Act.put, List.setIfInBounds_toArray, List.set_cons_zero, List.set_cons_succ]
          refine take_one (i := 15) rfl (by kernel_rfl) rfl (fun K hK => ?_)
          go_simp
          refine hK.out _ _ ?hSS (fun hHeld => ?_)
          case hSS => exact (NX.out _ HV.out).2.2.2 q (by omega)
          clear hK K hHeld
          try simp only [Act.put, List.setIfInBounds_toArray, List.set_cons_zero, List.set_cons_succ]
          refine wpAnyH_done (by kernel_rfl) ?_ _
          refine NoPanic.normal ?_
          go_wp2
          go_light
          exact ⟨⟨j + 1, by omega, by go_num, NX.out _ rfl⟩, by simp [intOf]; omega⟩

        · obtain rfl : j = 32 := by omega
          have g1 : ¬ ((32 : Nat) : Int) < 32 := by omega
          rw [FW.out] at hro
          clear hlt2 hj hcx8 W8
          go_wp2_with (first | (refine wpList_load_seg rfl 30 _ rfl G 0 32 _ rfl _ Tryd.underlying30 rfl hi32 (fun i hi => by rw [Nat.zero_add]; exact hro.cell hi) ?_) | (refine wpList_store_row rfl 30 _ _ rfl rfl w.heap.size 0 32 _ rfl rfl hi32 (fun _ _ => rfl) _ _ _ hr0 (by omega) ?_; intro W rW hzW hbut))
          exact bodyPost_ret (results_cell_seg rfl _ _ w.heap.size 30 32 _ _ rfl Tryd.underlying30 rfl hi32 (rW.congr fun i hi => by rw [if_pos (by omega), Nat.sub_zero, if_pos (by omega)]; rfl)) rfl ⟨rfl, hb.trans ((hbut.mono (by have := hb.size; omega)).below (Nat.le_refl _))⟩
end Go.Proofs.YtmfgfcknhjblgaaDoor

namespace Go.Proofs.YtmfgfcknhjblgaaDoor
open Go.RowKit Go.Deep

theorem szI_is1 (x : Int) : (szI x = 0 ∧ x < 1) ∨ (szI x = 1 ∧ 1 ≤ x ∧ x < 256) ∨ (szI x = 2 ∧ 256 ≤ x ∧ x < 65536) ∨ (szI x = 3 ∧ 65536 ≤ x ∧ x < 16777216) ∨ (szI x = 4 ∧ 16777216 ≤ x ∧ x < 4294967296) ∨ (szI x = 5 ∧ 4294967296 ≤ x ∧ x < 1099511627776) ∨ (szI x = 6 ∧ 1099511627776 ≤ x ∧ x < 281474976710656) ∨ (szI x = 7 ∧ 281474976710656 ≤ x ∧ x < 72057594037927936) ∨ (szI x = 8 ∧ 72057594037927936 ≤ x) := by
  unfold szI
  repeat' split
  all_goals omega
theorem szI_div1 (z : Int) (h0 : 1 ≤ z) (h1 : z < 18446744073709551616) : szI (z / 256) + 1 = szI z := by
  have h2 := szI_is1 (z / 256)
  have h3 := szI_is1 z
  omega

theorem newBytes_one (w : World) (b : Int) (h0 : 0 ≤ b) (h1 : b ≤ 255) : newBytes (w.alloc (.cells #[.int .u8 b] 5)) w.heap.size (.slice (some ⟨w.heap.size, 0, none⟩) 1 1) [b] :=
  ⟨⟨rfl, Or.inr ⟨w.heap.size, 1, _, rfl, Nat.le_refl _, blk_alloc_new _ _, by simp, by unfold maxLen; omega, rfl, rfl⟩⟩, fun i => by cases i <;> simp <;> omega⟩
theorem isBytes.cellAt {w : World} {v : Value} {l : List Int} (h : isBytes w v l) (i : Nat) (hi : i < l.length) : ∃ pb po cap, v = .slice (some ⟨pb, po, none⟩) l.length cap ∧ w.cell? ⟨pb, po + i, none⟩ = some (.int .u8 (l.getD i 0)) := by
  rcases h with ⟨_, rfl⟩ | ⟨pb, po, cap, rfl, h2, h3, h4, h6, h7⟩
  · simp at hi
  · exact ⟨pb, po, cap, rfl, h6 i hi⟩
theorem reverse_take_succ (l : List Int) (j : Nat) (h0 : 0 < j) (hj : j ≤ l.length) : l.reverse.take (l.length - (j - 1)) = l.reverse.take (l.length - j) ++ [l.getD (j - 1) 0] := by
  have e : l.length - (j - 1) = (l.length - j) + 1 := by omega
  rw [e, List.take_succ_eq_append_getElem (by simp; omega)]
  congr 2
  rw [List.getElem_reverse, List.getD_eq_getElem?_getD, List.getElem?_eq_getElem (by omega)]
  simp only [Option.getD_some]
  congr 1
  omega
set_option maxHeartbeats 1000000 in
theorem rnumber_any (x : Int) (h0 : 0 ≤ x) (h1 : x < 18446744073709551616) (w : World) :
    Calls Tryd.prog 68 #[.int .u64 x] w fun e w' => ∃ v, e = .returned v ∧ newBytes w' w.heap.size v (numB x) ∧ Below w.heap.size w w' := by
  go_enter Tryd.func68, Tryd.ntmps68
  go_wp2
  go_loopw [0, 3] (fun z v wr => ∃ (t : Int) (lw : List Int), 0 ≤ t ∧ t ≤ x ∧ z = .int .u64 t ∧ lw.length + szI t = szI x ∧ digsI x (szI x) = digsI t (szI t) ++ lw.reverse ∧ newBytes wr w.heap.size v lw ∧ Below w.heap.size w wr) (fun z _ _ => szI (intOf z))
  case atStart => exact ⟨x, [], h0, Int.le_refl _, rfl, by simp, by simp, newBytes.nil _ _, Below.refl _ _⟩
  case round =>
    obtain ⟨t, lw, t0, t1, rfl, hlen, hdig, hn, hb⟩ := hrel
    have hz := szI_le x
    by_cases hlt : 0 < t
    · have hd := szI_div1 t (by omega) (by omega)
      obtain ⟨v2, w2, hr2, hn2, hb2⟩ := byte_append_run wr w.heap.size u3 lw (t % 256) (by omega) (by omega) hn (by omega) hb.size
      have HN : Hid _ := hn2
      have HB : Hid _ := hb.trans hb2
      have HG : Hid _ := hdig
      have HD : Hid _ := hd
      have HE : Hid _ := hlen
      have HS : Hid (digsI t (szI t) = digsI (t / 256) (szI (t / 256)) ++ [t % 256]) := by
        have : digsI t (szI t) = digsI (t / 256) (szI (t / 256)) ++ [t % 256] := by rw [← hd, digsI_succ]
        exact this
      clear hn hb hn2 hb2 hdig hd hlen
      go_wp2_with (first | (at_builtin; refine wpList_append_run rfl _ _ _ rfl rfl rfl hr2 ?_))
      go_light
      refine ⟨⟨t / 256, lw ++ [t % 256], by omega, by omega, rfl, by have := HD.out; have := HE.out; simp; omega, ?_, HN.out, HB.out⟩, by have := HD.out; simp [intOf]; omega⟩
      rw [HG.out, HS.out, List.reverse_append]; simp
    · obtain rfl : t = 0 := by omega
      obtain ⟨wm, hwm⟩ : ∃ wm, wm = wr := ⟨wr, rfl⟩
      subst hwm
      have hz0 : szI 0 = 0 := rfl
      rw [hz0] at hlen hdig
      have hd0 : digsI x (szI x) = lw.reverse := by rw [hdig]; rfl
      have hl8 : (lw.length : Int) ≤ 8 := by omega
      have hlz : lw.length = szI x := by omega
      obtain ⟨la, lc, rfl, _⟩ := hn.is.slice
      have hsz := hb.size
      have n1 := newBytes_one wm (lw.length : Int) (by omega) (by omega)
      have hb1 : Below wm.heap.size wm (wm.alloc (.cells #[.int .u8 (lw.length : Int)] 5)) := (Below.refl _ _).alloc (Nat.le_refl _) _
      have HN1 : Hid _ := n1
      have HB1 : Hid _ := hb1
      have HL : Hid _ := hn.is
      have HD0 : Hid _ := hd0
      have HLZ : Hid _ := hlz
      have HB : Hid _ := hb
      clear n1 hb1 hn hd0 hdig hlen hlz hb
      go_wp2
      go_loopw [4, 5] (fun v i wq => ∃ j : Nat, j ≤ lw.length ∧ i = .int .i64 j ∧ newBytes wq wm.heap.size v ([(lw.length : Int)] ++ lw.reverse.take (lw.length - j)) ∧ Below wm.heap.size wm wq) (fun _ i _ => (intOf i).toNat)
      case atStart => exact ⟨lw.length, Nat.le_refl _, rfl, by rw [Nat.sub_self, List.take_zero, List.append_nil]; exact HN1.out, HB1.out⟩
      case round =>
        clear HN1 HB1
        obtain ⟨j, hj, rfl, hn, hb⟩ := hrel
        by_cases hlt2 : 0 < j
        · obtain ⟨pb, po, cap, he, hc⟩ := isBytes.cellAt (isBytes.below HL.out hb (Nat.le_refl _)) (j - 1) (by omega)
          have he' : la = some ⟨pb, po, none⟩ ∧ lc = cap := by simpa using he
          obtain ⟨rfl, rfl⟩ := he'
          have hby := isBytes.byte HL.out (j - 1)
          obtain ⟨v2, w2, hr2, hn2, hb2⟩ := byte_append_run _ wm.heap.size u4 _ (lw.getD (j - 1) 0) hby.1 hby.2 hn (by simp; omega) hb.size
          have HN : Hid _ := hn2
          have HBq : Hid _ := hb.trans hb2
          have HT : Hid _ := reverse_take_succ lw j hlt2 hj
          obtain ⟨m, rfl⟩ : ∃ m, j = m + 1 := ⟨j - 1, by omega⟩
          simp only [Nat.add_sub_cancel] at hc hr2
          have q0 : (0 : Int) < ((m + 1 : Nat) : Int) := by omega
          have q1 : (m : Int) < (lw.length : Int) := by omega
          have q2 : ((m + 1 : Nat) : Int) - 1 = (m : Int) := by omega
          have q3 : ((m : Int) + 1) - 1 = (m : Int) := by omega
          clear hn hb hn2 hb2 he
          go_wp2_with (first | (at_builtin; refine wpList_append_run rfl _ _ _ rfl rfl rfl hr2 ?_))
          go_light
          refine ⟨⟨m, by omega, rfl, ?_, HBq.out⟩, by simp only [intOf]; omega⟩
          have h3 := HT.out
          simp only [Nat.add_sub_cancel] at h3
          rw [h3, ← List.append_assoc]; exact HN.out
        · obtain rfl : j = 0 := by omega
          have HN : Hid _ := hn
          have HBq : Hid _ := hb
          clear hn hb
          go_wp2
          go_ret
          refine ⟨_, rfl, ?_, Below.trans HB.out (HBq.out.mono HB.out.size)⟩
          have h3 := newBytes.mono HN.out hsz
          rw [Nat.sub_zero, List.take_of_length_le (by simp), ← HD0.out, HLZ.out] at h3
          exact h3
end Go.Proofs.YtmfgfcknhjblgaaDoor

/- The document's answer: blobs behind any bytes. -/
namespace Go.Proofs.YtmfgfcknhjblgaaDoor
set_option linter.unusedSimpArgs false
set_option linter.unusedVariables false
set_option maxRecDepth 100000
open Go.RowKit Go.Deep

set_option maxHeartbeats 1000000 in
theorem rblobs_any (l : List Int) (v u : Value) (n : Nat) (ps : Nat → List Int) (w : World) (hv : isBytes w v l) (hu : anyParts w u n ps) (hs : ∀ i, i ≤ n → l.length + (flatTo (blobsB ps) i).length ≤ 1000000000000) :
    Calls Tryd.prog 60 #[v, u] w fun e w' => ∃ v', e = .returned v' ∧ newBytes w' w.heap.size v' (l ++ flatTo (blobsB ps) n) ∧ Below w.heap.size w w' := by
  obtain ⟨a, cap, rfl, hnm, hcell⟩ := hu.open
  clear hu
  have hs0 := hs 0 (by omega)
  obtain ⟨v1, w1, hr1, hn1, hb1⟩ := bytes_copy_run w v l hv (by omega)
  have HN : Hid _ := hn1
  have HB : Hid _ := hb1
  obtain ⟨va, vc, rfl, _⟩ := hv.slice
  clear hv hn1 hb1
  unfold maxLen at hnm
  have q0 : (n : Int) ≤ 9223372036854775807 := by omega
  have HS : Hid _ := hs
  clear hs
  go_enter Tryd.func60, Tryd.ntmps60
  go_wp2_with (first | (at_builtin; refine wpList_append_run rfl (.tmp 7) (.tmp 8) _ rfl rfl rfl hr1 ?_))
  clear hr1
  go_loopw [5, 6] (fun z i wr => ∃ j : Nat, j ≤ n ∧ i = .int .i64 j ∧ newBytes wr w.heap.size z (l ++ flatTo (blobsB ps) j) ∧ Below w.heap.size w wr) (fun _ i _ => n - (intOf i).toNat)
  case atStart => exact ⟨0, by omega, rfl, by rw [flatTo, List.append_nil]; exact HN.out, HB.out⟩
  case round =>
    clear HN HB
    obtain ⟨j, hj, rfl, hn, hb⟩ := hrel
    by_cases hlt2 : j < n
    · obtain ⟨qb, qo, y, rfl, hq, hc, hy⟩ := hcell j hlt2
      have HYB : Hid _ := fun (w9 : World) (h9 : Below w.heap.size w w9) => hy.below h9 (Nat.le_refl _)
      have HC : Hid _ := fun (w9 : World) (h9 : Below w.heap.size w w9) => (h9.cell (p := ⟨qb, qo + j, none⟩) hq).trans hc
      obtain ⟨ya, yc, rfl, hym⟩ := hy.slice
      have b0 : (0 : Int) ≤ (j : Int) := by omega
      have b1 : (j : Int) < (n : Int) := by omega
      have hlj := HS.out (j + 1) hlt2
      rw [flatTo, List.length_append, blobsB, blobB_length] at hlj
      rw [← hb.cell (p := ⟨qb, qo + j, none⟩) hq] at hc
      have hM2 : ((ps j).length : Int) ≤ 1000000000000 := by omega
      have hs1 := hb.size
      have HN : Hid _ := hn
      have HB : Hid _ := hb
      clear hn hb hy
      go_wp2_with fail
      refine (rnumber_any ((ps j).length : Int) (by omega) (by omega) _).mono ?_
      rintro e w2 ⟨v2, rfl, hn2, hb2⟩
      have hn2' := newBytes.below HN.out hb2 (Nat.le_refl _)
      obtain ⟨v3, w3, hr3, hn3, hg3, _⟩ := bytes_append_run w2 w.heap.size u5 v2 _ (numB (ps j).length) hn2' hn2.is (by rw [List.length_append, numB_length]; omega) (by have := hb2.size; omega)
      have hB3 : Below w.heap.size w w3 := HB.out.trans ((hb2.mono hs1).trans (below_grown hg3 (fun q hq2 => (hn2'.block q hq2).1) (by have := hb2.size; omega)))
      have hc3 := HC.out w3 hB3
      obtain ⟨v4, w4, hr4, hn4, hg4, _⟩ := any_append_run w3 w.heap.size v3 _ _ (ps j) hn3 (HYB.out w3 hB3) (by rw [List.length_append, List.length_append, numB_length]; omega) hB3.size
      have HN4 : Hid _ := hn4
      have HB4 : Hid _ := hB3.trans (below_grown hg4 (fun q hq2 => (hn3.block q hq2).1) hB3.size)
      clear hn2 hb2 hn3 hg3 hn2' HN HB hn4 hg4 hB3 HC HYB
      go_wp2_with (first | (at_builtin; refine wpList_append_run rfl (.tmp 16) (.tmp 23) _ rfl rfl rfl hr3 ?_) | (at_builtin; refine wpList_append_run rfl (.tmp 25) (.tmp 29) _ rfl rfl rfl hr4 ?_))
      go_light
      exact ⟨⟨j + 1, by omega, by go_num, by rw [flatTo, ← List.append_assoc, blobsB, blobB, ← List.append_assoc]; exact HN4.out, HB4.out⟩, by simp [intOf]; omega⟩
    · obtain rfl : j = n := by omega
      have HN : Hid _ := hn
      clear hn
      go_wp2
      go_ret
      exact ⟨_, rfl, HN.out, hb⟩
end Go.Proofs.YtmfgfcknhjblgaaDoor

/- A nil book's Of; the document's Preimage and Of. -/
namespace Go.Proofs.YtmfgfcknhjblgaaDoor
set_option linter.unusedSimpArgs false
set_option linter.unusedVariables false
open Go.RowKit Go.Deep

set_option maxHeartbeats 1000000 in
set_option maxRecDepth 100000 in
theorem of_nil (kind : Int) (n : Nat) (v : Value) (ps : Nat → List Int) (w : World) (hp : anyParts w v n ps) (hs : ∀ i, i ≤ n → 1 + (flatTo (blobsB ps) i).length ≤ 100000000) (ht : tabIs w) :
    Calls Tryd.prog 26 #[.pointer none, .int .i64 kind, v] w fun e w' => e = .returned (sumV (sumL (preB kind n ps))) ∧ Below w.heap.size w w' := by
  have ht0 := ht.1
  obtain ⟨pl, hpl⟩ : ∃ pl, pl = preB kind n ps := ⟨_, rfl⟩
  have hpll : pl.length ≤ 100000000 := by
    rw [hpl, preB, List.length_append]; have := hs n (Nat.le_refl _); simp; omega
  have r0 := rowIs_zero w (Array.replicate 32 (.int .u8 0)) 30 32 (.int .u8 0) rfl
  have hb0 : Below w.heap.size w (w.alloc (.cells (Array.replicate 32 (.int .u8 0)) 30)) := (Below.refl w.heap.size w).alloc (Nat.le_refl _) _
  have hs0 : (w.alloc (.cells (Array.replicate 32 (.int .u8 0)) 30)).heap.size = w.heap.size + 1 := by simp
  have X := pre_any kind n v ps _ (hp.below hb0 (Nat.le_refl _)) (fun i hi => by have := hs i hi; omega)
  rw [← hpl] at X ⊢
  clear hpl
  obtain ⟨a, cap, rfl, _, _⟩ := hp.open
  clear hp hs
  go_enter Tryd.func26, Tryd.ntmps26
  go_wp2_with fail
  refine X.mono ?_
  rintro e w1 ⟨v1, rfl, hn1, hb1⟩
  have hb1' : Below (w.alloc (.cells (Array.replicate 32 (.int .u8 0)) 30)).heap.size (w.alloc (.cells (Array.replicate 32 (.int .u8 0)) 30)) w1 := hb1
  have hn1' : newBytes w1 (w.alloc (.cells (Array.replicate 32 (.int .u8 0)) 30)).heap.size v1 pl := hn1
  rw [hs0] at hb1' hn1'
  have hB1 : Below w.heap.size w w1 := hb0.trans (hb1'.mono (by omega))
  have r1 : w1.rowIs w.heap.size 30 32 (fun _ => .int .u8 0) := hb1'.row r0 (by omega)
  have hs1 : w.heap.size + 1 ≤ w1.heap.size := by have := hb1'.size; omega
  obtain ⟨va, vc, rfl, _⟩ := hn1'.is.slice
  have Y := sum_one pl _ _ w1 hn1' (by omega) (ht.below hB1 ht0)
  clear X hb1 hn1 hb0 r0 hs0 hb1' hn1'
  go_wp2_with fail
  refine Y.mono ?_
  rintro e w3 ⟨rfl, hb3⟩
  have hs3 := hb3.size
  have r3 := hb3.row r1 (by omega)
  have hB3 : Below w.heap.size w w3 := hB1.trans (hb3.mono (by omega))
  have r4 := rowIs_zero w3 (Array.replicate 32 (.int .u8 0)) 30 32 (.int .u8 0) rfl
  have hs4 : (w3.alloc (.cells (Array.replicate 32 (.int .u8 0)) 30)).heap.size = w3.heap.size + 1 := by simp
  have hb4 : Below w3.heap.size w3 (w3.alloc (.cells (Array.replicate 32 (.int .u8 0)) 30)) := (Below.refl _ _).alloc (Nat.le_refl _) _
  clear Y hb3 r1 hB1
  go_upto_if 16 with (first | (refine wpList_store_row rfl 30 (.tmp 8) (.tmp 14) rfl rfl w3.heap.size 0 32 (arrV (sumL pl)) rfl rfl hi32' (fun _ _ => rfl) _ _ _ r4 (by omega) ?_; intro w5 r5 hz5 hb5))
  have hz5' : w5.heap.size = w3.heap.size + 1 := hz5.trans hs4
  have hb5' : But (w3.heap.size + 1) w3.heap.size (w3.alloc (.cells (Array.replicate 32 (.int .u8 0)) 30)) w5 := hs4 ▸ hb5
  have hB35 : Below w3.heap.size w3 w5 := hb4.trans ((hb5'.mono (by omega)).below (Nat.le_refl _))
  have hB5 : Below w.heap.size w w5 := hB3.trans (hB35.mono (by omega))
  have r5' : w5.rowIs w3.heap.size 30 32 (arrV (sumL pl)) := r5.congr fun i hi => by rw [if_pos (by omega), Nat.sub_zero]
  have r5w := hB35.row r3 (by omega)
  clear r4 hb4 r5 hb5 hb5' hB35 r3 hB3
  go_wp2_with (first | (refine wpList_load_seg rfl 30 _ rfl w3.heap.size 0 32 (arrV (sumL pl)) rfl _ Tryd.underlying30 rfl hi32' (fun i hi => by rw [Nat.zero_add]; exact r5'.cell hi) ?_) | (refine wpList_store_row rfl 30 (.tmp 6) (.tmp 31) rfl rfl w.heap.size 0 32 (arrV (sumL pl)) rfl rfl hi32' (fun _ _ => rfl) _ _ _ r5w (by omega) ?_; intro w6 r6 hz6 hb6))
  exact bodyPost_ret (results_cell_seg rfl _ _ w.heap.size 30 32 (arrV (sumL pl)) _ rfl Tryd.underlying30 rfl hi32' (r6.congr fun i hi => by rw [if_pos (by omega), Nat.sub_zero])) rfl ⟨rfl, hB5.trans ((hb6.mono (by omega)).below (Nat.le_refl _))⟩

set_option maxRecDepth 100000 in
theorem rpre_any (kind : Int) (n : Nat) (v : Value) (ps : Nat → List Int) (w : World) (hp : anyParts w v n ps) (hs : ∀ i, i ≤ n → 1 + (flatTo (blobsB ps) i).length ≤ 1000000000000) :
    Calls Tryd.prog 47 #[.int .i64 kind, v] w fun e w' => ∃ v', e = .returned v' ∧ newBytes w' w.heap.size v' (preB kind n ps) ∧ Below w.heap.size w w' := by
  have hb0 : Below w.heap.size w (w.alloc (.cells #[.int .u8 (kind % 256)] 5)) := (Below.refl _ _).alloc (Nat.le_refl _) _
  have hk : 0 ≤ kind % 256 ∧ kind % 256 ≤ 255 := by omega
  have h1 : isBytes (w.alloc (.cells #[.int .u8 (kind % 256)] 5)) (.slice (some ⟨w.heap.size, 0, none⟩) 1 1) [kind % 256] := one_byte w _ hk.1 hk.2
  have X := rblobs_any [kind % 256] _ v n ps _ h1 (hp.below hb0 (Nat.le_refl _)) (fun i hi => by have := hs i hi; simp; omega)
  obtain ⟨a, cap, rfl, _, _⟩ := hp.open
  go_enter Tryd.func47, Tryd.ntmps47
  go_wp2_with fail
  refine X.mono ?_
  rintro e w1 ⟨v1, rfl, hn1, hb1⟩
  go_wp2
  go_ret
  exact ⟨_, rfl, hn1.mono (by simp), hb0.trans (hb1.mono (by simp))⟩

set_option maxHeartbeats 1000000 in
set_option maxRecDepth 100000 in
theorem rof_any (kind : Int) (n : Nat) (v : Value) (ps : Nat → List Int) (w : World) (hp : anyParts w v n ps) (hs : ∀ i, i ≤ n → 1 + (flatTo (blobsB ps) i).length ≤ 100000000) :
    Calls Tryd.prog 27 #[.int .i64 kind, v] w fun e w' => e = .returned (sumV (sumL (preB kind n ps))) ∧ Below w.heap.size w w' := by
  obtain ⟨pl, hpl⟩ : ∃ pl, pl = preB kind n ps := ⟨_, rfl⟩
  have hpll : pl.length ≤ 100000000 := by
    rw [hpl, preB, List.length_append]; have := hs n (Nat.le_refl _); simp; omega
  have r0 := rowIs_zero w (Array.replicate 32 (.int .u8 0)) 30 32 (.int .u8 0) rfl
  have hb0 : Below w.heap.size w (w.alloc (.cells (Array.replicate 32 (.int .u8 0)) 30)) := (Below.refl w.heap.size w).alloc (Nat.le_refl _) _
  have hs0 : (w.alloc (.cells (Array.replicate 32 (.int .u8 0)) 30)).heap.size = w.heap.size + 1 := by simp
  have X := rpre_any kind n v ps _ (hp.below hb0 (Nat.le_refl _)) (fun i hi => by have := hs i hi; omega)
  rw [← hpl] at X ⊢
  clear hpl
  obtain ⟨a, cap, rfl, _, _⟩ := hp.open
  clear hp hs
  go_enter Tryd.func27, Tryd.ntmps27
  go_wp2_with fail
  refine X.mono ?_
  rintro e w1 ⟨v1, rfl, hn1, hb1⟩
  have hb1' : Below (w.alloc (.cells (Array.replicate 32 (.int .u8 0)) 30)).heap.size (w.alloc (.cells (Array.replicate 32 (.int .u8 0)) 30)) w1 := hb1
  have hn1' : newBytes w1 (w.alloc (.cells (Array.replicate 32 (.int .u8 0)) 30)).heap.size v1 pl := hn1
  rw [hs0] at hb1' hn1'
  have hB1 : Below w.heap.size w w1 := hb0.trans (hb1'.mono (by omega))
  have r1 : w1.rowIs w.heap.size 30 32 (fun _ => .int .u8 0) := hb1'.row r0 (by omega)
  have hs1 : w.heap.size + 1 ≤ w1.heap.size := by have := hb1'.size; omega
  have hq : isParts (w1.alloc (.cells #[v1] 34)) (.slice (some ⟨w1.heap.size, 0, none⟩) 1 1) 1 (fun _ => pl) := Or.inr ⟨w1.heap.size, 0, 1, fun _ => v1, rfl, by simp, by unfold maxLen; omega, fun i hi => by
    obtain rfl : i = 0 := by omega
    exact ⟨one_cell w1 _ _, Or.inl (hn1'.is.below ((Below.refl _ _).alloc (Nat.le_refl _) _) (Nat.le_refl _))⟩⟩
  have Y := rsum_any 1 _ _ _ hq.any (fun i hi => by
    have : i = 0 ∨ i = 1 := by omega
    rcases this with rfl | rfl
    · simp [flatTo]
    · simp [flatTo]; omega)
  have f1 : flatTo (fun _ => pl) 1 = pl := by simp [flatTo]
  rw [f1] at Y
  obtain ⟨va, vc, rfl, _⟩ := hn1'.is.slice
  clear X hb1 hn1 hb0 r0 hs0 hb1' hn1' hq f1
  go_wp2_with fail
  refine Y.mono ?_
  rintro e w3 ⟨rfl, hb3⟩
  have hb3' : Below w1.heap.size w1 w3 := ((Below.refl _ w1).alloc (Nat.le_refl _) _).trans (hb3.mono (by simp))
  have r3 := hb3'.row r1 (by omega)
  have hB3 : Below w.heap.size w w3 := hB1.trans (hb3'.mono (by omega))
  rw [sumL_row]
  clear Y hb3 hb3' r1 hB1
  go_wp2_with (first | (refine wpList_store_row rfl 30 _ _ rfl rfl w.heap.size 0 32 (arrV (sumL pl)) rfl rfl hi32' (fun _ _ => rfl) _ _ _ r3 (by omega) ?_; intro w6 r6 hz6 hb6))
  exact bodyPost_ret (results_cell_seg rfl _ _ w.heap.size 30 32 (arrV (sumL pl)) _ rfl Tryd.underlying30 rfl hi32' (r6.congr fun i hi => by rw [if_pos (by omega), Nat.sub_zero])) rfl ⟨rfl, hB3.trans ((hb6.mono (by have := hB3.size; omega)).below (Nat.le_refl _))⟩
end Go.Proofs.YtmfgfcknhjblgaaDoor

/- SealNobody's walk. -/
namespace Go.Proofs.YtmfgfcknhjblgaaDoor
set_option linter.unusedSimpArgs false
set_option linter.unusedVariables false
open Go.RowKit Go.Deep

theorem eql_sumS (q : List Int) (wx : World) : (binOp .eql 30 (.agg (rowV 32 (arrV q))) (.agg (rowV 32 (arrV q)))).run Tryd.prog wx = .ok (.bool true) wx := by
  have := run_eql_arr (P := Tryd.prog) wx 30 5 .u8 32 (fun i => q.getD i 0) (fun i => q.getD i 0) Tryd.underlying30 Tryd.underlying5 (by kernel_rfl) (by kernel_rfl)
  rw [(arrEq_iff 32 _ _).2 (fun _ _ => rfl)] at this
  exact this
theorem one_act (w : World) (x : AR) (pv bv : Value) (hp : anyParts w pv x.n x.ps) (hb : anyBytes w bv x.bytes) (hq : isSum x.sum) :
    isActs (w.alloc (.cells (rowV 36 (actV x.what x.kind pv bv x.sum)) 49)) (.slice (some ⟨w.heap.size, 0, none⟩) 1 1) 1 (fun _ => x) := by
  have b0 : Below w.heap.size w (w.alloc (.cells (rowV 36 (actV x.what x.kind pv bv x.sum)) 49)) := (Below.refl _ _).alloc (Nat.le_refl _) _
  have hr := rowIs_box w 49 36 (actV x.what x.kind pv bv x.sum)
  refine Or.inr ⟨w.heap.size, 0, 1, rfl, by simp, Nat.le_refl _, by unfold maxLen; omega, fun i hi => ?_⟩
  obtain rfl : i = 0 := by omega
  exact ⟨pv, bv, fun j hj => by rw [show 0 + 0 * 36 + j = j by omega]; exact hr.cell hj, hp.below b0 (Nat.le_refl _), hb.below b0 (Nat.le_refl _), hq⟩
theorem nil_books (w : World) : isBooks (w.alloc (.cells #[.pointer none, .pointer none] 52)) (.slice (some ⟨w.heap.size, 0, none⟩) 2 2) 2 (fun _ => []) := by
  refine Or.inr ⟨w.heap.size, 0, 2, fun _ => .pointer none, rfl, by simp, by unfold maxLen; omega, fun i hi => ⟨?_, Or.inl ⟨rfl, rfl⟩⟩⟩
  have hr := rowIs_new w #[.pointer none, .pointer none] 52 2 (fun _ => .pointer none) rfl (fun i hi => by
    have : i = 0 ∨ i = 1 := by omega
    rcases this with rfl | rfl <;> rfl)
  rw [Nat.zero_add]; exact hr.cell hi
theorem act_light (n : Nat) (ps : Nat → List Int) (h5 : n ≤ 500) (h6 : (flatTo ps n).length ≤ 60000) : ∀ i, i ≤ n → 1 + (flatTo (blobsB ps) i).length ≤ 100000000 := fun i hi => by
  have := blobs_le ps i; have := flatTo_mono ps n i hi; omega
set_option maxHeartbeats 4000000 in
set_option maxRecDepth 100000 in
theorem sealNobody_any (x : AR) (pv bv : Value) (w : World) (ht : tabIs w) (hp : anyParts w pv x.n x.ps) (hbv : anyBytes w bv x.bytes) (hq : isSum x.sum) :
    Calls Tryd.prog 6 #[.agg (rowV 36 (actV x.what x.kind pv bv x.sum))] w fun e w' => e = .returned (.bool true) ∧ Below w.heap.size w w' := by
  have ht0 := ht.1
  obtain ⟨w1, hw1⟩ : ∃ w1, w1 = w.alloc (.cells (rowV 36 (actV x.what x.kind pv bv x.sum)) 49) := ⟨_, rfl⟩
  have r1 : w1.rowIs w.heap.size 49 36 (actV x.what x.kind pv bv x.sum) := by rw [hw1]; exact rowIs_box _ _ _ _
  have b1 : Below w.heap.size w w1 := by rw [hw1]; exact (Below.refl _ _).alloc (Nat.le_refl _) _
  have s1 : w.heap.size < w1.heap.size := by rw [hw1]; simp
  have p1 := hp.below b1 (Nat.le_refl _)
  have v1 := hbv.below b1 (Nat.le_refl _)
  obtain ⟨w2, hw2⟩ : ∃ w2, w2 = w1.alloc (.cells (rowV 36 (actV x.what x.kind pv bv x.sum)) 49) := ⟨_, rfl⟩
  have A2 := one_act w1 x pv bv p1 v1 hq
  have bs := build_act1 (actV x.what x.kind pv bv x.sum) w1
  rw [← hw2] at A2 bs
  have b2 : Below w1.heap.size w1 w2 := by rw [hw2]; exact (Below.refl _ _).alloc (Nat.le_refl _) _
  have HV := heavy_any 1 _ _ w2 A2
  have hB2 : Below w.heap.size w w2 := b1.trans (b2.mono (Nat.le_of_lt s1))
  have hT2 : tabIs w2 := ht.below hB2 ht0
  have r2 := b2.row r1 s1
  have s2 := b2.size
  have P2 : Hid (anyParts w2 pv x.n x.ps) := (show anyParts w2 pv x.n x.ps from p1.below b2 (Nat.le_refl _))
  have R1 : Hid (w1.rowIs w.heap.size 49 36 (actV x.what x.kind pv bv x.sum)) := (show w1.rowIs w.heap.size 49 36 (actV x.what x.kind pv bv x.sum) from r1)
  have CC : Hid (∀ wz, Below w2.heap.size w2 wz → ∀ j, j < 36 → wz.cell? ⟨w.heap.size, j, none⟩ = some (actV x.what x.kind pv bv x.sum j)) := (show ∀ wz, Below w2.heap.size w2 wz → ∀ j, j < 36 → wz.cell? ⟨w.heap.size, j, none⟩ = some (actV x.what x.kind pv bv x.sum j) from fun wz hz j hj => (hz.row r2 (by omega)).cell hj)
  have B2 : Hid (Below w.heap.size w w2) := (show Below w.heap.size w w2 from hB2)
  have T2 : Hid (tabIs w2) := (show tabIs w2 from hT2)
  obtain ⟨pa, pc, rfl, _, _⟩ := hp.open
  obtain ⟨ba, bc, rfl, _⟩ := hbv.slice
  have hi36 : (Tryd.prog.info? 49).map (·.size) = some 36 := by kernel_rfl
  clear p1 v1 A2 b2 hB2 hT2 r2 b1 r1 hp hbv ht
  go_enter Tryd.func6, Tryd.ntmps6
  go_upto_region 1 with fail
  rw [← hw1]
  clear hw1
  go_wp2_with (first | (refine wpList_load_seg rfl 49 _ rfl w.heap.size 0 36 (actV x.what x.kind (.slice pa x.n pc) (.slice ba x.bytes.length bc) x.sum) rfl _ Tryd.underlying49 rfl hi36 (fun i hi => by rw [Nat.zero_add]; exact R1.out.cell hi) ?_) | (refine wpList_run rfl (exec_bslice1 51 1 0 (.tmp 12) (.agg (rowV 36 (actV x.what x.kind (.slice pa x.n pc) (.slice ba x.bytes.length bc) x.sum))) rfl rfl bs) ?_; try simp only [Act.put, List.setIfInBounds_toArray, List.set_cons_zero, List.set_cons_succ]; clear bs))
  rw [← hw2]
  refine HV.mono ?_
  rintro e w' ⟨r, rfl, hw, hl⟩
  obtain rfl := hw.symm
  clear hw HV R1 hw2
  cases r with
  | true =>
    clear hl
    go_wp2_with fail
    refine (awake_any w2 T2.out).mono ?_
    rintro e w3 ⟨rfl, b3⟩
    go_wp2
    go_ret
    exact ⟨rfl, B2.out.trans (b3.mono B2.out.size)⟩
  | false =>
    obtain ⟨_, h500, hwt⟩ := hl rfl
    have n500 : x.n ≤ 500 := h500 0 (by omega)
    have wn : (flatTo x.ps x.n).length ≤ 60000 := by
      have := wtA_one (fun _ => x) 1 0 (by omega)
      omega
    have HLT := act_light x.n x.ps n500 wn
    clear h500 hwt hl
    have c35 : w2.cell? ⟨w.heap.size, 35, none⟩ = some (.slice ba x.bytes.length bc) := CC.out w2 (Below.refl _ _) 35 (by omega)
    have cs : ∀ wz, Below w2.heap.size w2 wz → ∀ i, i < 32 → wz.cell? ⟨w.heap.size, 3 + i, none⟩ = some (arrV x.sum i) := fun wz hz i hi => by
      rw [CC.out wz hz (3 + i) (by omega), actV, if_neg (by omega), if_neg (by omega), if_neg (by omega), if_pos (by omega), show 3 + i - 3 = i by omega]
    have NN := note_nil x.sum (.slice ba x.bytes.length bc) w2
    unfold sumV at NN
    go_wp2_with (first | (refine wpList_load_seg rfl 30 _ rfl w.heap.size 3 32 (arrV x.sum) rfl _ Tryd.underlying30 rfl hi32' (fun i hi => cs w2 (Below.refl _ _) i hi) ?_))
    refine NN.mono ?_
    rintro e w3 ⟨rfl, b3⟩
    clear NN c35
    have FN := findB_nil x.sum w3
    unfold sumV at FN
    go_wp2_with (first | (refine wpList_load_seg rfl 30 _ rfl w.heap.size 3 32 (arrV x.sum) rfl _ Tryd.underlying30 rfl hi32' (fun i hi => cs w3 b3 i hi) ?_))
    refine FN.mono ?_
    rintro e w4 ⟨rfl, b4⟩
    have B4 : Hid (Below w2.heap.size w2 w4) := (show Below w2.heap.size w2 w4 from b3.trans (b4.mono b3.size))
    clear FN b3 b4 cs
    have C1 := clash_any 2 _ (fun _ => []) _ (nil_books w4) (by simp [joinF]) (fun i hi x hx => by simp at hx)
    go_wp2_with fail
    refine C1.mono ?_
    rintro e w5 ⟨va, vb, fb, rfl, hca, b5⟩
    obtain ⟨rfl, rfl, rfl⟩ : va = .slice none 0 0 ∧ vb = .slice none 0 0 ∧ fb = false := hca
    have B5 : Hid (Below w2.heap.size w2 w5) := (show Below w2.heap.size w2 w5 from (B4.out.alloc B4.out.size _).trans (b5.mono (by have := B4.out.size; simp; omega)))
    clear C1 b5 B4
    have C2 := clash_any 0 (.slice none 0 0) (fun _ => []) w5 (Or.inl ⟨rfl, rfl⟩) (by simp [joinF]) (fun i hi => by omega)
    go_wp2_with fail
    refine C2.mono ?_
    rintro e w6 ⟨va, vb, fb, rfl, hca, b6⟩
    obtain ⟨rfl, rfl, rfl⟩ : va = .slice none 0 0 ∧ vb = .slice none 0 0 ∧ fb = false := hca
    have B6 : Hid (Below w2.heap.size w2 w6) := (show Below w2.heap.size w2 w6 from B5.out.trans (b6.mono B5.out.size))
    clear C2 b6 B5
    have C6 : Hid (∀ wz, Below w6.heap.size w6 wz → ∀ j, j < 36 → wz.cell? ⟨w.heap.size, j, none⟩ = some (actV x.what x.kind (.slice pa x.n pc) (.slice ba x.bytes.length bc) x.sum j)) := (show ∀ wz, Below w6.heap.size w6 wz → ∀ j, j < 36 → wz.cell? ⟨w.heap.size, j, none⟩ = some (actV x.what x.kind (.slice pa x.n pc) (.slice ba x.bytes.length bc) x.sum j) from fun wz hz j hj => CC.out wz (B6.out.trans (hz.mono B6.out.size)) j hj)
    have P6 : Hid (∀ wz, Below w6.heap.size w6 wz → anyParts wz (.slice pa x.n pc) x.n x.ps ∧ tabIs wz) := (show ∀ wz, Below w6.heap.size w6 wz → anyParts wz (.slice pa x.n pc) x.n x.ps ∧ tabIs wz from fun wz hz => have h := B6.out.trans (hz.mono B6.out.size); ⟨anyParts.below P2.out h (Nat.le_refl _), tabIs.below T2.out h T2.out.1⟩)
    obtain ⟨xk, hxk⟩ : ∃ xk, xk = x.kind := ⟨_, rfl⟩
    have E := eql_sumS (sumL (preB x.kind x.n x.ps))
    clear CC
    go_upto_region 8 with fail
    refine wp_region_noPanic ?_
    refine wp_region_held_drew (S := fun w' => Below w6.heap.size w6 w') (by kernel_rfl) ((Below.refl _ _).drew) (fun hHeld => ?_)
    refine take_op (i := 0) (v := ?va0) rfl (by kernel_rfl) (by kernel_rfl) (by kernel_rfl) (fun _ _ _ h => h) rfl hHeld ?ya0 ?ra0
    case ya0 => (intro wz hz; go_simp; first | done | with_reducible rfl)
    try simp only [Act.put, List.setIfInBounds_toArray, List.set_cons_zero, List.set_cons_succ]
    refine take_op (i := 1) (v := ?va1) rfl (by kernel_rfl) (by kernel_rfl) (by kernel_rfl) (fun _ _ _ h => h) rfl hHeld ?ya1 ?ra1
    case ya1 => (intro wz hz; go_simp; first | done | with_reducible rfl)
    try simp only [Act.put, List.setIfInBounds_toArray, List.set_cons_zero, List.set_cons_succ]
    refine take_op (i := 2) (v := ?va2) rfl (by kernel_rfl) (by kernel_rfl) (by kernel_rfl) (fun _ _ _ h => h) rfl hHeld ?ya2 ?ra2
    case ya2 => (intro wz hz; have hcz : wz.cell? ⟨w.heap.size, 1, none⟩ = some (.int .i64 x.kind) := C6.out wz hz 1 (by omega); go_simp; first | done | with_reducible rfl)
    try simp only [Act.put, List.setIfInBounds_toArray, List.set_cons_zero, List.set_cons_succ]
    refine take_op (i := 3) (v := ?va3) rfl (by kernel_rfl) (by kernel_rfl) (by kernel_rfl) (fun _ _ _ h => h) rfl hHeld ?ya3 ?ra3
    case ya3 => (intro wz hz; go_simp; first | done | with_reducible rfl)
    try simp only [Act.put, List.setIfInBounds_toArray, List.set_cons_zero, List.set_cons_succ]
    refine take_op (i := 4) (v := ?va4) rfl (by kernel_rfl) (by kernel_rfl) (by kernel_rfl) (fun _ _ _ h => h) rfl hHeld ?ya4 ?ra4
    case ya4 => (intro wz hz; have hcz : wz.cell? ⟨w.heap.size, 2, none⟩ = some (.slice pa x.n pc) := C6.out wz hz 2 (by omega); go_simp; first | done | with_reducible rfl)
    try simp only [Act.put, List.setIfInBounds_toArray, List.set_cons_zero, List.set_cons_succ]
    refine take_op (i := 6) (v := ?va6) rfl (by kernel_rfl) (by kernel_rfl) (by kernel_rfl) (fun _ _ _ h => h) rfl hHeld ?ya6 ?ra6
    case ya6 => (intro wz hz; go_simp; first | done | with_reducible rfl)
    try simp only [Act.put, List.setIfInBounds_toArray, List.set_cons_zero, List.set_cons_succ]
    refine take_op (i := 7) (v := ?va7) rfl (by kernel_rfl) (by kernel_rfl) (by kernel_rfl) (fun _ _ _ h => h) rfl hHeld ?ya7 ?ra7
    case ya7 => (intro wz hz; have hcz : wz.cell? ⟨w.heap.size, 1, none⟩ = some (.int .i64 x.kind) := C6.out wz hz 1 (by omega); go_simp; first | done | with_reducible rfl)
    try simp only [Act.put, List.setIfInBounds_toArray, List.set_cons_zero, List.set_cons_succ]
    refine take_op (i := 8) (v := ?va8) rfl (by kernel_rfl) (by kernel_rfl) (by kernel_rfl) (fun _ _ _ h => h) rfl hHeld ?ya8 ?ra8
    case ya8 => (intro wz hz; go_simp; first | done | with_reducible rfl)
    try simp only [Act.put, List.setIfInBounds_toArray, List.set_cons_zero, List.set_cons_succ]
    refine take_op (i := 9) (v := ?va9) rfl (by kernel_rfl) (by kernel_rfl) (by kernel_rfl) (fun _ _ _ h => h) rfl hHeld ?ya9 ?ra9
    case ya9 => (intro wz hz; have hcz : wz.cell? ⟨w.heap.size, 2, none⟩ = some (.slice pa x.n pc) := C6.out wz hz 2 (by omega); go_simp; first | done | with_reducible rfl)
    try simp only [Act.put, List.setIfInBounds_toArray, List.set_cons_zero, List.set_cons_succ]
    refine take_one (i := 5) rfl (by kernel_rfl) rfl (fun K hK => ?_)
    go_simp
    refine Calls.mono (of_nil x.kind x.n _ x.ps _ (P6.out _ hHeld).1 HLT (P6.out _ hHeld).2) ?_
    rintro e w7 ⟨rfl, b7⟩
    refine hK.out _ _ (hHeld.trans (b7.mono hHeld.size)) (fun hHeld => ?_)
    clear hK K
    try simp only [Act.put, List.setIfInBounds_toArray, List.set_cons_zero, List.set_cons_succ]
    clear b7
    refine take_one (i := 10) rfl (by kernel_rfl) rfl (fun K hK => ?_)
    go_simp
    refine Calls.mono (rof_any x.kind x.n _ x.ps _ (P6.out _ hHeld).1 HLT) ?_
    rintro e w8 ⟨rfl, b8⟩
    refine hK.out _ _ (hHeld.trans (b8.mono hHeld.size)) (fun hHeld => ?_)
    clear hK K
    try simp only [Act.put, List.setIfInBounds_toArray, List.set_cons_zero, List.set_cons_succ]
    clear b8
    simp only [sumV]
    refine take_op (i := 11) (v := ?vb11) rfl (by kernel_rfl) (by kernel_rfl) (by kernel_rfl) (fun _ _ _ h => h) rfl hHeld ?yb11 ?rb11
    case yb11 => (intro wz hz; have hcz := E wz; go_simp; first | done | with_reducible rfl)
    try simp only [Act.put, List.setIfInBounds_toArray, List.set_cons_zero, List.set_cons_succ]
    refine take_op (i := 12) (v := ?vb12) rfl (by kernel_rfl) (by kernel_rfl) (by kernel_rfl) (fun _ _ _ h => h) rfl hHeld ?yb12 ?rb12
    case yb12 => (intro wz hz; go_simp; first | done | with_reducible rfl)
    try simp only [Act.put, List.setIfInBounds_toArray, List.set_cons_zero, List.set_cons_succ]
    refine take_op (i := 13) (v := ?vb13) rfl (by kernel_rfl) (by kernel_rfl) (by kernel_rfl) (fun _ _ _ h => h) rfl hHeld ?yb13 ?rb13
    case yb13 => (intro wz hz; go_simp; first | done | with_reducible rfl)
    try simp only [Act.put, List.setIfInBounds_toArray, List.set_cons_zero, List.set_cons_succ]
    refine take_one (i := 14) rfl (by kernel_rfl) rfl (fun K hK => ?_)
    go_simp
    refine Calls.mono (calls_nil _) ?_
    rintro e w9 ⟨rfl, rfl⟩
    refine hK.out _ _ hHeld (fun hHeld => ?_)
    clear hK K
    try simp only [Act.put, List.setIfInBounds_toArray, List.set_cons_zero, List.set_cons_succ]
    refine take_op (i := 15) (v := ?vc15) rfl (by kernel_rfl) (by kernel_rfl) (by kernel_rfl) (fun _ _ _ h => h) rfl hHeld ?yc15 ?rc15
    case yc15 => (intro wz hz; go_simp; first | done | with_reducible rfl)
    try simp only [Act.put, List.setIfInBounds_toArray, List.set_cons_zero, List.set_cons_succ]
    refine take_op (i := 16) (v := ?vc16) rfl (by kernel_rfl) (by kernel_rfl) (by kernel_rfl) (fun _ _ _ h => h) rfl hHeld ?yc16 ?rc16
    case yc16 => (intro wz hz; go_simp; first | done | with_reducible rfl)
    try simp only [Act.put, List.setIfInBounds_toArray, List.set_cons_zero, List.set_cons_succ]
    refine take_op (i := 17) (v := ?vc17) rfl (by kernel_rfl) (by kernel_rfl) (by kernel_rfl) (fun _ _ _ h => h) rfl hHeld ?yc17 ?rc17
    case yc17 => (intro wz hz; go_simp; first | done | with_reducible rfl)
    try simp only [Act.put, List.setIfInBounds_toArray, List.set_cons_zero, List.set_cons_succ]
    refine take_op (i := 18) (v := ?vc18) rfl (by kernel_rfl) (by kernel_rfl) (by kernel_rfl) (fun _ _ _ h => h) rfl hHeld ?yc18 ?rc18
    case yc18 => (intro wz hz; go_simp; first | done | with_reducible rfl)
    try simp only [Act.put, List.setIfInBounds_toArray, List.set_cons_zero, List.set_cons_succ]
    refine take_one (i := 19) rfl (by kernel_rfl) rfl (fun K hK => ?_)
    go_simp
    refine Calls.mono (all_nil _) ?_
    rintro e w10 ⟨rfl, rfl⟩
    refine hK.out _ _ hHeld (fun hHeld => ?_)
    clear hK K
    try simp only [Act.put, List.setIfInBounds_toArray, List.set_cons_zero, List.set_cons_succ]
    refine take_op (i := 20) (v := ?vd20) rfl (by kernel_rfl) (by kernel_rfl) (by kernel_rfl) (fun _ _ _ h => h) rfl hHeld ?yd20 ?rd20
    case yd20 => (intro wz hz; go_simp; first | done | with_reducible rfl)
    try simp only [Act.put, List.setIfInBounds_toArray, List.set_cons_zero, List.set_cons_succ]
    refine take_op (i := 21) (v := ?vd21) rfl (by kernel_rfl) (by kernel_rfl) (by kernel_rfl) (fun _ _ _ h => h) rfl hHeld ?yd21 ?rd21
    case yd21 => (intro wz hz; go_simp; first | done | with_reducible rfl)
    try simp only [Act.put, List.setIfInBounds_toArray, List.set_cons_zero, List.set_cons_succ]
    refine take_op (i := 22) (v := ?vd22) rfl (by kernel_rfl) (by kernel_rfl) (by kernel_rfl) (fun _ _ _ h => h) rfl hHeld ?yd22 ?rd22
    case yd22 => (intro wz hz; go_simp; first | done | with_reducible rfl)
    try simp only [Act.put, List.setIfInBounds_toArray, List.set_cons_zero, List.set_cons_succ]
    refine take_op (i := 23) (v := ?vd23) rfl (by kernel_rfl) (by kernel_rfl) (by kernel_rfl) (fun _ _ _ h => h) rfl hHeld ?yd23 ?rd23
    case yd23 => (intro wz hz; go_simp; first | done | with_reducible rfl)
    try simp only [Act.put, List.setIfInBounds_toArray, List.set_cons_zero, List.set_cons_succ]
    refine take_op (i := 24) (v := ?vd24) rfl (by kernel_rfl) (by kernel_rfl) (by kernel_rfl) (fun _ _ _ h => h) rfl hHeld ?yd24 ?rd24
    case yd24 => (intro wz hz; go_simp; first | done | with_reducible rfl)
    try simp only [Act.put, List.setIfInBounds_toArray, List.set_cons_zero, List.set_cons_succ]
    refine take_op (i := 25) (v := ?vd25) rfl (by kernel_rfl) (by kernel_rfl) (by kernel_rfl) (fun _ _ _ h => h) rfl hHeld ?yd25 ?rd25
    case yd25 => (intro wz hz; go_simp; first | done | with_reducible rfl)
    try simp only [Act.put, List.setIfInBounds_toArray, List.set_cons_zero, List.set_cons_succ]
    refine take_op (i := 26) (v := ?vd26) rfl (by kernel_rfl) (by kernel_rfl) (by kernel_rfl) (fun _ _ _ h => h) rfl hHeld ?yd26 ?rd26
    case yd26 => (intro wz hz; go_simp; first | done | with_reducible rfl)
    try simp only [Act.put, List.setIfInBounds_toArray, List.set_cons_zero, List.set_cons_succ]
    refine take_op (i := 27) (v := ?vd27) rfl (by kernel_rfl) (by kernel_rfl) (by kernel_rfl) (fun _ _ _ h => h) rfl hHeld ?yd27 ?rd27
    case yd27 => (intro wz hz; go_simp; first | done | with_reducible rfl)
    try simp only [Act.put, List.setIfInBounds_toArray, List.set_cons_zero, List.set_cons_succ]
    refine take_op (i := 28) (v := ?vd28) rfl (by kernel_rfl) (by kernel_rfl) (by kernel_rfl) (fun _ _ _ h => h) rfl hHeld ?yd28 ?rd28
    case yd28 => (intro wz hz; go_simp; first | done | with_reducible rfl)
    try simp only [Act.put, List.setIfInBounds_toArray, List.set_cons_zero, List.set_cons_succ]
    refine take_op (i := 29) (v := ?vd29) rfl (by kernel_rfl) (by kernel_rfl) (by kernel_rfl) (fun _ _ _ h => h) rfl hHeld ?yd29 ?rd29
    case yd29 => (intro wz hz; go_simp; first | done | with_reducible rfl)
    try simp only [Act.put, List.setIfInBounds_toArray, List.set_cons_zero, List.set_cons_succ]
    refine take_op (i := 30) (v := ?vd30) rfl (by kernel_rfl) (by kernel_rfl) (by kernel_rfl) (fun _ _ _ h => h) rfl hHeld ?yd30 ?rd30
    case yd30 => (intro wz hz; go_simp; first | done | with_reducible rfl)
    try simp only [Act.put, List.setIfInBounds_toArray, List.set_cons_zero, List.set_cons_succ]
    refine take_op (i := 31) (v := ?vd31) rfl (by kernel_rfl) (by kernel_rfl) (by kernel_rfl) (fun _ _ _ h => h) rfl hHeld ?yd31 ?rd31
    case yd31 => (intro wz hz; go_simp; first | done | with_reducible rfl)
    try simp only [Act.put, List.setIfInBounds_toArray, List.set_cons_zero, List.set_cons_succ]
    refine take_op (i := 32) (v := ?vd32) rfl (by kernel_rfl) (by kernel_rfl) (by kernel_rfl) (fun _ _ _ h => h) rfl hHeld ?yd32 ?rd32
    case yd32 => (intro wz hz; go_simp; first | done | with_reducible rfl)
    try simp only [Act.put, List.setIfInBounds_toArray, List.set_cons_zero, List.set_cons_succ]
    refine take_op (i := 33) (v := ?vd33) rfl (by kernel_rfl) (by kernel_rfl) (by kernel_rfl) (fun _ _ _ h => h) rfl hHeld ?yd33 ?rd33
    case yd33 => (intro wz hz; go_simp; first | done | with_reducible rfl)
    try simp only [Act.put, List.setIfInBounds_toArray, List.set_cons_zero, List.set_cons_succ]
    refine take_op (i := 34) (v := ?vd34) rfl (by kernel_rfl) (by kernel_rfl) (by kernel_rfl) (fun _ _ _ h => h) rfl hHeld ?yd34 ?rd34
    case yd34 => (intro wz hz; go_simp; first | done | with_reducible rfl)
    try simp only [Act.put, List.setIfInBounds_toArray, List.set_cons_zero, List.set_cons_succ]
    refine take_op (i := 35) (v := ?vd35) rfl (by kernel_rfl) (by kernel_rfl) (by kernel_rfl) (fun _ _ _ h => h) rfl hHeld ?yd35 ?rd35
    case yd35 => (intro wz hz; go_simp; first | done | with_reducible rfl)
    try simp only [Act.put, List.setIfInBounds_toArray, List.set_cons_zero, List.set_cons_succ]
    refine take_op (i := 36) (v := ?vd36) rfl (by kernel_rfl) (by kernel_rfl) (by kernel_rfl) (fun _ _ _ h => h) rfl hHeld ?yd36 ?rd36
    case yd36 => (intro wz hz; go_simp; first | done | with_reducible rfl)
    try simp only [Act.put, List.setIfInBounds_toArray, List.set_cons_zero, List.set_cons_succ]
    refine take_op (i := 37) (v := ?vd37) rfl (by kernel_rfl) (by kernel_rfl) (by kernel_rfl) (fun _ _ _ h => h) rfl hHeld ?yd37 ?rd37
    case yd37 => (intro wz hz; go_simp; first | done | with_reducible rfl)
    try simp only [Act.put, List.setIfInBounds_toArray, List.set_cons_zero, List.set_cons_succ]
    refine take_op (i := 38) (v := ?vd38) rfl (by kernel_rfl) (by kernel_rfl) (by kernel_rfl) (fun _ _ _ h => h) rfl hHeld ?yd38 ?rd38
    case yd38 => (intro wz hz; go_simp; first | done | with_reducible rfl)
    try simp only [Act.put, List.setIfInBounds_toArray, List.set_cons_zero, List.set_cons_succ]
    refine take_op (i := 39) (v := ?vd39) rfl (by kernel_rfl) (by kernel_rfl) (by kernel_rfl) (fun _ _ _ h => h) rfl hHeld ?yd39 ?rd39
    case yd39 => (intro wz hz; go_simp; first | done | with_reducible rfl)
    try simp only [Act.put, List.setIfInBounds_toArray, List.set_cons_zero, List.set_cons_succ]
    refine take_op (i := 40) (v := ?vd40) rfl (by kernel_rfl) (by kernel_rfl) (by kernel_rfl) (fun _ _ _ h => h) rfl hHeld ?yd40 ?rd40
    case yd40 => (intro wz hz; go_simp; first | done | with_reducible rfl)
    try simp only [Act.put, List.setIfInBounds_toArray, List.set_cons_zero, List.set_cons_succ]
    refine take_one (i := 41) rfl (by kernel_rfl) rfl (fun K hK => ?_)
    go_simp
    refine Calls.mono (awake_any _ (P6.out _ hHeld).2) ?_
    rintro e w11 ⟨rfl, b11⟩
    refine hK.out _ _ (hHeld.trans (b11.mono hHeld.size)) (fun hHeld => ?_)
    clear hK K
    try simp only [Act.put, List.setIfInBounds_toArray, List.set_cons_zero, List.set_cons_succ]
    clear b11
    refine take_op (i := 42) (v := ?ve42) rfl (by kernel_rfl) (by kernel_rfl) (by kernel_rfl) (fun _ _ _ h => h) rfl hHeld ?ye42 ?re42
    case ye42 => (intro wz hz; go_simp; first | done | with_reducible rfl)
    try simp only [Act.put, List.setIfInBounds_toArray, List.set_cons_zero, List.set_cons_succ]
    refine take_op (i := 43) (v := ?ve43) rfl (by kernel_rfl) (by kernel_rfl) (by kernel_rfl) (fun _ _ _ h => h) rfl hHeld ?ye43 ?re43
    case ye43 => (intro wz hz; go_simp; first | done | with_reducible rfl)
    try simp only [Act.put, List.setIfInBounds_toArray, List.set_cons_zero, List.set_cons_succ]
    refine wpAnyH_done (by kernel_rfl) ?_ _
    refine NoPanic.normal ?_
    have B9 : Hid (Below w6.heap.size w6 w11) := (show Below w6.heap.size w6 w11 from hHeld)
    clear hHeld
    go_wp2
    go_ret
    exact ⟨rfl, (B2.out.trans (B6.out.mono B2.out.size)).trans (B9.out.mono (Nat.le_trans B2.out.size B6.out.size))⟩
end Go.Proofs.YtmfgfcknhjblgaaDoor

/- The frame of a law's row: what was read reads behind the call as it did, where nothing old has turned. -/
namespace Go.Proofs.YtmfgfcknhjblgaaDoor
open Go.RowKit Go.Deep Go.ChangeShapes Go.WideShapes Go.ChangeAt

theorem below_trodAll {H : Type} {enc : TypeId × Value → H} {P : Program} (hl : laidOutB P = true) {W W' : World} (hb : Below W.heap.size W W') :
    ∀ {ts : List TypeId} {vs : List Value} {ds : List (DataW H)} {ps : List MemPlace}, (∀ t ∈ ts, P.readableRec t = true ∧ t < P.types.size) → DataW.TrodAll enc P W 0 (fun _ => true) true ts vs ds ps → (∀ x ∈ ps, x.block < W.heap.size) →
      DataW.TrodAll enc P W' 0 (fun b => decide (b < W.heap.size)) true ts vs ds ps
  | [], [], [], _, _, h, _ => h
  | t :: ts, v :: vs, d :: ds, ps, hts, h, hlt => by
    obtain ⟨p, q, h1, h2, e⟩ := h
    subst e
    exact ⟨p, q, Below.trod hl (hts t List.mem_cons_self).1 (hts t List.mem_cons_self).2 h1 hb (fun x hx => hlt x (List.mem_append_left _ hx)), below_trodAll hl hb (fun u hu => hts u (List.mem_cons_of_mem _ hu)) h2 (fun x hx => hlt x (List.mem_append_right _ hx)), rfl⟩

/-- WHAT A LAW's ROW ASKS BEHIND THE CALL, where the answer is true and nothing old has turned. -/
theorem law_post {H : Type} {enc : TypeId × Value → H} {P : Program} {spec : ChangeSpec} {f : Func} {W W' : World} {args : Array Value} {ds gs : List (DataW H)} {before : List MemPlace} {tb : TypeId}
    (hl : laidOutB P = true) (hts : ∀ t ∈ f.params.toList, P.readableRec t = true ∧ t < P.types.size) (hvars : spec.vars = []) (hres : f.resultTypes = #[tb]) (hbool : P.underlying tb = some .bool)
    (hspec : spec.fn H (ds ++ gs) = { results := [.lit (.bool true)], args := ds })
    (hW : DataW.Whole enc P f.params.toList spec.vars false W args.toList ds gs before) (hb : Below W.heap.size W W') : spec.post enc P f false true false false W args (.bool true) W' := by
  have hW' := hW
  have hlt := hW.lt
  obtain ⟨p, q, hA, hV, rfl, hfz, hnd⟩ := hW
  rw [hvars] at hV
  obtain ⟨rfl, rfl⟩ := trodVars_none hV
  refine ⟨ds, [], p ++ [], [], p, [], hW', ?_, ?_, ?_, ?_, fun h => by cases h⟩
  · rw [hspec, hres]
    exact trodAll_cons_mk (shut_bool hbool _) trodAll_mk0
  · rw [hspec]
    exact below_trodAll hl hb hts hA (fun x hx => hlt x (List.mem_append_left _ hx))
  · rw [hspec, hvars]; exact hV
  · exact hb.frame _

/-- AN ARRAY OF BYTES, opened. -/
theorem open_bytes {H : Type} {enc : TypeId × Value → H} {P : Program} {w : World} {base b0 : Nat} {sp : Nat → Bool} {held : Bool} {r : Reach} {t e : TypeId} {n : Nat} {v : Value} {d : DataW H} {ps : List MemPlace}
    (hu : P.underlying t = some (.array n e)) (he : P.underlying e = some (.int .u8)) (hc : P.cellsOf e = 1) (hct : P.cellsOf t = n) (hval : Value.okWide P w r b0 t v) (hd : DataW.Trod enc P w base sp held t v d ps) :
    ∃ f : Nat → Int, v = .agg (rowV n fun i => .int .u8 (f i)) ∧ ∀ i, 0 ≤ f i ∧ f i ≤ 255 := by
  unfold Value.okWide at hval
  rw [hu] at hval
  obtain ⟨cs, rfl, hsz, _⟩ := hval
  obtain ⟨fuel, hf⟩ := hd
  obtain ⟨xs, m, rfl, _, hlen, _, hx⟩ := DataW.trod_array hu hf
  simp only [Value.cells] at hx hlen
  have hget : ∀ i, i < n → ∃ z : Int, cs[i]? = some (.int .u8 z) ∧ 0 ≤ z ∧ z ≤ 255 := fun i hi => by
    have h1 := hx i hi
    rw [hc, Nat.mul_one] at h1
    have hxi : i < xs.length := by omega
    rw [List.getElem?_eq_getElem hxi] at h1
    obtain ⟨z, hz, _, hw⟩ := DataW.trod_int he h1
    refine ⟨z, ?_, bounds_u8 hw⟩
    have hcs : cs.toList[i]? = some (.int .u8 z) := by
      have := congrArg (fun l => l[0]?) hz
      simpa [List.getElem?_take, List.getElem?_drop] using this
    rw [← Array.getElem?_toList]; exact hcs
  refine ⟨fun i => if h : i < n then Classical.choose (hget i h) else 0, ?_, fun i => ?_⟩
  · congr 1
    refine rowV_eq (by omega) fun i hi => ?_
    dsimp only
    rw [dif_pos hi]; exact (Classical.choose_spec (hget i hi)).1
  · dsimp only
    by_cases h : i < n
    · rw [dif_pos h]; exact (Classical.choose_spec (hget i h)).2
    · rw [dif_neg h]; omega
end Go.Proofs.YtmfgfcknhjblgaaDoor

/- The frame of a law's row, where no package variable is laid. -/
namespace Go.Proofs.YtmfgfcknhjblgaaDoor
open Go.RowKit Go.Deep Go.ChangeShapes Go.WideShapes Go.ChangeAt
theorem own : ownKnob Tryd.prog.godebug = none := by kernel_rfl
theorem laidOut : laidOutB Tryd.prog = true := by kernel_rfl
theorem bounds_u64 {a : Int} (h : (Lit.int .u64 a).wf = true) : 0 ≤ a ∧ a < 18446744073709551616 := by
  have h' : 0 ≤ a ∧ a ≤ 18446744073709551615 := by simpa [Lit.wf, IntKind.min, IntKind.max, IntKind.signed, IntKind.bits] using h
  omega
end Go.Proofs.YtmfgfcknhjblgaaDoor

/- Slices that came in, opened. -/
namespace Go.Proofs.YtmfgfcknhjblgaaDoor
open Go.RowKit Go.Deep Go.ChangeShapes Go.WideShapes

theorem bounds_i64 {a : Int} (h : (Lit.int .i64 a).wf = true) : -9223372036854775808 ≤ a ∧ a ≤ 9223372036854775807 := by
  simpa [Lit.wf, IntKind.min, IntKind.max, IntKind.signed, IntKind.bits] using h
/-- A SLICE, opened at every index. -/
theorem open_any {H : Type} {enc : TypeId × Value → H} {P : Program} {w : World} {base b0 : Nat} {sp : Nat → Bool} {held : Bool} {r : Reach} {t e : TypeId} {v : Value} {d : DataW H} {ps : List MemPlace} (c : Nat)
    (hu : P.underlying t = some (.slice e)) (hc : P.cellsOf e = c) (hval : Value.okWide P w r b0 t v) (hd : DataW.Trod enc P w base sp held t v d ps) :
    (v = .slice none 0 0) ∨ ∃ pb po len cap : Nat, v = .slice (some ⟨pb, po, none⟩) len cap ∧ len ≤ cap ∧ cap ≤ maxLen ∧ pb < w.heap.size ∧
      ∀ i, i < len → ∃ (cs' : List Value) (n : Nat) (D : DataW H × List MemPlace), cs'.length = c ∧ (∀ j, j < c → w.cell? ⟨pb, po + i * c + j, none⟩ = cs'[j]?) ∧ DataW.trod enc P w base sp held n e cs' = some D := by
  obtain ⟨a, len, cap, rfl⟩ := okWide_slice hu hval
  obtain ⟨fuel, hf⟩ := hd
  rcases open_slice hu hf with ⟨h0, _⟩ | ⟨a', len', cap', m, n, D, Pl, h0, _, h1, h2, h3, _, h4⟩
  · left; simpa [Value.cells] using h0
  · right
    have h0' : a = some a' ∧ len = len' ∧ cap = cap' := by simpa [Value.cells] using h0
    obtain ⟨rfl, rfl, rfl⟩ := h0'
    have hlm : len ≤ m := by rw [h3]; split <;> omega
    simp only [Value.okWide, hu, Cell.okWide, Cell.ok] at hval
    obtain ⟨_, _, _, hsp, row, cells, hsh, _⟩ := hval
    obtain ⟨pb, po, spot⟩ := a'
    obtain rfl : spot = none := hsp
    refine ⟨pb, po, len, cap, rfl, h1, h2, ?_, fun i hi => ?_⟩
    · unfold World.shape? at hsh
      cases hq : w.heap[pb]? with
      | none => rw [hq] at hsh; cases hsh
      | some o => exact (Array.getElem?_eq_some_iff.1 hq).1
    · obtain ⟨cs', g1, g2⟩ := h4 i (by omega)
      rw [hc] at g1
      obtain ⟨_, hlen, hcell⟩ := World.cells?_some g1
      refine ⟨cs', n, _, hlen, fun j hj => ?_, g2⟩
      have e0 := hcell j (by omega)
      rw [add_add, Addr.add_mid] at e0
      rw [Nat.add_assoc]; exact e0
theorem open_bytes_slice {H : Type} {enc : TypeId × Value → H} {P : Program} {w : World} {base b0 : Nat} {sp : Nat → Bool} {held : Bool} {r : Reach} {t e : TypeId} {v : Value} {d : DataW H} {ps : List MemPlace}
    (hu : P.underlying t = some (.slice e)) (he : P.underlying e = some (.int .u8)) (hc : P.cellsOf e = 1) (hval : Value.okWide P w r b0 t v) (hd : DataW.Trod enc P w base sp held t v d ps) : ∃ l, isBytes w v l := by
  rcases open_any 1 hu hc hval hd with rfl | ⟨pb, po, len, cap, rfl, h1, h2, h3, h4⟩
  · exact ⟨[], Or.inl ⟨rfl, rfl⟩⟩
  · have each : ∀ i, i < len → ∃ z : Int, w.cell? ⟨pb, po + i, none⟩ = some (.int .u8 z) ∧ 0 ≤ z ∧ z ≤ 255 := fun i hi => by
      obtain ⟨cs', n, D, g1, g2, g3⟩ := h4 i hi
      obtain ⟨z, rfl, _, hw⟩ := DataW.trod_int he g3
      have := g2 0 (by omega)
      rw [Nat.mul_one, Nat.add_zero] at this
      exact ⟨z, this, bounds_u8 hw⟩
    obtain ⟨f, hf⟩ := choose_lt each
    have hg : ∀ i, i < len → ((List.range len).map f).getD i 0 = f i := fun i hi => by
      rw [List.getD_eq_getElem?_getD, List.getElem?_map, List.getElem?_range hi]; rfl
    refine ⟨(List.range len).map f, Or.inr ⟨pb, po, cap, by simp, by simpa using h1, h2, h3, fun i hi => ?_, fun i => ?_⟩⟩
    · have hi' : i < len := by simpa using hi
      rw [hg i hi']; exact (hf i hi').1
    · by_cases hi : i < len
      · rw [hg i hi]; exact (hf i hi).2
      · rw [List.getD_eq_getElem?_getD, List.getElem?_eq_none (by simp; omega)]; exact ⟨by simp, by simp⟩
end Go.Proofs.YtmfgfcknhjblgaaDoor

/- Slices of slices of bytes that came in, opened. -/
namespace Go.Proofs.YtmfgfcknhjblgaaDoor
set_option maxRecDepth 100000
open Go.RowKit Go.Deep Go.ChangeShapes Go.WideShapes

theorem open_inner {H : Type} {enc : TypeId × Value → H} {w : World} {base : Nat} {held : Bool} {n : Nat} {u : Value} {D : DataW H × List MemPlace}
    (hd : DataW.trod enc Tryd.prog w base (fun _ => true) held n 34 [u] = some D) : ∃ l, anyBytes w u l := by
  rcases open_slice1 Tryd.underlying34 (by kernel_rfl) hd with ⟨h0, _⟩ | ⟨a, len, cap, m, n', V, D', Pl, h0, _, h1, h2, h3, _, h4⟩
  · exact ⟨[], Or.inl (Or.inl ⟨by simpa using h0, rfl⟩)⟩
  · obtain rfl : u = .slice (some a) len cap := by simpa using h0
    simp only [if_true] at h3
    subst h3
    by_cases hc : m = 0
    · subst hc
      obtain rfl : len = 0 := by omega
      exact ⟨[], Or.inr ⟨⟨_, rfl⟩, rfl⟩⟩
    · have h00 := (h4 0 (by omega)).1
      have ha0 : a.add 0 = a := by unfold Addr.add; rw [if_pos rfl]
      rw [ha0] at h00
      have hsp : a.spot = none := by
        unfold World.cell? at h00
        split at h00
        · cases hs : a.spot with
          | none => rfl
          | some q => rw [hs] at h00; simp at h00
        · cases h00
      obtain ⟨pb, po, spot⟩ := a
      obtain rfl : spot = none := hsp
      have hlt := World.block_lt_of_cell? _ _ h00
      have each : ∀ i, i < len → ∃ z : Int, w.cell? ⟨pb, po + i, none⟩ = some (.int .u8 z) ∧ 0 ≤ z ∧ z ≤ 255 := fun i hi => by
        obtain ⟨e1, e2⟩ := h4 i (by omega)
        rw [Addr.add_mid] at e1
        obtain ⟨z, hz, _, hw⟩ := DataW.trod_int Tryd.underlying5 e2
        have hz' : V i = .int .u8 z := by simpa using hz
        exact ⟨z, by rw [e1, hz'], bounds_u8 hw⟩
      obtain ⟨f, hf⟩ := choose_lt each
      have hg : ∀ i, i < len → ((List.range len).map f).getD i 0 = f i := fun i hi => by
        rw [List.getD_eq_getElem?_getD, List.getElem?_map, List.getElem?_range hi]; rfl
      refine ⟨(List.range len).map f, Or.inl (Or.inr ⟨pb, po, m, by simp, by simpa using h1, h2, hlt, fun i hi => ?_, fun i => ?_⟩)⟩
      · have hi' : i < len := by simpa using hi
        rw [hg i hi']; exact (hf i hi').1
      · by_cases hi : i < len
        · rw [hg i hi]; exact (hf i hi).2
        · rw [List.getD_eq_getElem?_getD, List.getElem?_eq_none (by simp; omega)]; exact ⟨by simp, by simp⟩
theorem open_parts {H : Type} {enc : TypeId × Value → H} {w : World} {base b0 : Nat} {held : Bool} {r : Reach} {v : Value} {d : DataW H} {ps : List MemPlace}
    (hval : Value.okWide Tryd.prog w r b0 22 v) (hd : DataW.Trod enc Tryd.prog w base (fun _ => true) held 22 v d ps) : ∃ n p, isParts w v n p := by
  rcases open_any 1 Tryd.underlying22 (by kernel_rfl) hval hd with rfl | ⟨pb, po, len, cap, rfl, h1, h2, h3, h4⟩
  · exact ⟨0, fun _ => [], Or.inl ⟨rfl, rfl⟩⟩
  · have each : ∀ i, i < len → ∃ z : Value × List Int, w.cell? ⟨pb, po + i, none⟩ = some z.1 ∧ anyBytes w z.1 z.2 := fun i hi => by
      obtain ⟨cs', n, D, g1, g2, g3⟩ := h4 i hi
      match cs', g1 with
      | [u], _ =>
        obtain ⟨l, hl⟩ := open_inner g3
        have := g2 0 (by omega)
        rw [Nat.mul_one, Nat.add_zero] at this
        exact ⟨(u, l), this, hl⟩
    obtain ⟨f, hf⟩ := choose_lt each
    exact ⟨len, fun i => (f i).2, Or.inr ⟨pb, po, cap, fun i => (f i).1, rfl, h3, by omega, fun i hi => hf i hi⟩⟩
end Go.Proofs.YtmfgfcknhjblgaaDoor

/- Acts that came in, opened. -/
namespace Go.Proofs.YtmfgfcknhjblgaaDoor
set_option maxRecDepth 100000
open Go.RowKit Go.Deep Go.ChangeShapes Go.WideShapes

theorem trod_struct5 {H : Type} {enc : TypeId × Value → H} {P : Program} {w : World} {base : Nat} {spare : Nat → Bool} {held : Bool} {t : TypeId} {f0 f1 f2 f3 f4 : Field} {fuel : Nat} {cs : List Value} {x : DataW H × List MemPlace} (ht : P.underlying t = some (.struct #[f0, f1, f2, f3, f4])) (h : DataW.trod enc P w base spare held fuel t cs = some x) :
    ∃ y0 y1 y2 y3 y4 n, cs.length = P.cellsOf t ∧ DataW.trod enc P w base spare held n f0.type ((cs.drop f0.offset).take (P.cellsOf f0.type)) = some y0 ∧
      DataW.trod enc P w base spare held n f1.type ((cs.drop f1.offset).take (P.cellsOf f1.type)) = some y1 ∧ DataW.trod enc P w base spare held n f2.type ((cs.drop f2.offset).take (P.cellsOf f2.type)) = some y2 ∧
      DataW.trod enc P w base spare held n f3.type ((cs.drop f3.offset).take (P.cellsOf f3.type)) = some y3 ∧ DataW.trod enc P w base spare held n f4.type ((cs.drop f4.offset).take (P.cellsOf f4.type)) = some y4 := by
  obtain ⟨xs, n, _, rfl, hl, hlen, hf⟩ := DataW.trod_struct ht h
  match xs, hlen with
  | [y0, y1, y2, y3, y4], _ => exact ⟨y0, y1, y2, y3, y4, n, hl, by simpa using hf 0 f0 rfl, by simpa using hf 1 f1 rfl, by simpa using hf 2 f2 rfl, by simpa using hf 3 f3 rfl, by simpa using hf 4 f4 rfl⟩
/-- inner parts, opened. -/
theorem open_inner_parts {H : Type} {enc : TypeId × Value → H} {w : World} {base : Nat} {held : Bool} {n : Nat} {u : Value} {D : DataW H × List MemPlace}
    (hd : DataW.trod enc Tryd.prog w base (fun _ => true) held n 22 [u] = some D) : ∃ n p, anyParts w u n p := by
  rcases open_slice1 Tryd.underlying22 (by kernel_rfl) hd with ⟨h0, _⟩ | ⟨a, len, cap, m, n', V, D', Pl, h0, _, h1, h2, h3, _, h4⟩
  · exact ⟨0, fun _ => [], Or.inl (Or.inl ⟨by simpa using h0, rfl⟩)⟩
  · obtain rfl : u = .slice (some a) len cap := by simpa using h0
    simp only [if_true] at h3
    subst h3
    by_cases hc : m = 0
    · subst hc
      obtain rfl : len = 0 := by omega
      exact ⟨0, fun _ => [], Or.inr ⟨⟨_, rfl⟩, rfl⟩⟩
    · have h00 := (h4 0 (by omega)).1
      have ha0 : a.add 0 = a := by unfold Addr.add; rw [if_pos rfl]
      rw [ha0] at h00
      have hsp : a.spot = none := by
        unfold World.cell? at h00
        split at h00
        · cases hs : a.spot with
          | none => rfl
          | some q => rw [hs] at h00; simp at h00
        · cases h00
      obtain ⟨pb, po, spot⟩ := a
      obtain rfl : spot = none := hsp
      have hlt := World.block_lt_of_cell? _ _ h00
      have each : ∀ i, i < len → ∃ z : Value × List Int, w.cell? ⟨pb, po + i, none⟩ = some z.1 ∧ anyBytes w z.1 z.2 := fun i hi => by
        obtain ⟨e1, e2⟩ := h4 i (by omega)
        rw [Addr.add_mid] at e1
        obtain ⟨l, hl⟩ := open_inner e2
        exact ⟨(V i, l), e1, hl⟩
      obtain ⟨f, hf⟩ := choose_lt each
      exact ⟨len, fun i => (f i).2, Or.inl (Or.inr ⟨pb, po, m, fun i => (f i).1, rfl, hlt, by omega, fun i hi => hf i hi⟩)⟩
theorem drop_take1 {cs : List Value} {o : Nat} (h : o < cs.length) : (cs.drop o).take 1 = [cs[o]] := by
  rw [List.drop_eq_getElem_cons h]; rfl
theorem act_cells {H : Type} {enc : TypeId × Value → H} {w : World} {base : Nat} {held : Bool} {n : Nat} {cs' : List Value} {D : DataW H × List MemPlace} (g1 : cs'.length = 36)
    (g3 : DataW.trod enc Tryd.prog w base (fun _ => true) held n 49 cs' = some D) :
    ∃ (x : AR) (pv bv : Value), (∀ j, j < 36 → cs'[j]? = some (actV x.what x.kind pv bv x.sum j)) ∧ anyParts w pv x.n x.ps ∧ anyBytes w bv x.bytes ∧ isSum x.sum := by
  have ci : Tryd.prog.cellsOf 3 = 1 := by kernel_rfl
  have cp : Tryd.prog.cellsOf 22 = 1 := by kernel_rfl
  have cb : Tryd.prog.cellsOf 34 = 1 := by kernel_rfl
  have cs32 : Tryd.prog.cellsOf 30 = 32 := by kernel_rfl
  have c8 : Tryd.prog.cellsOf 5 = 1 := by kernel_rfl
  obtain ⟨y0, y1, y2, y3, y4, m, _, t0, t1, t2, t3, t4⟩ := trod_struct5 Tryd.underlying49 g3
  simp only [ci, cp, cb, cs32] at t0 t1 t2 t3 t4
  rw [drop_take1 (by omega)] at t0 t1 t2 t4
  obtain ⟨z0, e0, _, _⟩ := DataW.trod_int (k := .i64) Tryd.underlying3 t0
  obtain ⟨z1, e1, _, _⟩ := DataW.trod_int (k := .i64) Tryd.underlying3 t1
  obtain ⟨pn, pp, hp⟩ := open_inner_parts t2
  obtain ⟨bl, hb⟩ := open_inner t4
  obtain ⟨xs, m', rfl, _, hlen, _, hx⟩ := DataW.trod_array Tryd.underlying30 t3
  have hsum : ∀ j, j < 32 → ∃ z : Int, cs'[3 + j]? = some (.int .u8 z) ∧ 0 ≤ z ∧ z ≤ 255 := fun j hj => by
    have h5 := hx j hj
    rw [c8, Nat.mul_one] at h5
    have hxj : j < xs.length := by omega
    rw [List.getElem?_eq_getElem hxj] at h5
    obtain ⟨z, hz, _, hw⟩ := DataW.trod_int Tryd.underlying5 h5
    refine ⟨z, ?_, bounds_u8 hw⟩
    have := congrArg (fun l => l[0]?) hz
    simp only [List.getElem?_take, List.getElem?_drop, List.getElem?_cons_zero] at this
    simpa [hj] using this
  obtain ⟨f, hf⟩ := choose_lt hsum
  have hg : ∀ j, j < 32 → ((List.range 32).map f).getD j 0 = f j := fun j hj => by
    rw [List.getD_eq_getElem?_getD, List.getElem?_map, List.getElem?_range hj]; rfl
  refine ⟨⟨z0, z1, pn, pp, (List.range 32).map f, bl⟩, _, _, fun j hj => ?_, hp, hb, ?_, fun j => ?_⟩
  · have e0' : cs'[0]? = some (.int .i64 z0) := by rw [List.getElem?_eq_getElem (by omega)]; simpa using e0
    have e1' : cs'[1]? = some (.int .i64 z1) := by rw [List.getElem?_eq_getElem (by omega)]; simpa using e1
    unfold actV
    by_cases j0 : j = 0
    · subst j0; exact e0'
    · rw [if_neg j0]
      by_cases j1 : j = 1
      · subst j1; exact e1'
      · rw [if_neg j1]
        by_cases j2 : j = 2
        · subst j2; rw [if_pos rfl]; exact List.getElem?_eq_getElem (by omega)
        · rw [if_neg j2]
          by_cases j3 : j < 35
          · rw [if_pos j3, arrV, hg (j - 3) (by omega)]
            have := (hf (j - 3) (by omega)).1
            rw [show 3 + (j - 3) = j by omega] at this; exact this
          · obtain rfl : j = 35 := by omega
            rw [if_neg j3]; exact List.getElem?_eq_getElem (by omega)
  · simp
  · by_cases hj : j < 32
    · show 0 ≤ ((List.range 32).map f).getD j 0 ∧ ((List.range 32).map f).getD j 0 ≤ 255
      rw [hg j hj]; exact (hf j hj).2
    · show 0 ≤ ((List.range 32).map f).getD j 0 ∧ ((List.range 32).map f).getD j 0 ≤ 255
      rw [List.getD_eq_getElem?_getD, List.getElem?_eq_none (by simp; omega)]; exact ⟨by simp, by simp⟩
theorem open_acts {H : Type} {enc : TypeId × Value → H} {w : World} {base b0 : Nat} {held : Bool} {r : Reach} {v : Value} {d : DataW H} {ps : List MemPlace}
    (hval : Value.okWide Tryd.prog w r b0 51 v) (hd : DataW.Trod enc Tryd.prog w base (fun _ => true) held 51 v d ps) : ∃ n acts, isActs w v n acts := by
  rcases open_any 36 Tryd.underlying51 (by kernel_rfl) hval hd with rfl | ⟨pb, po, len, cap, rfl, h1, h2, h3, h4⟩
  · exact ⟨0, fun _ => ⟨0, 0, 0, fun _ => [], [], []⟩, Or.inl ⟨rfl, rfl⟩⟩
  · have each : ∀ i, i < len → ∃ x : AR, actAt w pb (po + i * 36) x := fun i hi => by
      obtain ⟨cs', n, D, g1, g2, g3⟩ := h4 i hi
      obtain ⟨x, pv, bv, e1, e2, e3, e4⟩ := act_cells (by omega) g3
      exact ⟨x, pv, bv, fun j hj => by rw [g2 j hj]; exact e1 j hj, e2, e3, e4⟩
    haveI : Inhabited AR := ⟨⟨0, 0, 0, fun _ => [], [], []⟩⟩
    obtain ⟨f, hf⟩ := choose_lt each
    exact ⟨len, f, Or.inr ⟨pb, po, cap, rfl, h3, h1, h2, fun i hi => hf i hi⟩⟩
theorem okWide_agg {P : Program} {w : World} {r : Reach} {b0 : Nat} {t : TypeId} {fs : Array Field} {v : Value} (hu : P.underlying t = some (.struct fs)) (hval : Value.okWide P w r b0 t v) : ∃ cs, v = .agg cs := by
  unfold Value.okWide at hval
  rw [hu] at hval
  obtain ⟨cs, rfl, _⟩ := hval
  exact ⟨cs, rfl⟩
theorem agg_row {cs : Array Value} {n : Nat} {f : Nat → Value} (hl : cs.toList.length = n) (h : ∀ j, j < n → cs.toList[j]? = some (f j)) : Value.agg cs = .agg (rowV n f) := by
  congr 1
  exact rowV_eq (by simpa using hl) fun i hi => by rw [← Array.getElem?_toList]; exact h i hi
theorem cells36 : Tryd.prog.cellsOf 49 = 36 := by kernel_rfl
theorem act_len {H : Type} {enc : TypeId × Value → H} {w : World} {base : Nat} {held : Bool} {n : Nat} {cs' : List Value} {D : DataW H × List MemPlace}
    (g3 : DataW.trod enc Tryd.prog w base (fun _ => true) held n 49 cs' = some D) : cs'.length = 36 := by
  obtain ⟨y0, y1, y2, y3, y4, m, hl, _⟩ := trod_struct5 Tryd.underlying49 g3
  rw [hl, cells36]
/-- one act that came in. -/
theorem open_act {H : Type} {enc : TypeId × Value → H} {w : World} {base b0 : Nat} {held : Bool} {r : Reach} {v : Value} {d : DataW H} {ps : List MemPlace}
    (hval : Value.okWide Tryd.prog w r b0 49 v) (hd : DataW.Trod enc Tryd.prog w base (fun _ => true) held 49 v d ps) :
    ∃ (x : AR) (pv bv : Value), v = .agg (rowV 36 (actV x.what x.kind pv bv x.sum)) ∧ anyParts w pv x.n x.ps ∧ anyBytes w bv x.bytes ∧ isSum x.sum := by
  obtain ⟨cs, rfl⟩ := okWide_agg Tryd.underlying49 hval
  obtain ⟨fuel, hf⟩ := hd
  have hlen : cs.toList.length = 36 := act_len hf
  obtain ⟨x, pv, bv, e1, e2, e3, e4⟩ := act_cells hlen hf
  exact ⟨x, pv, bv, agg_row hlen e1, e2, e3, e4⟩
def zeroAct : Value := .agg #[.int .i64 0, .int .i64 0, .slice none 0 0, .int .u8 0, .int .u8 0, .int .u8 0, .int .u8 0, .int .u8 0, .int .u8 0, .int .u8 0, .int .u8 0, .int .u8 0, .int .u8 0, .int .u8 0, .int .u8 0, .int .u8 0, .int .u8 0, .int .u8 0, .int .u8 0, .int .u8 0, .int .u8 0, .int .u8 0, .int .u8 0, .int .u8 0, .int .u8 0, .int .u8 0, .int .u8 0, .int .u8 0, .int .u8 0, .int .u8 0, .int .u8 0, .int .u8 0, .int .u8 0, .int .u8 0, .int .u8 0, .slice none 0 0]
def zeroActD {H : Type} : DataW H := .agg [.lit (.int .i64 0), .lit (.int .i64 0), .nil, .agg [.lit (.int .u8 0), .lit (.int .u8 0), .lit (.int .u8 0), .lit (.int .u8 0), .lit (.int .u8 0), .lit (.int .u8 0), .lit (.int .u8 0), .lit (.int .u8 0), .lit (.int .u8 0), .lit (.int .u8 0), .lit (.int .u8 0), .lit (.int .u8 0), .lit (.int .u8 0), .lit (.int .u8 0), .lit (.int .u8 0), .lit (.int .u8 0), .lit (.int .u8 0), .lit (.int .u8 0), .lit (.int .u8 0), .lit (.int .u8 0), .lit (.int .u8 0), .lit (.int .u8 0), .lit (.int .u8 0), .lit (.int .u8 0), .lit (.int .u8 0), .lit (.int .u8 0), .lit (.int .u8 0), .lit (.int .u8 0), .lit (.int .u8 0), .lit (.int .u8 0), .lit (.int .u8 0), .lit (.int .u8 0)], .nil]
theorem acts_sized {H : Type} {enc : TypeId × Value → H} {w : World} {base : Nat} {sp : Nat → Bool} {held : Bool} {v : Value} {d : DataW H} {pl : List MemPlace} {n : Nat} {acts : Nat → AR}
    (hd : DataW.Trod enc Tryd.prog w base sp held 51 v d pl) (h : isActs w v n acts) (hz : ∀ x ∈ d.weights Tryd.prog 51, x ≤ reachBytes) : (n + 1) * 96 ≤ 140737488355328 := by
  obtain ⟨a, cap, rfl, _, _, _⟩ := h.open
  obtain ⟨fuel, hf⟩ := hd
  rcases open_slice Tryd.underlying51 hf with ⟨h0, _⟩ | ⟨a', len, cap', m, n', D, Pl, h0, _, h1, h2, h3, hx, h4⟩
  · have : n = 0 := by
      have : a = none ∧ n = 0 ∧ cap = 0 := by simpa [Value.cells] using h0
      exact this.2.1
    omega
  · have h0' : a = some a' ∧ n = len ∧ cap = cap' := by simpa [Value.cells] using h0
    obtain ⟨rfl, rfl, rfl⟩ := h0'
    have hd' := (Prod.mk.inj hx).1
    have hb : Tryd.prog.bytesOf 49 = 96 := by kernel_rfl
    have hr : reachBytes = 140737488351232 := rfl
    have : n * 96 ≤ reachBytes := by
      refine Nat.le_trans ?_ (hz ((n + (m - n)) * Tryd.prog.bytesOf 49) ?_)
      · rw [hb]; exact Nat.mul_le_mul_right _ (by omega)
      · rw [hd']; simp [DataW.weights, Tryd.underlying51]
    omega
end Go.Proofs.YtmfgfcknhjblgaaDoor

/- The table of the rounds' constants, as the row lists it; a world that holds it, for the witness. -/
namespace Go.Proofs.YtmfgfcknhjblgaaDoor
set_option maxRecDepth 100000
open Go.RowKit Go.Deep Go.ChangeShapes Go.WideShapes Go.ChangeAt

/-- the table's name. -/
def tabName : String := Rows.sealNotesRow.named.getD 0 ""
theorem gTab : Tryd.prog.globalNamed tabName = some 0 := by kernel_rfl
theorem gTabType : (Tryd.prog.globals[0]?).map (·.type) = some 110 := by kernel_rfl
theorem cellsTab : Tryd.prog.cellsOf 110 = 64 := by kernel_rfl
theorem cellsWord : Tryd.prog.cellsOf 38 = 1 := by kernel_rfl
/-- what the row's list gives. -/
theorem laid_tab {W : World} (h : laidMetH Tryd.prog Rows.sealNotesRow.laid W) : tabIs W := by
  have ht : Lib.TabIs Tryd.prog W tabName .u32 kList := Lib.tabIs_of_head (rest := []) gTab gTabType Tryd.underlying110 Tryd.underlying38 cellsWord cellsTab h
  refine ⟨?_, fun i hi => ht.cell gTab i (by simpa [kList] using hi)⟩
  have h0 := ht.cell gTab 0 (by decide)
  exact block_lt_of_cell h0
/-- the table's block, laid. -/
def kObj : Obj → Obj
  | .cells _ t frozen => .cells #[.int .u32 1116352408, .int .u32 1899447441, .int .u32 3049323471, .int .u32 3921009573, .int .u32 961987163, .int .u32 1508970993, .int .u32 2453635748, .int .u32 2870763221, .int .u32 3624381080, .int .u32 310598401, .int .u32 607225278, .int .u32 1426881987, .int .u32 1925078388, .int .u32 2162078206, .int .u32 2614888103, .int .u32 3248222580, .int .u32 3835390401, .int .u32 4022224774, .int .u32 264347078, .int .u32 604807628, .int .u32 770255983, .int .u32 1249150122, .int .u32 1555081692, .int .u32 1996064986, .int .u32 2554220882, .int .u32 2821834349, .int .u32 2952996808, .int .u32 3210313671, .int .u32 3336571891, .int .u32 3584528711, .int .u32 113926993, .int .u32 338241895, .int .u32 666307205, .int .u32 773529912, .int .u32 1294757372, .int .u32 1396182291, .int .u32 1695183700, .int .u32 1986661051, .int .u32 2177026350, .int .u32 2456956037, .int .u32 2730485921, .int .u32 2820302411, .int .u32 3259730800, .int .u32 3345764771, .int .u32 3516065817, .int .u32 3600352804, .int .u32 4094571909, .int .u32 275423344, .int .u32 430227734, .int .u32 506948616, .int .u32 659060556, .int .u32 883997877, .int .u32 958139571, .int .u32 1322822218, .int .u32 1537002063, .int .u32 1747873779, .int .u32 1955562222, .int .u32 2024104815, .int .u32 2227730452, .int .u32 2361852424, .int .u32 2428436474, .int .u32 2756734187, .int .u32 3204031479, .int .u32 3329325298] t frozen
  | o => o
end Go.Proofs.YtmfgfcknhjblgaaDoor
