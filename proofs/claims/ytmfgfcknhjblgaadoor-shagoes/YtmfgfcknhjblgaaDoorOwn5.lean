import Derived.Deep.CutBlock
import Derived.ProofKit
import Derived.OpenShut
import Derived.Test.YtmfgfcknhjblgaaDoorRows
import Derived.ChangeSlices
import Derived.Deep.Slices
import Derived.Deep.Strs
import Derived.Test.YtmfgfcknhjblgaaDoorCards
import Derived.Deep.DeepHandedRow
import Derived.Lib.LaidTab
import Derived.Test.YtmfgfcknhjblgaaDoorOwn1
import Derived.Test.YtmfgfcknhjblgaaDoorOwn3
import Derived.Test.YtmfgfcknhjblgaaDoorOwn4
set_option linter.unusedVariables false
set_option linter.unusedSimpArgs false
/- ShaGoes' walk. -/
namespace Go.Proofs.YtmfgfcknhjblgaaDoor
set_option linter.unusedSimpArgs false
set_option linter.unusedVariables false
open Go.RowKit Go.Deep

theorem eql_sumG (f : Nat → Int) (wx : World) : (binOp .eql 30 (.agg (rowV 32 fun i => .int .u8 (f i))) (.agg (rowV 32 fun i => .int .u8 (f i)))).run Tryd.prog wx = .ok (.bool true) wx := by
  rw [run_eql_arr wx 30 5 .u8 32 f f Tryd.underlying30 Tryd.underlying5 (by kernel_rfl) (by kernel_rfl), (arrEq_iff 32 _ _).2 (fun _ _ => rfl)]
theorem neq_sumG (f : Nat → Int) (wx : World) : (binOp .neq 30 (.agg (rowV 32 fun i => .int .u8 (f i))) (.agg (rowV 32 fun i => .int .u8 (f i)))).run Tryd.prog wx = .ok (.bool false) wx := by
  rw [run_neq_arr wx 30 5 .u8 32 f f Tryd.underlying30 Tryd.underlying5 (by kernel_rfl) (by kernel_rfl), (arrEq_iff 32 _ _).2 (fun _ _ => rfl)]; rfl
theorem one_partsG (w : World) (u : Value) (l : List Int) (hu : isBytes w u l) : isParts (w.alloc (.cells #[u] 34)) (.slice (some ⟨w.heap.size, 0, none⟩) 1 1) 1 (fun _ => l) :=
  Or.inr ⟨w.heap.size, 0, 1, fun _ => u, rfl, by simp, by unfold maxLen; omega, fun i hi => by
    obtain rfl : i = 0 := by omega
    exact ⟨one_cell w _ _, Or.inl (hu.below ((Below.refl _ _).alloc (Nat.le_refl _) _) (Nat.le_refl _))⟩⟩
theorem flatTo_oneG (l : List Int) : flatTo (fun _ => l) 1 = l := by simp [flatTo]
theorem flatTo_oneG_le (l : List Int) (m : Nat) (h : l.length ≤ m) (i : Nat) (hi : i ≤ 1) : (flatTo (fun _ => l) i).length ≤ m := by
  have := flatTo_mono (fun _ => l) 1 i hi
  rw [flatTo_oneG] at this; omega
theorem hashAny.far {w w' : World} {b : Nat} {l : List Int} (h : hashAny w b l) (hb : w'.heap[b]? = w.heap[b]?) : hashAny w' b l := by
  obtain ⟨v, f, h1, h2⟩ := h
  exact ⟨v, f, World.rowIs.of_block h1 hb, h2⟩
theorem hashAny.below {w w' : World} {b : Nat} {l : List Int} (h : hashAny w b l) (hb : Below w.heap.size w w') : hashAny w' b l := h.far (hb.block b h.lt)
theorem newBytes.far {w w' : World} {B : Nat} {v : Value} {l : List Int} (h : newBytes w B v l) (hb : ∀ k, v.ownBlock = some k → w'.heap[k]? = w.heap[k]?) : newBytes w' B v l := ⟨h.1.far hb, h.2⟩
/-- the hash and all that came, in memory from B on. -/
def goAt (w0 : World) (B : Nat) (wr : World) (hv all : Value) (L : List Int) : Prop :=
  ∃ hb, hv = .pointer (some ⟨hb, 0, none⟩) ∧ hashAny wr hb L ∧ B ≤ hb ∧ newBytes wr B all L ∧ all.ownBlock ≠ some hb ∧ Below B w0 wr
theorem goAt.go {w0 wr wx : World} {B : Nat} {hv all : Value} {L : List Int} (h : goAt w0 B wr hv all L) (hb : Below wr.heap.size wr wx) (hB : B ≤ wr.heap.size) : goAt w0 B wx hv all L := by
  obtain ⟨b, h1, h2, h3, h4, h5, h6⟩ := h
  exact ⟨b, h1, h2.below hb, h3, h4.below hb (Nat.le_refl _), h5, h6.trans (hb.mono hB)⟩
theorem elsewhere_run (w : World) : (convert 34 34 (.slice (some ⟨w.heap.size, 0, none⟩) 9 9)).run Tryd.prog (w.alloc (.cells #[.int .u8 101, .int .u8 108, .int .u8 115, .int .u8 101, .int .u8 119, .int .u8 104, .int .u8 101, .int .u8 114, .int .u8 101] 5)) = .ok (.slice (some ⟨w.heap.size, 0, none⟩) 9 9) (w.alloc (.cells #[.int .u8 101, .int .u8 108, .int .u8 115, .int .u8 101, .int .u8 119, .int .u8 104, .int .u8 101, .int .u8 114, .int .u8 101] 5 (9, 10))) :=
  Lib.run_convert_bytes_const (P := Tryd.prog) w 34 5 #[.int .u8 101, .int .u8 108, .int .u8 115, .int .u8 101, .int .u8 119, .int .u8 104, .int .u8 101, .int .u8 114, .int .u8 101] 9 9 Tryd.underlying34 Tryd.underlying5
def elseL : List Int := [101, 108, 115, 101, 119, 104, 101, 114, 101]
theorem write_else (w : World) (b : Nat) (l : List Int) (h : hashAny w b l) (hl : l.length ≤ 20000) (ht : tabIs w) (hb0 : b ≠ 0) :
    Calls Tryd.prog 11 #[.pointer (some ⟨b, 0, none⟩), .slice (some ⟨w.heap.size + 1, 0, none⟩) 1 1] ((w.alloc (.cells #[.int .u8 101, .int .u8 108, .int .u8 115, .int .u8 101, .int .u8 119, .int .u8 104, .int .u8 101, .int .u8 114, .int .u8 101] 5 (9, 10))).alloc (.cells #[.slice (some ⟨w.heap.size, 0, none⟩) 9 9] 34))
      fun e w' => e = .returned (.tuple #[]) ∧ Below b w w' := by
  have hlt := h.lt
  obtain ⟨W, hW⟩ : ∃ W, W = ((w.alloc (.cells #[.int .u8 101, .int .u8 108, .int .u8 115, .int .u8 101, .int .u8 119, .int .u8 104, .int .u8 101, .int .u8 114, .int .u8 101] 5 (9, 10))).alloc (.cells #[.slice (some ⟨w.heap.size, 0, none⟩) 9 9] 34)) := ⟨_, rfl⟩
  have bw : Below w.heap.size w W := by rw [hW]; exact ((Below.refl _ _).alloc (Nat.le_refl _) _).alloc (by simp) _
  have b0 : W.heap[w.heap.size]? = some (.cells #[.int .u8 101, .int .u8 108, .int .u8 115, .int .u8 101, .int .u8 119, .int .u8 104, .int .u8 101, .int .u8 114, .int .u8 101] 5 (9, 10)) := by rw [hW, blk_alloc_lt _ _ _ (by simp), blk_alloc_new]
  have b1 : W.heap[w.heap.size + 1]? = some (.cells #[.slice (some ⟨w.heap.size, 0, none⟩) 9 9] 34) := by
    have := blk_alloc_new (w.alloc (.cells #[.int .u8 101, .int .u8 108, .int .u8 115, .int .u8 101, .int .u8 119, .int .u8 104, .int .u8 101, .int .u8 114, .int .u8 101] 5 (9, 10))) (.cells #[.slice (some ⟨w.heap.size, 0, none⟩) 9 9] 34)
    rw [nblk_alloc] at this; rw [hW]; exact this
  have sW : W.heap.size = w.heap.size + 2 := by rw [hW]; simp
  rw [← hW]
  clear hW
  refine (write_any b l 1 (w.heap.size + 1) 0 1 (fun _ => .slice (some ⟨w.heap.size, 0, none⟩) 9 9) (fun _ => elseL) W (h.below bw) (by omega) (by omega) (fun i hi => ?_) (fun i hi => Or.inr (Or.inl ⟨w.heap.size, 0, 9, rfl, by decide, by decide, by omega, by omega, fun j hj => ?_, fun j => ?_⟩)) (fun i hi => ?_) (by decide) (ht.below bw ht.1).2 hb0).mono ?_
  · obtain rfl : i = 0 := by omega
    rw [cell_of_row _ _ _ _ _ _ b1]; rfl
  · have hj' : j < 9 := hj
    rw [cell_of_row _ _ _ _ _ _ b0]
    have : j = 0 ∨ j = 1 ∨ j = 2 ∨ j = 3 ∨ j = 4 ∨ j = 5 ∨ j = 6 ∨ j = 7 ∨ j = 8 := by omega
    rcases this with rfl | rfl | rfl | rfl | rfl | rfl | rfl | rfl | rfl <;> rfl
  · by_cases hj : j < 9
    · have : j = 0 ∨ j = 1 ∨ j = 2 ∨ j = 3 ∨ j = 4 ∨ j = 5 ∨ j = 6 ∨ j = 7 ∨ j = 8 := by omega
      rcases this with rfl | rfl | rfl | rfl | rfl | rfl | rfl | rfl | rfl <;> decide
    · rw [List.getD_eq_getElem?_getD, List.getElem?_eq_none (by simp [elseL]; omega)]; exact ⟨by simp, by simp⟩
  · have : (flatTo (fun _ => elseL) i).length ≤ 9 := flatTo_oneG_le elseL 9 (by decide) i hi
    omega
  · rintro e w' ⟨rfl, hb, _⟩
    exact ⟨rfl, (bw.mono (by omega)).trans ((hb.mono (by omega)).below (Nat.le_refl _))⟩
set_option maxHeartbeats 4000000 in
set_option maxRecDepth 100000 in
theorem shaGoes_any (n : Nat) (v : Value) (ws : Nat → WR) (made : Bool) (w : World) (ht : tabIs w) (h : isWrites w v n ws) :
    Calls Tryd.prog 5 #[v, .bool made] w fun e w' => e = .returned (.bool true) ∧ Below w.heap.size w w' := by
  have ht0 := ht.1
  have HV := lheavy_any n v ws w h
  obtain ⟨a, cap, rfl, hnm, hop⟩ := h.open
  have hn' : (n : Int) ≤ 9223372036854775807 := by unfold maxLen at hnm; omega
  have HOP : Hid _ := hop
  clear hop h hnm
  go_enter Tryd.func5, Tryd.ntmps5
  go_wp2_with fail
  refine HV.mono ?_
  rintro e w1 ⟨r, rfl, b1, hl⟩
  clear HV
  cases r with
  | true =>
    clear hl
    go_wp2_with fail
    refine (awake_any w1 (ht.below b1 ht0)).mono ?_
    rintro e w9 ⟨rfl, b9⟩
    go_wp2
    go_ret
    exact ⟨rfl, b1.trans (b9.mono b1.size)⟩
  | false =>
    obtain ⟨n100, hlw, htot⟩ := hl rfl
    have B1 : Hid (Below w.heap.size w w1 ∧ w.heap.size ≤ w1.heap.size) := (show Below w.heap.size w w1 ∧ w.heap.size ≤ w1.heap.size from ⟨b1, b1.size⟩)
    have T1 : Hid (tabIs w1) := (show tabIs w1 from ht.below b1 ht0)
    have HLW : Hid ((∀ i, i < n → lightOne (ws i)) ∧ ∀ i, i ≤ n → (wAll ws i).length ≤ 20000) := (show (∀ i, i < n → lightOne (ws i)) ∧ ∀ i, i ≤ n → (wAll ws i).length ≤ 20000 from ⟨hlw, fun i hi => Nat.le_trans (flatTo_mono _ n i hi) htot⟩)
    clear hl hlw htot b1
    go_wp2_with fail
    refine (new_any w1).mono ?_
    rintro e w2 ⟨rfl, b2, s2, h2⟩
    have hz0 := zero_hash
    have G2 : Hid (goAt w1 w1.heap.size w2 (.pointer (some ⟨w1.heap.size, 0, none⟩)) (.slice none 0 0) []) := (show goAt w1 w1.heap.size w2 (.pointer (some ⟨w1.heap.size, 0, none⟩)) (.slice none 0 0) [] from ⟨_, rfl, hashAny_zero h2, Nat.le_refl _, newBytes.nil _ _, by simp [Value.ownBlock], b2⟩)
    have S2 : Hid (w2.heap.size = w1.heap.size + 1) := (show w2.heap.size = w1.heap.size + 1 from s2)
    clear h2 b2 s2
    go_upto_if 16 with fail
    go_cut [5] from 15 to 18 (fun hv wx => goAt w1 w1.heap.size wx hv (.slice none 0 0) [])
    case first =>
      have rb := rowIs_box w2 44 73 (hashV (fun _ => 0) (fun _ => 0) 0)
      have bb : Below w1.heap.size w1 (w2.alloc (.cells (rowV 73 (hashV (fun _ => 0) (fun _ => 0) 0)) 44)) := by
        obtain ⟨_, _, _, _, _, _, hb⟩ := G2.out
        exact hb.alloc hb.size _
      have gg : goAt w1 w1.heap.size (w2.alloc (.cells (rowV 73 (hashV (fun _ => 0) (fun _ => 0) 0)) 44)) (.pointer (some ⟨w2.heap.size, 0, none⟩)) (.slice none 0 0) [] :=
        ⟨_, rfl, hashAny_zero rb, by have := S2.out; omega, newBytes.nil _ _, by simp [Value.ownBlock], bb⟩
      have GG : Hid _ := gg
      clear rb bb gg
      cases made with
      | true =>
        go_wp2
        go_meet
        exact G2.out
      | false =>
        go_wp2
        go_meet
        exact GG.out
    case rest =>
    have GC : Hid _ := hcut
    clear hcut G2 S2
    have T10 := T1.out.1
    go_wp2
    go_loopw [5, 6, 7] (fun hv z i wr => ∃ k : Nat, k ≤ n ∧ i = .int .i64 k ∧ goAt w1 w1.heap.size wr hv z (wAll ws k)) (fun _ _ i _ => n - (intOf i).toNat)
    case atStart => exact ⟨0, by omega, rfl, GC.out⟩
    case round =>
      clear GC
      obtain ⟨k, hk, rfl, hb, rfl, hh, hge, hnb, hne, hbw⟩ := hrel
      have s1 := hbw.size
      have hhl := hh.lt
      have hb0 : hb ≠ 0 := by omega
      by_cases hlt : k < n
      · obtain ⟨qb, qo, pv, rfl, hqb, hc, hcd, hpv⟩ := HOP.out k hlt
        have hqb1 : qb < w1.heap.size := Nat.lt_of_lt_of_le hqb B1.out.2
        have b0 : (0 : Int) ≤ (k : Int) := by omega
        have b1 : (k : Int) < (n : Int) := by omega
        have hLk := HLW.out.2 (k + 1) hlt
        rw [wAll_succ, List.length_append] at hLk
        have hOne : lightOne (ws k) := HLW.out.1 k hlt
        obtain ⟨L, hL⟩ : ∃ L, L = wAll ws k := ⟨_, rfl⟩
        obtain ⟨M, hM⟩ : ∃ M, M = flatTo (ws k).ps (ws k).n := ⟨_, rfl⟩
        have HLM : Hid (wAll ws (k + 1) = L ++ M) := (show wAll ws (k + 1) = L ++ M from by rw [hL, hM]; rfl)
        rw [← hL, ← hM] at hLk
        rw [← hL] at hh hnb
        have hMl : ∀ i, i ≤ (ws k).n → L.length + (flatTo (ws k).ps i).length < 1099511627776 := fun i hi => by have := flatTo_mono (ws k).ps (ws k).n i hi; rw [← hM] at this; omega
        have HMe : Hid (M = flatTo (ws k).ps (ws k).n) := (show M = flatTo (ws k).ps (ws k).n from hM)
        clear hL hM
        obtain ⟨S, hS⟩ : ∃ S, S = wr.heap.size := ⟨_, rfl⟩
        have CP : Hid (∀ wz, Below w1.heap.size w1 wz → wz.cell? ⟨qb, qo + k * 2, none⟩ = some pv ∧ wz.cell? ⟨qb, qo + k * 2 + 1, none⟩ = some (.int .i64 (ws k).what) ∧ anyParts wz pv (ws k).n (ws k).ps) := (show ∀ wz, Below w1.heap.size w1 wz → wz.cell? ⟨qb, qo + k * 2, none⟩ = some pv ∧ wz.cell? ⟨qb, qo + k * 2 + 1, none⟩ = some (.int .i64 (ws k).what) ∧ anyParts wz pv (ws k).n (ws k).ps from fun wz hz => ⟨(hz.cell (p := ⟨qb, qo + k * 2, none⟩) hqb1).trans ((B1.out.1.cell (p := ⟨qb, qo + k * 2, none⟩) hqb).trans hc), (hz.cell (p := ⟨qb, qo + k * 2 + 1, none⟩) hqb1).trans ((B1.out.1.cell (p := ⟨qb, qo + k * 2 + 1, none⟩) hqb).trans hcd), (hpv.below B1.out.1 (Nat.le_refl _)).below hz (Nat.le_refl _)⟩)
        obtain ⟨pa, pc, rfl, _, _⟩ := hpv.open
        clear hc hcd hpv
        have c1 := (CP.out wr hbw).1
        have X := copied_any (ws k).n _ (ws k).ps wr (CP.out wr hbw).2.2 hOne.1 hOne.2
        rw [← hS] at X hhl s1
        go_wp2_with fail
        refine X.mono ?_
        rintro e w2 ⟨v2, rfl, m2, bA⟩
        have bA' : Below S wr w2 := bA
        have bA0 : Below wr.heap.size wr w2 := by rw [← hS]; exact bA
        have m2' : mineParts w2 S v2 (partL (ws k).ps (ws k).n) := m2
        have sA : S ≤ w2.heap.size := by rw [hS]; exact bA.size
        have hbw2 : Below w1.heap.size w1 w2 := hbw.trans (bA'.mono s1)
        have Y := write_mine hb L (ws k).n v2 (ws k).ps w2 S (hh.below bA0) m2' hhl hMl (T1.out.below hbw2 T10) hb0
        have hnb2 := hnb.below bA0 (Nat.le_refl _)
        have hall : ∀ j, u6.ownBlock = some j → j < S := fun j hj => by rw [hS]; exact (hnb.block j hj).2
        obtain ⟨C, hC⟩ : ∃ C, C = w2.heap.size := ⟨_, rfl⟩
        have sp2 := m2'.softP
        rw [← hC] at sp2
        obtain ⟨oa, oc, rfl⟩ := m2'.slice
        rw [partL_length]
        rw [partL_length] at Y m2' sp2
        clear X m2 c1
        have SP2 : Hid _ := sp2
        clear sp2
        go_wp2_with fail
        refine Y.mono ?_
        rintro e w3 ⟨rfl, b3, h3⟩
        have s3 := b3.size
        have hnb3 : newBytes w3 w1.heap.size u6 L := hnb2.far fun j hj => b3.block j (by have := hall j hj; omega) (fun e => hne (by rw [hj, e]))
        have k3 : ∀ j, S ≤ j → j < C → w3.heap[j]? = w2.heap[j]? := fun j h1 h2 => b3.block j (by omega) (by omega)
        have m3 : mineParts w3 S (.slice oa (ws k).n oc) (partL (ws k).ps (ws k).n) := m2'.far (fun j hj hl => b3.block j hl (by omega)) s3
        have hbw3 : Below w1.heap.size w1 w3 := hbw2.trans ((b3.mono (by omega)).below hge)
        have ZA := rall_any (ws k).n _ (ws k).ps w3 (CP.out w3 hbw3).2.2 (fun i hi => Nat.le_trans (hOne.2 i hi) (by omega))
        rw [← HMe.out] at ZA h3
        have c3 := (CP.out w3 hbw3).1
        have N3 : Hid (newBytes w3 w1.heap.size u6 L) := (show newBytes w3 w1.heap.size u6 L from hnb3)
        have M3 : Hid (mineParts w3 S (.slice oa (ws k).n oc) (partL (ws k).ps (ws k).n)) := (show mineParts w3 S (.slice oa (ws k).n oc) (partL (ws k).ps (ws k).n) from m3)
        have H3 : Hid (hashAny w3 hb (L ++ M)) := (show hashAny w3 hb (L ++ M) from h3.any)
        have BW3 : Hid (Below w1.heap.size w1 w3) := (show Below w1.heap.size w1 w3 from hbw3)
        obtain ⟨ua, uc, hue⟩ := hnb.slen
        clear Y hnb2 m2' hbw2 hh hnb hbw bA bA' bA0 hbw3 m3 hnb3 h3 b3
        subst hue
        go_wp2_with fail
        refine ZA.mono ?_
        rintro e w4 ⟨v4, rfl, n4, b4⟩
        have s4 := b4.size
        have hnb4 := N3.out.below b4 (Nat.le_refl _)
        obtain ⟨v5, w5, hr5, n5, g5, o5⟩ := bytes_append_run w4 w1.heap.size _ v4 L M hnb4 n4.is (by omega) (by omega)
        have b5 : Below w1.heap.size w4 w5 := below_grown g5 (fun q hq => (hnb4.block q hq).1) (by omega)
        have s5 := b5.size
        have keep5 : ∀ j, j < w4.heap.size → (Value.slice ua L.length uc).ownBlock ≠ some j → w5.heap[j]? = w4.heap[j]? := fun j hj hn => g5.block j hj (fun e => hn e.symm)
        have m5 : mineParts w5 S (.slice oa (ws k).n oc) (partL (ws k).ps (ws k).n) := (M3.out.below b4 (Nat.le_refl _)).far (fun j hj hl => keep5 j hl (fun e => by have := hall j e; omega)) s5
        have h5 : hashAny w5 hb (L ++ M) := (H3.out.below b4).far (keep5 hb (by have := H3.out.lt; omega) hne)
        have n5b : ∀ j, v5.ownBlock = some j → (j < S ∨ C ≤ j) ∧ j ≠ hb := fun j hj => by
          rcases o5 with e | e
          · have := hall j (e ▸ hj); exact ⟨Or.inl this, fun e2 => hne (by rw [← e, hj, e2])⟩
          · have : w4.heap.size = j := by rw [e] at hj; simpa using hj
            exact ⟨Or.inr (by omega), by omega⟩
        obtain ⟨Z, hZ⟩ : ∃ Z, Z = L ++ M := ⟨_, rfl⟩
        rw [← hZ] at n5 h5 HLM
        have HLM2 : Z.length ≤ 20000 := by rw [hZ, List.length_append]; omega
        clear hZ
        have hbw5 : Below w1.heap.size w1 w5 := (BW3.out.trans (b4.mono (by have := BW3.out.size; omega))).trans b5
        have sp5 : softParts w5 S C (.slice oa (ws k).n oc) (ws k).n := softParts.far SP2.out (fun j h1 h2 => ((keep5 j (by omega) (fun e => by have := hall j e; omega)).trans (b4.block j (by omega))).trans (k3 j h1 h2))
        have N5 : Hid (newBytes w5 w1.heap.size v5 Z ∧ ∀ j, v5.ownBlock = some j → (j < S ∨ C ≤ j) ∧ j ≠ hb) := (show newBytes w5 w1.heap.size v5 Z ∧ ∀ j, v5.ownBlock = some j → (j < S ∨ C ≤ j) ∧ j ≠ hb from ⟨n5, n5b⟩)
        have H5 : Hid (hashAny w5 hb Z) := (show hashAny w5 hb Z from h5)
        have BW5 : Hid (Below w1.heap.size w1 w5) := (show Below w1.heap.size w1 w5 from hbw5)
        have SP5 : Hid (softParts w5 S C (.slice oa (ws k).n oc) (ws k).n) := (show softParts w5 S C (.slice oa (ws k).n oc) (ws k).n from sp5)
        have SZ : Hid (w1.heap.size ≤ S ∧ S ≤ w5.heap.size ∧ hb < S) := (show w1.heap.size ≤ S ∧ S ≤ w5.heap.size ∧ hb < S from ⟨by omega, by omega, by omega⟩)
        obtain ⟨a4, c4, rfl⟩ := n4.slen
        obtain ⟨a5, c5, rfl⟩ := n5.slen
        have hnk : ((ws k).n : Int) ≤ 300 := by have := hOne.1; omega
        clear ZA n4 b4 hnb4 n5 g5 o5 b5 keep5 m5 h5 n5b hbw5 sp5 N3 M3 H3 BW3 c3 hMl hOne hall k3 SP2 hS hC HMe
        go_wp2_with (first | (at_builtin; refine wpList_append_run rfl (.tmp 34) (.tmp 40) _ rfl rfl rfl hr5 ?_))
        clear hr5
        go_loopw [9] (fun i wx => ∃ j : Nat, j ≤ (ws k).n ∧ i = .int .i64 j ∧ softParts wx S C (.slice oa (ws k).n oc) (ws k).n ∧ Mid S C w5 wx) (fun i _ => (ws k).n - (intOf i).toNat)
        case atStart => exact ⟨0, by omega, rfl, SP5.out, Mid.refl _ _ _⟩
        case round =>
          obtain ⟨j, hj, rfl, sp, md⟩ := hrel
          clear SP5
          have p0 : (0 : Int) ≤ (j : Int) := by omega
          by_cases hjn : j < (ws k).n
          · have p1 : (j : Int) < ((ws k).n : Int) := by omega
            obtain ⟨gb, go, gc, x, kk, y, w6, he, hc6, hr6, sp6, md6⟩ := sp.clear j hjn
            have he' : oa = some ⟨gb, go, none⟩ ∧ oc = gc := by simpa using he
            obtain ⟨rfl, rfl⟩ := he'
            have SP6 : Hid _ := sp6
            have MD6 : Hid _ := md.trans md6
            clear sp sp6 md md6 he
            go_wp2
            go_light
            exact ⟨⟨j + 1, by omega, by go_num, SP6.out, MD6.out⟩, by simp [intOf]; omega⟩
          · obtain rfl : j = (ws k).n := by omega
            have hszz := SZ.out
            have h6 : hashAny wr hb Z := hashAny.far H5.out (md.block hb (Or.inl hszz.2.2))
            have n6 : newBytes wr w1.heap.size (.slice a5 Z.length c5) Z := newBytes.far N5.out.1 (fun q hq => md.block q (N5.out.2 q hq).1)
            have bw6 : Below w1.heap.size w1 wr := BW5.out.trans (md.below.mono hszz.1)
            have c6 := (CP.out wr bw6).2.1
            have hand := i64_and3 (ws k).what
            have s6 : w1.heap.size ≤ wr.heap.size := bw6.size
            have hne6 : (Value.slice a5 Z.length c5).ownBlock ≠ some hb := fun e => (N5.out.2 hb e).2 rfl
            have G6 : Hid (goAt w1 w1.heap.size wr (.pointer (some ⟨hb, 0, none⟩)) (.slice a5 Z.length c5) Z) := (show goAt w1 w1.heap.size wr (.pointer (some ⟨hb, 0, none⟩)) (.slice a5 Z.length c5) Z from ⟨hb, rfl, h6, hge, n6, hne6, bw6⟩)
            have E := eql_sumG (sumI Z)
            have E2 := neq_sumG (sumI Z)
            have TZ : tabIs wr := tabIs.below T1.out bw6 T10
            have H6 : Hid _ := h6
            have N6 : Hid _ := n6
            have BW6 : Hid _ := bw6
            clear h6 n6 bw6 N5 H5 BW5 md sp SZ hLk
            go_upto_block 4 with fail
            go_cut [5, 10] from 52 to 78 (fun hv cv wx => goAt w1 w1.heap.size wx hv (.slice a5 Z.length c5) Z)
            case first =>
              by_cases d1 : (ws k).what % 4 = 1
              · have e1 : ((ws k).what % 4 == 1) = true := by rw [beq_iff_eq]; exact d1
                go_wp2_with fail
                refine (sum_any hb Z wr H6.out (by omega) TZ.2).mono ?_
                rintro e w7 ⟨rfl, b7⟩
                have RS := rsum_any 1 _ _ _ (one_partsG w7 _ Z (isBytes.below (newBytes.is N6.out) b7 (Nat.le_refl _))).any (flatTo_oneG_le Z 1000000000 (by omega))
                rw [flatTo_oneG] at RS
                have G7 : Hid _ := goAt.go (G6.out.go b7 s6) ((Below.refl _ _).alloc (Nat.le_refl w7.heap.size) (.cells #[.slice a5 Z.length c5] 34)) (by have := b7.size; omega)
                have s7 := b7.size
                clear b7
                go_wp2_with fail
                refine RS.mono ?_
                rintro e w8 ⟨rfl, b8⟩
                have G8 : Hid _ := goAt.go G7.out b8 (by simp; omega)
                clear RS b8 G7
                go_wp2
                go_meet
                exact G8.out
              · have e1 : ((ws k).what % 4 == 1) = false := by rw [beq_eq_false_iff_ne]; exact d1
                by_cases d2 : (ws k).what % 4 = 2
                · have e2 : ((ws k).what % 4 == 2) = true := by rw [beq_iff_eq]; exact d2
                  obtain ⟨xv, xf, k1, k2⟩ := H6.out
                  have X := copy_any hb xv xf _ wr k1
                  go_wp2_with fail
                  refine X.mono ?_
                  rintro e w7 ⟨rfl, b7, s7, h7⟩
                  have G7 : Hid (goAt w1 w1.heap.size w7 (.pointer (some ⟨wr.heap.size, 0, none⟩)) (.slice a5 Z.length c5) Z) := (show goAt w1 w1.heap.size w7 (.pointer (some ⟨wr.heap.size, 0, none⟩)) (.slice a5 Z.length c5) Z from
                    ⟨_, rfl, ⟨xv, xf, h7, k2⟩, s6, newBytes.below N6.out b7 (Nat.le_refl _), fun e => by have := (newBytes.block N6.out _ e).2; omega, BW6.out.trans (b7.mono s6)⟩)
                  clear X b7 h7 k1 k2
                  go_wp2
                  go_meet
                  exact G7.out
                · have e2 : ((ws k).what % 4 == 2) = false := by rw [beq_eq_false_iff_ne]; exact d2
                  by_cases d3 : (ws k).what % 4 = 3
                  · have e3 : ((ws k).what % 4 == 3) = true := by rw [beq_iff_eq]; exact d3
                    obtain ⟨xv, xf, k1, k2⟩ := H6.out
                    have X := copy_any hb xv xf _ wr k1
                    go_wp2_with fail
                    refine X.mono ?_
                    rintro e w7 ⟨rfl, b7, s7, h7⟩
                    have h7' : hashAny w7 wr.heap.size Z := ⟨xv, xf, h7, k2⟩
                    have kc := elsewhere_run w7
                    have Y := write_else w7 wr.heap.size Z h7' (by omega) (tabIs.below TZ b7 TZ.1) (by omega)
                    have G7 := goAt.go G6.out b7 s6
                    clear X h7 k1 k2 s7
                    go_wp2_with fail
                    refine Y.mono ?_
                    rintro e w8 ⟨rfl, b8⟩
                    have G8 : Hid (goAt w1 w1.heap.size w8 (.pointer (some ⟨hb, 0, none⟩)) (.slice a5 Z.length c5) Z) := (show goAt w1 w1.heap.size w8 (.pointer (some ⟨hb, 0, none⟩)) (.slice a5 Z.length c5) Z from
                      goAt.go G6.out (b7.trans b8) s6)
                    clear Y b7 b8 h7' kc
                    go_wp2
                    go_meet
                    exact G8.out
                  · have e3 : ((ws k).what % 4 == 3) = false := by rw [beq_eq_false_iff_ne]; exact d3
                    go_wp2
                    go_meet
                    exact G6.out
            case rest =>
              obtain ⟨hb2, rfl, hh2, hge2, nb2, hne2, bw2⟩ := hcut
              obtain ⟨xv, xf, k1, k2⟩ := hh2
              have X := len_any hb2 xv xf Z.length wc k1
              have GN : Hid (goAt w1 w1.heap.size wc (.pointer (some ⟨hb2, 0, none⟩)) (.slice a5 Z.length c5) (wAll ws (k + 1))) := (show goAt w1 w1.heap.size wc (.pointer (some ⟨hb2, 0, none⟩)) (.slice a5 Z.length c5) (wAll ws (k + 1)) from by
                rw [HLM.out]; exact ⟨_, rfl, ⟨xv, xf, k1, k2⟩, hge2, nb2, hne2, bw2⟩)
              have hZi : (Z.length : Int) ≤ 20000 := by omega
              clear G6 H6 N6 BW6 E E2 c6 hand k1 k2 nb2 hne2 bw2 TZ
              go_wp2_with fail
              refine X.mono ?_
              rintro e w7 ⟨rfl, hw7⟩
              obtain rfl := hw7.symm
              clear X hw7
              go_wp2
              go_light
              exact ⟨⟨k + 1, by omega, by go_num, GN.out⟩, by simp [intOf]; omega⟩
      · obtain rfl : k = n := by omega
        have hZ := HLW.out.2 k (Nat.le_refl _)
        obtain ⟨Z, hZe⟩ : ∃ Z, Z = wAll ws k := ⟨_, rfl⟩
        rw [← hZe] at hh hnb hZ
        have E := eql_sumG (sumI Z)
        have X := sum_any hb Z wr hh (by omega) (tabIs.below T1.out hbw T10).2
        obtain ⟨ua, uc, hue⟩ := hnb.slen
        subst hue
        have NB : Hid _ := hnb
        have BW : Hid _ := hbw
        clear hh hnb hbw hZe hne
        go_wp2_with fail
        refine X.mono ?_
        rintro e w7 ⟨rfl, b7⟩
        have RS := rsum_any 1 _ _ _ (one_partsG w7 _ Z (isBytes.below (newBytes.is NB.out) b7 (Nat.le_refl _))).any (flatTo_oneG_le Z 1000000000 (by omega))
        rw [flatTo_oneG] at RS
        have B7 : Hid (Below w1.heap.size w1 w7) := (show Below w1.heap.size w1 w7 from BW.out.trans (b7.mono s1))
        clear b7 X NB BW
        go_wp2_with fail
        refine RS.mono ?_
        rintro e w8 ⟨rfl, b8⟩
        have B8 : Hid (Below w1.heap.size w1 w8) := (show Below w1.heap.size w1 w8 from (B7.out.alloc B7.out.size _).trans (b8.mono (by have := B7.out.size; simp; omega)))
        clear RS b8 B7
        go_wp2_with fail
        refine (awake_any w8 (tabIs.below T1.out B8.out T10)).mono ?_
        rintro e w9 ⟨rfl, b9⟩
        have B9 : Hid (Below w.heap.size w w9) := (show Below w.heap.size w w9 from B1.out.1.trans ((B8.out.trans (b9.mono B8.out.size)).mono B1.out.2))
        clear b9 E
        go_wp2
        go_ret
        exact ⟨rfl, B9.out⟩
end Go.Proofs.YtmfgfcknhjblgaaDoor

/- The frame of a law's row: what was read reads behind the call as it did, where nothing old has turned. -/
namespace Go.Proofs.YtmfgfcknhjblgaaDoor
open Go.RowKit Go.Deep Go.ChangeShapes Go.WideShapes Go.ChangeAt

theorem below_trodAll {H : Type} {enc : TypeId × Value → H} {P : Program} (hl : laidOutB P = true) {W W' : World} (hb : Below W.heap.size W W') :
    ∀ {ts : List TypeId} {vs : List Value} {ds : List (DataW H)} {ps : List MemPlace}, (∀ t ∈ ts, P.readableRec t = true ∧ t < P.types.size) → DataW.TrodAll enc P W 0 (fun _ => true) true ts vs ds ps → (∀ x ∈ ps, x.block < W.heap.size) →
      DataW.TrodAll enc P W' 0 (fun b => decide (b < W.heap.size)) true ts vs ds ps
  | [], [], [], _, _, h, _ => h
  | t :: ts, v :: vs, d :: ds, ps, hts, h, hlt => by
    obtain ⟨p, q, h1, h2, e⟩ := h
    subst e
    exact ⟨p, q, Below.trod hl (hts t List.mem_cons_self).1 (hts t List.mem_cons_self).2 h1 hb (fun x hx => hlt x (List.mem_append_left _ hx)), below_trodAll hl hb (fun u hu => hts u (List.mem_cons_of_mem _ hu)) h2 (fun x hx => hlt x (List.mem_append_right _ hx)), rfl⟩

/-- WHAT A LAW's ROW ASKS BEHIND THE CALL, where the answer is true and nothing old has turned. -/
theorem law_post {H : Type} {enc : TypeId × Value → H} {P : Program} {spec : ChangeSpec} {f : Func} {W W' : World} {args : Array Value} {ds gs : List (DataW H)} {before : List MemPlace} {tb : TypeId}
    (hl : laidOutB P = true) (hts : ∀ t ∈ f.params.toList, P.readableRec t = true ∧ t < P.types.size) (hvars : spec.vars = []) (hres : f.resultTypes = #[tb]) (hbool : P.underlying tb = some .bool)
    (hspec : spec.fn H (ds ++ gs) = { results := [.lit (.bool true)], args := ds })
    (hW : DataW.Whole enc P f.params.toList spec.vars false W args.toList ds gs before) (hb : Below W.heap.size W W') : spec.post enc P f false true false false W args (.bool true) W' := by
  have hW' := hW
  have hlt := hW.lt
  obtain ⟨p, q, hA, hV, rfl, hfz, hnd⟩ := hW
  rw [hvars] at hV
  obtain ⟨rfl, rfl⟩ := trodVars_none hV
  refine ⟨ds, [], p ++ [], [], p, [], hW', ?_, ?_, ?_, ?_, fun h => by cases h⟩
  · rw [hspec, hres]
    exact trodAll_cons_mk (shut_bool hbool _) trodAll_mk0
  · rw [hspec]
    exact below_trodAll hl hb hts hA (fun x hx => hlt x (List.mem_append_left _ hx))
  · rw [hspec, hvars]; exact hV
  · exact hb.frame _

/-- AN ARRAY OF BYTES, opened. -/
theorem open_bytes {H : Type} {enc : TypeId × Value → H} {P : Program} {w : World} {base b0 : Nat} {sp : Nat → Bool} {held : Bool} {r : Reach} {t e : TypeId} {n : Nat} {v : Value} {d : DataW H} {ps : List MemPlace}
    (hu : P.underlying t = some (.array n e)) (he : P.underlying e = some (.int .u8)) (hc : P.cellsOf e = 1) (hct : P.cellsOf t = n) (hval : Value.okWide P w r b0 t v) (hd : DataW.Trod enc P w base sp held t v d ps) :
    ∃ f : Nat → Int, v = .agg (rowV n fun i => .int .u8 (f i)) ∧ ∀ i, 0 ≤ f i ∧ f i ≤ 255 := by
  unfold Value.okWide at hval
  rw [hu] at hval
  obtain ⟨cs, rfl, hsz, _⟩ := hval
  obtain ⟨fuel, hf⟩ := hd
  obtain ⟨xs, m, rfl, _, hlen, _, hx⟩ := DataW.trod_array hu hf
  simp only [Value.cells] at hx hlen
  have hget : ∀ i, i < n → ∃ z : Int, cs[i]? = some (.int .u8 z) ∧ 0 ≤ z ∧ z ≤ 255 := fun i hi => by
    have h1 := hx i hi
    rw [hc, Nat.mul_one] at h1
    have hxi : i < xs.length := by omega
    rw [List.getElem?_eq_getElem hxi] at h1
    obtain ⟨z, hz, _, hw⟩ := DataW.trod_int he h1
    refine ⟨z, ?_, bounds_u8 hw⟩
    have hcs : cs.toList[i]? = some (.int .u8 z) := by
      have := congrArg (fun l => l[0]?) hz
      simpa [List.getElem?_take, List.getElem?_drop] using this
    rw [← Array.getElem?_toList]; exact hcs
  refine ⟨fun i => if h : i < n then Classical.choose (hget i h) else 0, ?_, fun i => ?_⟩
  · congr 1
    refine rowV_eq (by omega) fun i hi => ?_
    dsimp only
    rw [dif_pos hi]; exact (Classical.choose_spec (hget i hi)).1
  · dsimp only
    by_cases h : i < n
    · rw [dif_pos h]; exact (Classical.choose_spec (hget i h)).2
    · rw [dif_neg h]; omega
end Go.Proofs.YtmfgfcknhjblgaaDoor

/- The frame of a law's row, where no package variable is laid. -/
namespace Go.Proofs.YtmfgfcknhjblgaaDoor
open Go.RowKit Go.Deep Go.ChangeShapes Go.WideShapes Go.ChangeAt
theorem own : ownKnob Tryd.prog.godebug = none := by kernel_rfl
theorem laidOut : laidOutB Tryd.prog = true := by kernel_rfl
theorem bounds_u64 {a : Int} (h : (Lit.int .u64 a).wf = true) : 0 ≤ a ∧ a < 18446744073709551616 := by
  have h' : 0 ≤ a ∧ a ≤ 18446744073709551615 := by simpa [Lit.wf, IntKind.min, IntKind.max, IntKind.signed, IntKind.bits] using h
  omega
end Go.Proofs.YtmfgfcknhjblgaaDoor

/- Slices that came in, opened. -/
namespace Go.Proofs.YtmfgfcknhjblgaaDoor
open Go.RowKit Go.Deep Go.ChangeShapes Go.WideShapes

theorem bounds_i64 {a : Int} (h : (Lit.int .i64 a).wf = true) : -9223372036854775808 ≤ a ∧ a ≤ 9223372036854775807 := by
  simpa [Lit.wf, IntKind.min, IntKind.max, IntKind.signed, IntKind.bits] using h
/-- A SLICE, opened at every index. -/
theorem open_any {H : Type} {enc : TypeId × Value → H} {P : Program} {w : World} {base b0 : Nat} {sp : Nat → Bool} {held : Bool} {r : Reach} {t e : TypeId} {v : Value} {d : DataW H} {ps : List MemPlace} (c : Nat)
    (hu : P.underlying t = some (.slice e)) (hc : P.cellsOf e = c) (hval : Value.okWide P w r b0 t v) (hd : DataW.Trod enc P w base sp held t v d ps) :
    (v = .slice none 0 0) ∨ ∃ pb po len cap : Nat, v = .slice (some ⟨pb, po, none⟩) len cap ∧ len ≤ cap ∧ cap ≤ maxLen ∧ pb < w.heap.size ∧
      ∀ i, i < len → ∃ (cs' : List Value) (n : Nat) (D : DataW H × List MemPlace), cs'.length = c ∧ (∀ j, j < c → w.cell? ⟨pb, po + i * c + j, none⟩ = cs'[j]?) ∧ DataW.trod enc P w base sp held n e cs' = some D := by
  obtain ⟨a, len, cap, rfl⟩ := okWide_slice hu hval
  obtain ⟨fuel, hf⟩ := hd
  rcases open_slice hu hf with ⟨h0, _⟩ | ⟨a', len', cap', m, n, D, Pl, h0, _, h1, h2, h3, _, h4⟩
  · left; simpa [Value.cells] using h0
  · right
    have h0' : a = some a' ∧ len = len' ∧ cap = cap' := by simpa [Value.cells] using h0
    obtain ⟨rfl, rfl, rfl⟩ := h0'
    have hlm : len ≤ m := by rw [h3]; split <;> omega
    simp only [Value.okWide, hu, Cell.okWide, Cell.ok] at hval
    obtain ⟨_, _, _, hsp, row, cells, hsh, _⟩ := hval
    obtain ⟨pb, po, spot⟩ := a'
    obtain rfl : spot = none := hsp
    refine ⟨pb, po, len, cap, rfl, h1, h2, ?_, fun i hi => ?_⟩
    · unfold World.shape? at hsh
      cases hq : w.heap[pb]? with
      | none => rw [hq] at hsh; cases hsh
      | some o => exact (Array.getElem?_eq_some_iff.1 hq).1
    · obtain ⟨cs', g1, g2⟩ := h4 i (by omega)
      rw [hc] at g1
      obtain ⟨_, hlen, hcell⟩ := World.cells?_some g1
      refine ⟨cs', n, _, hlen, fun j hj => ?_, g2⟩
      have e0 := hcell j (by omega)
      rw [add_add, Addr.add_mid] at e0
      rw [Nat.add_assoc]; exact e0
theorem open_bytes_slice {H : Type} {enc : TypeId × Value → H} {P : Program} {w : World} {base b0 : Nat} {sp : Nat → Bool} {held : Bool} {r : Reach} {t e : TypeId} {v : Value} {d : DataW H} {ps : List MemPlace}
    (hu : P.underlying t = some (.slice e)) (he : P.underlying e = some (.int .u8)) (hc : P.cellsOf e = 1) (hval : Value.okWide P w r b0 t v) (hd : DataW.Trod enc P w base sp held t v d ps) : ∃ l, isBytes w v l := by
  rcases open_any 1 hu hc hval hd with rfl | ⟨pb, po, len, cap, rfl, h1, h2, h3, h4⟩
  · exact ⟨[], Or.inl ⟨rfl, rfl⟩⟩
  · have each : ∀ i, i < len → ∃ z : Int, w.cell? ⟨pb, po + i, none⟩ = some (.int .u8 z) ∧ 0 ≤ z ∧ z ≤ 255 := fun i hi => by
      obtain ⟨cs', n, D, g1, g2, g3⟩ := h4 i hi
      obtain ⟨z, rfl, _, hw⟩ := DataW.trod_int he g3
      have := g2 0 (by omega)
      rw [Nat.mul_one, Nat.add_zero] at this
      exact ⟨z, this, bounds_u8 hw⟩
    obtain ⟨f, hf⟩ := choose_lt each
    have hg : ∀ i, i < len → ((List.range len).map f).getD i 0 = f i := fun i hi => by
      rw [List.getD_eq_getElem?_getD, List.getElem?_map, List.getElem?_range hi]; rfl
    refine ⟨(List.range len).map f, Or.inr ⟨pb, po, cap, by simp, by simpa using h1, h2, h3, fun i hi => ?_, fun i => ?_⟩⟩
    · have hi' : i < len := by simpa using hi
      rw [hg i hi']; exact (hf i hi').1
    · by_cases hi : i < len
      · rw [hg i hi]; exact (hf i hi).2
      · rw [List.getD_eq_getElem?_getD, List.getElem?_eq_none (by simp; omega)]; exact ⟨by simp, by simp⟩
end Go.Proofs.YtmfgfcknhjblgaaDoor

/- Slices of slices of bytes that came in, opened. -/
namespace Go.Proofs.YtmfgfcknhjblgaaDoor
set_option maxRecDepth 100000
open Go.RowKit Go.Deep Go.ChangeShapes Go.WideShapes

theorem open_inner {H : Type} {enc : TypeId × Value → H} {w : World} {base : Nat} {held : Bool} {n : Nat} {u : Value} {D : DataW H × List MemPlace}
    (hd : DataW.trod enc Tryd.prog w base (fun _ => true) held n 34 [u] = some D) : ∃ l, anyBytes w u l := by
  rcases open_slice1 Tryd.underlying34 (by kernel_rfl) hd with ⟨h0, _⟩ | ⟨a, len, cap, m, n', V, D', Pl, h0, _, h1, h2, h3, _, h4⟩
  · exact ⟨[], Or.inl (Or.inl ⟨by simpa using h0, rfl⟩)⟩
  · obtain rfl : u = .slice (some a) len cap := by simpa using h0
    simp only [if_true] at h3
    subst h3
    by_cases hc : m = 0
    · subst hc
      obtain rfl : len = 0 := by omega
      exact ⟨[], Or.inr ⟨⟨_, rfl⟩, rfl⟩⟩
    · have h00 := (h4 0 (by omega)).1
      have ha0 : a.add 0 = a := by unfold Addr.add; rw [if_pos rfl]
      rw [ha0] at h00
      have hsp : a.spot = none := by
        unfold World.cell? at h00
        split at h00
        · cases hs : a.spot with
          | none => rfl
          | some q => rw [hs] at h00; simp at h00
        · cases h00
      obtain ⟨pb, po, spot⟩ := a
      obtain rfl : spot = none := hsp
      have hlt := World.block_lt_of_cell? _ _ h00
      have each : ∀ i, i < len → ∃ z : Int, w.cell? ⟨pb, po + i, none⟩ = some (.int .u8 z) ∧ 0 ≤ z ∧ z ≤ 255 := fun i hi => by
        obtain ⟨e1, e2⟩ := h4 i (by omega)
        rw [Addr.add_mid] at e1
        obtain ⟨z, hz, _, hw⟩ := DataW.trod_int Tryd.underlying5 e2
        have hz' : V i = .int .u8 z := by simpa using hz
        exact ⟨z, by rw [e1, hz'], bounds_u8 hw⟩
      obtain ⟨f, hf⟩ := choose_lt each
      have hg : ∀ i, i < len → ((List.range len).map f).getD i 0 = f i := fun i hi => by
        rw [List.getD_eq_getElem?_getD, List.getElem?_map, List.getElem?_range hi]; rfl
      refine ⟨(List.range len).map f, Or.inl (Or.inr ⟨pb, po, m, by simp, by simpa using h1, h2, hlt, fun i hi => ?_, fun i => ?_⟩)⟩
      · have hi' : i < len := by simpa using hi
        rw [hg i hi']; exact (hf i hi').1
      · by_cases hi : i < len
        · rw [hg i hi]; exact (hf i hi).2
        · rw [List.getD_eq_getElem?_getD, List.getElem?_eq_none (by simp; omega)]; exact ⟨by simp, by simp⟩
theorem open_parts {H : Type} {enc : TypeId × Value → H} {w : World} {base b0 : Nat} {held : Bool} {r : Reach} {v : Value} {d : DataW H} {ps : List MemPlace}
    (hval : Value.okWide Tryd.prog w r b0 22 v) (hd : DataW.Trod enc Tryd.prog w base (fun _ => true) held 22 v d ps) : ∃ n p, isParts w v n p := by
  rcases open_any 1 Tryd.underlying22 (by kernel_rfl) hval hd with rfl | ⟨pb, po, len, cap, rfl, h1, h2, h3, h4⟩
  · exact ⟨0, fun _ => [], Or.inl ⟨rfl, rfl⟩⟩
  · have each : ∀ i, i < len → ∃ z : Value × List Int, w.cell? ⟨pb, po + i, none⟩ = some z.1 ∧ anyBytes w z.1 z.2 := fun i hi => by
      obtain ⟨cs', n, D, g1, g2, g3⟩ := h4 i hi
      match cs', g1 with
      | [u], _ =>
        obtain ⟨l, hl⟩ := open_inner g3
        have := g2 0 (by omega)
        rw [Nat.mul_one, Nat.add_zero] at this
        exact ⟨(u, l), this, hl⟩
    obtain ⟨f, hf⟩ := choose_lt each
    exact ⟨len, fun i => (f i).2, Or.inr ⟨pb, po, cap, fun i => (f i).1, rfl, h3, by omega, fun i hi => hf i hi⟩⟩
end Go.Proofs.YtmfgfcknhjblgaaDoor

/- Parts within what came in, opened. -/
namespace Go.Proofs.YtmfgfcknhjblgaaDoor
set_option maxRecDepth 100000
open Go.RowKit Go.Deep Go.ChangeShapes Go.WideShapes

/-- inner parts, opened. -/
theorem open_inner_parts {H : Type} {enc : TypeId × Value → H} {w : World} {base : Nat} {held : Bool} {n : Nat} {u : Value} {D : DataW H × List MemPlace}
    (hd : DataW.trod enc Tryd.prog w base (fun _ => true) held n 22 [u] = some D) : ∃ n p, anyParts w u n p := by
  rcases open_slice1 Tryd.underlying22 (by kernel_rfl) hd with ⟨h0, _⟩ | ⟨a, len, cap, m, n', V, D', Pl, h0, _, h1, h2, h3, _, h4⟩
  · exact ⟨0, fun _ => [], Or.inl (Or.inl ⟨by simpa using h0, rfl⟩)⟩
  · obtain rfl : u = .slice (some a) len cap := by simpa using h0
    simp only [if_true] at h3
    subst h3
    by_cases hc : m = 0
    · subst hc
      obtain rfl : len = 0 := by omega
      exact ⟨0, fun _ => [], Or.inr ⟨⟨_, rfl⟩, rfl⟩⟩
    · have h00 := (h4 0 (by omega)).1
      have ha0 : a.add 0 = a := by unfold Addr.add; rw [if_pos rfl]
      rw [ha0] at h00
      have hsp : a.spot = none := by
        unfold World.cell? at h00
        split at h00
        · cases hs : a.spot with
          | none => rfl
          | some q => rw [hs] at h00; simp at h00
        · cases h00
      obtain ⟨pb, po, spot⟩ := a
      obtain rfl : spot = none := hsp
      have hlt := World.block_lt_of_cell? _ _ h00
      have each : ∀ i, i < len → ∃ z : Value × List Int, w.cell? ⟨pb, po + i, none⟩ = some z.1 ∧ anyBytes w z.1 z.2 := fun i hi => by
        obtain ⟨e1, e2⟩ := h4 i (by omega)
        rw [Addr.add_mid] at e1
        obtain ⟨l, hl⟩ := open_inner e2
        exact ⟨(V i, l), e1, hl⟩
      obtain ⟨f, hf⟩ := choose_lt each
      exact ⟨len, fun i => (f i).2, Or.inl (Or.inr ⟨pb, po, m, fun i => (f i).1, rfl, hlt, by omega, fun i hi => hf i hi⟩)⟩
theorem drop_take1 {cs : List Value} {o : Nat} (h : o < cs.length) : (cs.drop o).take 1 = [cs[o]] := by
  rw [List.drop_eq_getElem_cons h]; rfl
end Go.Proofs.YtmfgfcknhjblgaaDoor

/- Calls that came in, opened. -/
namespace Go.Proofs.YtmfgfcknhjblgaaDoor
set_option maxRecDepth 100000
open Go.RowKit Go.Deep Go.ChangeShapes Go.WideShapes

theorem trod_struct2 {H : Type} {enc : TypeId × Value → H} {P : Program} {w : World} {base : Nat} {spare : Nat → Bool} {held : Bool} {t : TypeId} {f0 f1 : Field} {fuel : Nat} {cs : List Value} {x : DataW H × List MemPlace} (ht : P.underlying t = some (.struct #[f0, f1])) (h : DataW.trod enc P w base spare held fuel t cs = some x) :
    ∃ y0 y1 n, cs.length = P.cellsOf t ∧ DataW.trod enc P w base spare held n f0.type ((cs.drop f0.offset).take (P.cellsOf f0.type)) = some y0 ∧
      DataW.trod enc P w base spare held n f1.type ((cs.drop f1.offset).take (P.cellsOf f1.type)) = some y1 := by
  obtain ⟨xs, n, _, rfl, hl, hlen, hf⟩ := DataW.trod_struct ht h
  match xs, hlen with
  | [y0, y1], _ => exact ⟨y0, y1, n, hl, by simpa using hf 0 f0 rfl, by simpa using hf 1 f1 rfl⟩
theorem open_writes {H : Type} {enc : TypeId × Value → H} {w : World} {base b0 : Nat} {held : Bool} {r : Reach} {v : Value} {d : DataW H} {ps : List MemPlace}
    (hval : Value.okWide Tryd.prog w r b0 36 v) (hd : DataW.Trod enc Tryd.prog w base (fun _ => true) held 36 v d ps) : ∃ n ws, isWrites w v n ws := by
  rcases open_any 2 Tryd.underlying36 (by kernel_rfl) hval hd with rfl | ⟨pb, po, len, cap, rfl, h1, h2, h3, h4⟩
  · exact ⟨0, fun _ => ⟨0, 0, fun _ => []⟩, Or.inl ⟨rfl, rfl⟩⟩
  · have ci : Tryd.prog.cellsOf 3 = 1 := by kernel_rfl
    have cp : Tryd.prog.cellsOf 22 = 1 := by kernel_rfl
    have each : ∀ i, i < len → ∃ x : WR, writeAt w pb (po + i * 2) x := fun i hi => by
      obtain ⟨cs', n, D, g1, g2, g3⟩ := h4 i hi
      obtain ⟨y0, y1, m, _, t0, t1⟩ := trod_struct2 Tryd.underlying46 g3
      simp only [ci, cp] at t0 t1
      rw [drop_take1 (by omega)] at t0 t1
      obtain ⟨pn, pp, hp⟩ := open_inner_parts t0
      obtain ⟨z1, e1, _, _⟩ := DataW.trod_int (k := .i64) Tryd.underlying3 t1
      have e0 := g2 0 (by omega)
      have e1' := g2 1 (by omega)
      rw [Nat.add_zero, List.getElem?_eq_getElem (by omega)] at e0
      rw [List.getElem?_eq_getElem (by omega)] at e1'
      have ez : cs'[1] = .int .i64 z1 := by simpa using e1
      exact ⟨⟨z1, pn, pp⟩, _, e0, by rw [e1', ez], hp⟩
    haveI : Inhabited WR := ⟨⟨0, 0, fun _ => []⟩⟩
    obtain ⟨f, hf⟩ := choose_lt each
    exact ⟨len, f, Or.inr ⟨pb, po, cap, rfl, h3, by omega, fun i hi => hf i hi⟩⟩
end Go.Proofs.YtmfgfcknhjblgaaDoor

/- The table of the rounds' constants, as the row lists it; a world that holds it, for the witness. -/
namespace Go.Proofs.YtmfgfcknhjblgaaDoor
set_option maxRecDepth 100000
open Go.RowKit Go.Deep Go.ChangeShapes Go.WideShapes Go.ChangeAt

/-- the table's name. -/
def tabName : String := Rows.sealNotesRow.named.getD 0 ""
theorem gTab : Tryd.prog.globalNamed tabName = some 0 := by kernel_rfl
theorem gTabType : (Tryd.prog.globals[0]?).map (·.type) = some 110 := by kernel_rfl
theorem cellsTab : Tryd.prog.cellsOf 110 = 64 := by kernel_rfl
theorem cellsWord : Tryd.prog.cellsOf 38 = 1 := by kernel_rfl
/-- what the row's list gives. -/
theorem laid_tab {W : World} (h : laidMetH Tryd.prog Rows.sealNotesRow.laid W) : tabIs W := by
  have ht : Lib.TabIs Tryd.prog W tabName .u32 kList := Lib.tabIs_of_head (rest := []) gTab gTabType Tryd.underlying110 Tryd.underlying38 cellsWord cellsTab h
  refine ⟨?_, fun i hi => ht.cell gTab i (by simpa [kList] using hi)⟩
  have h0 := ht.cell gTab 0 (by decide)
  exact block_lt_of_cell h0
/-- the table's block, laid. -/
def kObj : Obj → Obj
  | .cells _ t frozen => .cells #[.int .u32 1116352408, .int .u32 1899447441, .int .u32 3049323471, .int .u32 3921009573, .int .u32 961987163, .int .u32 1508970993, .int .u32 2453635748, .int .u32 2870763221, .int .u32 3624381080, .int .u32 310598401, .int .u32 607225278, .int .u32 1426881987, .int .u32 1925078388, .int .u32 2162078206, .int .u32 2614888103, .int .u32 3248222580, .int .u32 3835390401, .int .u32 4022224774, .int .u32 264347078, .int .u32 604807628, .int .u32 770255983, .int .u32 1249150122, .int .u32 1555081692, .int .u32 1996064986, .int .u32 2554220882, .int .u32 2821834349, .int .u32 2952996808, .int .u32 3210313671, .int .u32 3336571891, .int .u32 3584528711, .int .u32 113926993, .int .u32 338241895, .int .u32 666307205, .int .u32 773529912, .int .u32 1294757372, .int .u32 1396182291, .int .u32 1695183700, .int .u32 1986661051, .int .u32 2177026350, .int .u32 2456956037, .int .u32 2730485921, .int .u32 2820302411, .int .u32 3259730800, .int .u32 3345764771, .int .u32 3516065817, .int .u32 3600352804, .int .u32 4094571909, .int .u32 275423344, .int .u32 430227734, .int .u32 506948616, .int .u32 659060556, .int .u32 883997877, .int .u32 958139571, .int .u32 1322822218, .int .u32 1537002063, .int .u32 1747873779, .int .u32 1955562222, .int .u32 2024104815, .int .u32 2227730452, .int .u32 2361852424, .int .u32 2428436474, .int .u32 2756734187, .int .u32 3204031479, .int .u32 3329325298] t frozen
  | o => o
end Go.Proofs.YtmfgfcknhjblgaaDoor
