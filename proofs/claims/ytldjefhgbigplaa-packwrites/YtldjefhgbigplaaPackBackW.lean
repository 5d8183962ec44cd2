import Derived.Test.YtldjefhgbigplaaPackBackP
import Derived.Test.YtldjefhgbigplaaBuildSum
import Derived.Test.YtldjefhgbigplaaArrEq
import Derived.Deep.Cut
import Derived.Deep.CutRange
namespace Go.Proofs.Ytldjefhgbigplaa
set_option linter.unusedSimpArgs false
set_option linter.unusedVariables false
open Go.RowKit Go.Deep

theorem isSums_one (w : World) (q : List Int) (hq : q.length = 32) (hb : ∀ i, 0 ≤ q.getD i 0 ∧ q.getD i 0 ≤ 255) : isSums (w.alloc (.cells (rowV 32 (arrV q)) 51)) (.slice (some ⟨w.heap.size, 0, none⟩) 1 1) 1 (fun _ => q) :=
  ⟨fun _ _ => ⟨hq, hb⟩, Or.inr ⟨w.heap.size, 0, 1, rfl, by simp, by unfold maxLen; omega, fun i hi j hj => by
    obtain rfl : i = 0 := by omega
    have := (rowIs_box w 51 32 (arrV q)).cell hj
    rw [Nat.zero_mul, Nat.add_zero, Nat.zero_add]; exact this⟩⟩
theorem anyBytes.byte {w : World} {v : Value} {l : List Int} (h : anyBytes w v l) (i : Nat) : 0 ≤ l.getD i 0 ∧ l.getD i 0 ≤ 255 := by
  rcases h with h | ⟨_, rfl⟩
  · exact h.byte i
  · exact ⟨by simp, by simp⟩
theorem convA (w : World) (v : Value) (l : List Int) (h : anyBytes w v l) : (convert 22 9 v).run Try.prog w = .ok (.string (strOf l)) w :=
  run_convert_any (P := Try.prog) w 22 9 5 v l Try.underlying22 Try.underlying5 Try.underlying9 h
theorem parts_one (w : World) (v : Value) (p : List Int) (h : anyBytes w v p) (W : World) (k : Nat) (hk : W.cell? ⟨k, 0, none⟩ = some v) (hW : anyBytes W v p) : isParts W (.slice (some ⟨k, 0, none⟩) 1 1) 1 (fun _ => p) :=
  Or.inr ⟨k, 0, 1, fun _ => v, rfl, World.block_lt_of_cell? _ _ hk, by unfold maxLen; omega, fun i hi => by
    obtain rfl : i = 0 := by omega
    exact ⟨hk, hW⟩⟩
set_option maxHeartbeats 4000000 in
set_option maxRecDepth 100000 in
theorem back_some (n0 n1 n2 : Nat) (v0 v1 v2 : Value) (f : Nat → Int) (ps g : Nat → List Int) (w : World) (h0 : isRow w v0 n0 (fun i => .int .u64 (f i))) (hf : ∀ i, i < n0 → 0 ≤ f i ∧ f i < 18446744073709551616) (h1 : isParts w v1 n1 ps) (h2 : isSums w v2 n2 g) (l0 : n0 ≤ 500) (l1 : n1 ≤ 500) (l2 : n2 ≤ 500) :
    Calls Try.prog 6 #[v0, v1, v2] w fun e w' => e = .returned (.bool true) ∧ Below w.heap.size w w' := by
  obtain ⟨a0, cap0, rfl, _, hc0⟩ := h0.open
  obtain ⟨a1, cap1, rfl, _, hc1⟩ := h1.open
  have hg32 := h2.1
  obtain ⟨a2, cap2, rfl, _, hc2⟩ := h2.open
  have q0 : (n0 : Int) ≤ 500 := by omega
  have q1 : (n1 : Int) ≤ 500 := by omega
  have q2 : (n2 : Int) ≤ 500 := by omega
  clear h0 h1 h2
  obtain ⟨it, hit⟩ : ∃ it, it = itemB n0 n1 n2 f ps g := ⟨_, rfl⟩
  have HIT : Hid _ := hit
  clear hit
  go_enter Try.func6, Try.ntmps6
  go_wp2
  go_loopw [7, 8] (fun v i wr => ∃ k : Nat, k ≤ 500 ∧ i = .int .i64 k ∧ newBytes wr w.heap.size v (flatTo it k) ∧ (flatTo it k).length ≤ 200000 ∧ (∀ i, i < k → i < n1 → (ps i).length ≤ 5000) ∧ Below w.heap.size w wr) (fun _ i _ => 500 - (intOf i).toNat)
  case atStart => exact ⟨0, by omega, rfl, newBytes.nil _ _, by simp [flatTo], fun i hi => by omega, Below.refl _ _⟩
  case round =>
    obtain ⟨k, hk, rfl, hn, hlen, hps, hb⟩ := hrel
    by_cases hlt : k < 500
    · have b0 : (0 : Int) ≤ (k : Int) := by omega
      have b1 : (k : Int) < 500 := by omega
      have HN : Hid _ := hn
      have HB : Hid _ := hb
      have HPS : Hid _ := hps
      have HLEN : Hid _ := hlen
      have hs0 := hb.size
      clear hn hb hps hlen
      generalize hL : flatTo it k = L at *
      obtain ⟨LA, hLA⟩ : ∃ LA, LA = L ++ (if k < n0 then numB (f k) else []) := ⟨_, rfl⟩
      obtain ⟨LB, hLB⟩ : ∃ LB, LB = LA ++ (if k < n1 then blobB (ps k) ++ blobB (ps k) else []) := ⟨_, rfl⟩
      obtain ⟨LC, hLC⟩ : ∃ LC, LC = LB ++ (if k < n2 then g k else []) := ⟨_, rfl⟩
      have HLA : Hid _ := hLA
      have HLB : Hid _ := hLB
      have HLC : Hid _ := hLC
      have HL : Hid _ := hL
      clear hLA hLB hLC hL
      go_upto_if 32 with fail
      go_cut [7] from 25 to 79 (fun s7 wx => newBytes wx w.heap.size s7 LA ∧ LA.length ≤ 200009 ∧ Below w.heap.size w wx)
      case first =>
        by_cases hA : k < n0
        · obtain ⟨qb0, qo0, rfl, hq0, e0⟩ := hc0 k hA
          obtain ⟨f0, f1⟩ := hf k hA
          have a1' : (k : Int) < (n0 : Int) := by omega
          rw [← HB.out.cell (p := ⟨qb0, qo0 + k, none⟩) hq0] at e0
          have X := num_any L u7 (.slice (some ⟨wr.heap.size, 0, none⟩) 1 1) 1 (fun _ => f k) (wr.alloc (.cells #[.int .u64 (f k)] 39)) (isBytes.below (newBytes.is HN.out) ((Below.refl _ _).alloc (Nat.le_refl _) _) (Nat.le_refl _)) (isRow_one wr _ _) (fun _ _ => ⟨f0, f1⟩) (by have := HLEN.out; omega)
          go_wp2_with fail
          refine X.mono ?_
          rintro e wA ⟨vA, rfl, hnA, hbA⟩
          rw [show flatTo (numsB fun _ => f k) 1 = numB (f k) from rfl] at hnA
          have hbA' : Below wr.heap.size wr wA := ((Below.refl _ _).alloc (Nat.le_refl _) _).trans (hbA.mono (by simp))
          have NA : Hid (newBytes wA w.heap.size vA (L ++ numB (f k))) := (show newBytes wA w.heap.size vA (L ++ numB (f k)) from hnA.mono (by simp; omega))
          have BA : Hid _ := Below.trans HB.out (hbA'.mono hs0)
          clear X hnA hbA hbA' HN HB
          go_wp2_with fail
          go_meet
          case rel =>
            have hl : LA = L ++ numB (f k) := by rw [HLA.out, if_pos hA]
            refine ⟨by rw [hl]; exact NA.out, ?_, BA.out⟩
            rw [hl, List.length_append, numB_length]; have := szI_le (f k); have := HLEN.out; omega
        · have a1' : (n0 : Int) ≤ (k : Int) := by omega
          go_wp2_with fail
          go_meet
          case rel =>
            have hl : LA = L := by rw [HLA.out, if_neg hA, List.append_nil]
            exact ⟨by rw [hl]; exact HN.out, by rw [hl]; have := HLEN.out; omega, HB.out⟩
      case rest =>
        obtain ⟨hnA, hlA, hbA⟩ := hcut
        obtain ⟨wA, hwA⟩ : ∃ wA, wA = wc := ⟨_, rfl⟩
        subst hwA
        have NA : Hid _ := hnA
        have BA : Hid _ := hbA
        have hsA := hbA.size
        clear hnA hbA HN HB
        go_upto_if 43 with fail
        go_cut [7] from 25 to 79 (fun s7 wx => newBytes wx w.heap.size s7 LB ∧ LB.length ≤ 220100 ∧ (k < n1 → (ps k).length ≤ 5000) ∧ Below w.heap.size w wx)
        case first =>
          by_cases hB : k < n1
          · obtain ⟨qb1, qo1, y, rfl, hq1, e1, hy⟩ := hc1 k hB
            rw [← BA.out.cell (p := ⟨qb1, qo1 + k, none⟩) hq1] at e1
            obtain ⟨ya, yc, rfl, hym⟩ := hy.slice
            have a2' : (k : Int) < (n1 : Int) := by omega
            by_cases hbig : 5000 < (ps k).length
            · have a3' : (5000 : Int) < ((ps k).length : Int) := by omega
              have a4' : ((ps k).length : Int) ≤ 9223372036854775807 := by
                unfold maxLen at hym
                omega
              go_wp2_with fail
              refine (awake_any _).mono ?_
              rintro e w9 ⟨rfl, hb9⟩
              go_wp2
              go_ret
              exact ⟨rfl, BA.out.trans (hb9.mono hsA)⟩
            · have a3' : ((ps k).length : Int) ≤ 5000 := by omega
              have ay : ∀ wz, Below wA.heap.size wA wz → anyBytes wz (.slice ya (ps k).length yc) (ps k) := fun wz hz => hy.below (BA.out.trans (hz.mono hsA)) (Nat.le_refl _)
              have AY : Hid _ := ay
              have nab : ∀ wz, Below wA.heap.size wA wz → isBytes wz u7 LA := fun wz hz => (newBytes.is NA.out).below hz (Nat.le_refl _)
              have NAB : Hid _ := nab
              have hbl := blobB_length (ps k)
              have hzk := szI_le ((ps k).length : Int)
              have b1' : ∀ i, i ≤ 1 → LA.length + (flatTo (blobsB fun _ => ps k) i).length ≤ 1000000000000 := fun i hi => by
                have : i = 0 ∨ i = 1 := by omega
                rcases this with rfl | rfl
                · simp [flatTo]; omega
                · rw [show flatTo (blobsB fun _ => ps k) 1 = blobB (ps k) from rfl]; omega
              have B1 : Hid _ := b1'
              have b2' : ∀ i, i ≤ 1 → (LA ++ blobB (ps k)).length + (flatTo (blobsB fun i => sBytes ((fun _ => strOf (ps k)) i)) i).length ≤ 1000000000000 := fun i hi => by
                have : i = 0 ∨ i = 1 := by omega
                rw [List.length_append]
                rcases this with rfl | rfl
                · simp [flatTo]; omega
                · rw [show flatTo (blobsB fun i => sBytes ((fun _ => strOf (ps k)) i)) 1 = blobB (sBytes (strOf (ps k))) from rfl, sBytes_strOf (ps k) (anyBytes.byte hy)]; omega
              have B2 : Hid _ := b2'
              clear ay nab b1' b2'
              go_wp2
              refine wp_region_noPanic ?_
              refine wp_region_held_drew (S := fun w' => Below wA.heap.size wA w') (by kernel_rfl) ((Below.refl wA.heap.size wA).drew) (fun hHeld => ?_)
              refine take_op (i := 0) (v := ?va0) rfl (by kernel_rfl) (by kernel_rfl) (by kernel_rfl) (fun _ _ _ h => h) rfl hHeld ?ya0 ?ra0
              case ya0 => (intro wz hz; go_simp; first | done | with_reducible rfl)
              try simp only [Act.put, List.setIfInBounds_toArray, List.set_cons_zero, List.set_cons_succ]
              refine take_op (i := 1) (v := ?va1) rfl (by kernel_rfl) (by kernel_rfl) (by kernel_rfl) (fun _ _ _ h => h) rfl hHeld ?ya1 ?ra1
              case ya1 => (intro wz hz; go_simp; first | done | with_reducible rfl)
              try simp only [Act.put, List.setIfInBounds_toArray, List.set_cons_zero, List.set_cons_succ]
              refine take_op (i := 2) (v := ?va2) rfl (by kernel_rfl) (by kernel_rfl) (by kernel_rfl) (fun _ _ _ h => h) rfl hHeld ?ya2 ?ra2
              case ya2 => (intro wz hz; go_simp; first | done | with_reducible rfl)
              try simp only [Act.put, List.setIfInBounds_toArray, List.set_cons_zero, List.set_cons_succ]
              refine take_op (i := 3) (v := ?va3) rfl (by kernel_rfl) (by kernel_rfl) (by kernel_rfl) (fun _ _ _ h => h) rfl hHeld ?ya3 ?ra3
              case ya3 => (intro wz hz; go_simp; first | done | with_reducible rfl)
              try simp only [Act.put, List.setIfInBounds_toArray, List.set_cons_zero, List.set_cons_succ]
              refine take_op (i := 4) (v := ?va4) rfl (by kernel_rfl) (by kernel_rfl) (by kernel_rfl) (fun _ _ _ h => h) rfl hHeld ?ya4 ?ra4
              case ya4 => (intro wz hz; have hcz := (Below.cell hz (p := ⟨qb1, qo1 + k, none⟩) (show qb1 < wA.heap.size by omega)).trans e1; go_simp; first | done | with_reducible rfl)
              try simp only [Act.put, List.setIfInBounds_toArray, List.set_cons_zero, List.set_cons_succ]
              refine take_op (i := 7) (v := ?va7) rfl (by kernel_rfl) (by kernel_rfl) (by kernel_rfl) (fun _ _ _ h => h) rfl hHeld ?ya7 ?ra7
              case ya7 => (intro wz hz; go_simp; first | done | with_reducible rfl)
              try simp only [Act.put, List.setIfInBounds_toArray, List.set_cons_zero, List.set_cons_succ]
              refine take_op (i := 8) (v := ?va8) rfl (by kernel_rfl) (by kernel_rfl) (by kernel_rfl) (fun _ _ _ h => h) rfl hHeld ?ya8 ?ra8
              case ya8 => (intro wz hz; go_simp; first | done | with_reducible rfl)
              try simp only [Act.put, List.setIfInBounds_toArray, List.set_cons_zero, List.set_cons_succ]
              refine take_op (i := 9) (v := ?va9) rfl (by kernel_rfl) (by kernel_rfl) (by kernel_rfl) (fun _ _ _ h => h) rfl hHeld ?ya9 ?ra9
              case ya9 => (intro wz hz; go_simp; first | done | with_reducible rfl)
              try simp only [Act.put, List.setIfInBounds_toArray, List.set_cons_zero, List.set_cons_succ]
              refine take_op (i := 10) (v := ?va10) rfl (by kernel_rfl) (by kernel_rfl) (by kernel_rfl) (fun _ _ _ h => h) rfl hHeld ?ya10 ?ra10
              case ya10 => (intro wz hz; have hcz := (Below.cell hz (p := ⟨qb1, qo1 + k, none⟩) (show qb1 < wA.heap.size by omega)).trans e1; go_simp; first | done | with_reducible rfl)
              try simp only [Act.put, List.setIfInBounds_toArray, List.set_cons_zero, List.set_cons_succ]
              refine take_op (i := 11) (v := ?va11) rfl (by kernel_rfl) (by kernel_rfl) (by kernel_rfl) (fun _ _ _ h => h) rfl hHeld ?ya11 ?ra11
              case ya11 => (intro wz hz; have hcv := convA wz _ _ (AY.out wz hz); go_simp; first | done | with_reducible rfl)
              try simp only [Act.put, List.setIfInBounds_toArray, List.set_cons_zero, List.set_cons_succ]
              refine take_pair (i := 5) (j := 12) rfl rfl (by kernel_rfl) rfl rfl (fun K hK => ?_) (fun K hK => ?_)
              · go_simp
                refine hK.out _ _ (hHeld.alloc hHeld.size _) (fun hHeld => ?_)
                clear hK K
                try simp only [Act.put, List.setIfInBounds_toArray, List.set_cons_zero, List.set_cons_succ]
                have c1 : (wA.alloc (.cells #[(.slice ya (ps k).length yc)] 22)).drew.cell? ⟨wA.heap.size, 0, none⟩ = some (.slice ya (ps k).length yc) := one_cell wA _ _
                revert c1 hHeld
                generalize (wA.alloc (.cells #[(.slice ya (ps k).length yc)] 22)).drew = wa
                intro hHeld c1
                refine take_pair (i := 6) (j := 12) rfl rfl (by kernel_rfl) rfl rfl (fun K hK => ?_) (fun K hK => ?_)
                · go_simp
                  refine (blob_any LA u7 _ 1 (fun _ => ps k) _ (NAB.out _ hHeld) (parts_one w _ _ hy _ _ c1 (AY.out _ hHeld)) B1.out).mono ?_
                  rintro e w1 ⟨v1, rfl, hn1, hb1⟩
                  rw [show flatTo (blobsB fun _ => ps k) 1 = blobB (ps k) from rfl] at hn1
                  refine hK.out _ _ (hHeld.trans (hb1.mono hHeld.size)) (fun hHeld => ?_)
                  clear hK K
                  try simp only [Act.put, List.setIfInBounds_toArray, List.set_cons_zero, List.set_cons_succ]
                  refine wpAnyH_stronger (S' := fun w' => Below wA.heap.size wA w' ∧ isBytes w' v1 (LA ++ blobB (ps k))) (fun _ h => h.1) _ _ _ _ ?_
                  have hHeld : Below wA.heap.size wA w1 ∧ isBytes w1 v1 (LA ++ blobB (ps k)) := ⟨hHeld, hn1.is⟩
                  refine take_one (i := 12) rfl (by kernel_rfl) rfl (fun K hK => ?_)
                  go_simp
                  refine hK.out _ _ ⟨hHeld.1.alloc hHeld.1.size _, hHeld.2.below ((Below.refl _ _).alloc (Nat.le_refl _) _) (Nat.le_refl _)⟩ (fun hHeld => ?_)
                  clear hK K
                  try simp only [Act.put, List.setIfInBounds_toArray, List.set_cons_zero, List.set_cons_succ]
                  have c2 := one_cell w1 (.string (strOf (ps k))) 9
                  have hs13 := hHeld.1.size
                  refine take_one (i := 13) rfl (by kernel_rfl) rfl (fun K hK => ?_)
                  go_simp
                  refine (text_any (LA ++ blobB (ps k)) v1 _ 1 (fun _ => strOf (ps k)) _ hHeld.2 (isRow_cell c2) B2.out).mono ?_
                  rintro e w2 ⟨v2, rfl, hn2, hb2⟩
                  rw [show flatTo (blobsB fun i => sBytes ((fun _ => strOf (ps k)) i)) 1 = blobB (sBytes (strOf (ps k))) from rfl, sBytes_strOf (ps k) (anyBytes.byte hy), List.append_assoc] at hn2
                  refine hK.out _ _ ⟨hHeld.1.trans (hb2.mono hHeld.1.size), hHeld.2.below hb2 (Nat.le_refl _)⟩ (fun hHeld => ?_)
                  clear hK K
                  try simp only [Act.put, List.setIfInBounds_toArray, List.set_cons_zero, List.set_cons_succ]
                  refine take_op (i := 14) (v := ?vap14) rfl (by kernel_rfl) (by kernel_rfl) (by kernel_rfl) (fun _ _ _ h => h) rfl hHeld ?yap14 ?rap14
                  case yap14 => (intro wz hz; go_simp; first | done | with_reducible rfl)
                  try simp only [Act.put, List.setIfInBounds_toArray, List.set_cons_zero, List.set_cons_succ]
                  refine wpAnyH_done (by kernel_rfl) ?_ _
                  refine NoPanic.normal ?_
                  have NB2 : Hid _ := hn2.mono (Nat.le_trans hsA hs13)
                  have BB2 : Hid _ := BA.out.trans (hHeld.1.mono hsA)
                  clear hHeld hn2 hb2 hn1 hb1 c1 c2 AY NAB B1 B2
                  go_wp2_with fail
                  go_meet
                  case rel =>
                    have hl : LB = LA ++ (blobB (ps k) ++ blobB (ps k)) := by rw [HLB.out, if_pos hB]
                    refine ⟨by rw [hl]; exact NB2.out, ?_, fun _ => by omega, BB2.out⟩
                    rw [hl, List.length_append, List.length_append]; omega
                · go_simp
                  refine hK.out _ _ (hHeld.alloc hHeld.size _) (fun hHeld => ?_)
                  clear hK K
                  try simp only [Act.put, List.setIfInBounds_toArray, List.set_cons_zero, List.set_cons_succ]
                  have c2 := one_cell wa (.string (strOf (ps k))) 9
                  have c1' := cell_alloc' (.cells #[(.string (strOf (ps k)))] 9) c1
                  refine take_one (i := 6) rfl (by kernel_rfl) rfl (fun K hK => ?_)
                  go_simp
                  refine (blob_any LA u7 _ 1 (fun _ => ps k) _ (NAB.out _ hHeld) (parts_one w _ _ hy _ _ c1' (AY.out _ hHeld)) B1.out).mono ?_
                  rintro e w1 ⟨v1, rfl, hn1, hb1⟩
                  rw [show flatTo (blobsB fun _ => ps k) 1 = blobB (ps k) from rfl] at hn1
                  refine hK.out _ _ (hHeld.trans (hb1.mono hHeld.size)) (fun hHeld => ?_)
                  clear hK K
                  try simp only [Act.put, List.setIfInBounds_toArray, List.set_cons_zero, List.set_cons_succ]
                  refine wpAnyH_stronger (S' := fun w' => Below wA.heap.size wA w' ∧ isBytes w' v1 (LA ++ blobB (ps k))) (fun _ h => h.1) _ _ _ _ ?_
                  have hHeld : Below wA.heap.size wA w1 ∧ isBytes w1 v1 (LA ++ blobB (ps k)) := ⟨hHeld, hn1.is⟩
                  have c2 := (hb1.cell (p := ⟨_, 0, none⟩) (World.block_lt_of_cell? _ _ c2)).trans c2
                  have hs13 := hHeld.1.size
                  refine take_one (i := 13) rfl (by kernel_rfl) rfl (fun K hK => ?_)
                  go_simp
                  refine (text_any (LA ++ blobB (ps k)) v1 _ 1 (fun _ => strOf (ps k)) _ hHeld.2 (isRow_cell c2) B2.out).mono ?_
                  rintro e w2 ⟨v2, rfl, hn2, hb2⟩
                  rw [show flatTo (blobsB fun i => sBytes ((fun _ => strOf (ps k)) i)) 1 = blobB (sBytes (strOf (ps k))) from rfl, sBytes_strOf (ps k) (anyBytes.byte hy), List.append_assoc] at hn2
                  refine hK.out _ _ ⟨hHeld.1.trans (hb2.mono hHeld.1.size), hHeld.2.below hb2 (Nat.le_refl _)⟩ (fun hHeld => ?_)
                  clear hK K
                  try simp only [Act.put, List.setIfInBounds_toArray, List.set_cons_zero, List.set_cons_succ]
                  refine take_op (i := 14) (v := ?vaq14) rfl (by kernel_rfl) (by kernel_rfl) (by kernel_rfl) (fun _ _ _ h => h) rfl hHeld ?yaq14 ?raq14
                  case yaq14 => (intro wz hz; go_simp; first | done | with_reducible rfl)
                  try simp only [Act.put, List.setIfInBounds_toArray, List.set_cons_zero, List.set_cons_succ]
                  refine wpAnyH_done (by kernel_rfl) ?_ _
                  refine NoPanic.normal ?_
                  have NB2 : Hid _ := hn2.mono (Nat.le_trans hsA hs13)
                  have BB2 : Hid _ := BA.out.trans (hHeld.1.mono hsA)
                  clear hHeld hn2 hb2 hn1 hb1 c1 c2 AY NAB B1 B2
                  go_wp2_with fail
                  go_meet
                  case rel =>
                    have hl : LB = LA ++ (blobB (ps k) ++ blobB (ps k)) := by rw [HLB.out, if_pos hB]
                    refine ⟨by rw [hl]; exact NB2.out, ?_, fun _ => by omega, BB2.out⟩
                    rw [hl, List.length_append, List.length_append]; omega
              · go_simp
                refine hK.out _ _ (hHeld.alloc hHeld.size _) (fun hHeld => ?_)
                clear hK K
                try simp only [Act.put, List.setIfInBounds_toArray, List.set_cons_zero, List.set_cons_succ]
                have c2 : (wA.alloc (.cells #[(.string (strOf (ps k)))] 9)).drew.cell? ⟨wA.heap.size, 0, none⟩ = some (.string (strOf (ps k))) := one_cell wA _ _
                revert c2 hHeld
                generalize (wA.alloc (.cells #[(.string (strOf (ps k)))] 9)).drew = wa
                intro hHeld c2
                refine take_one (i := 5) rfl (by kernel_rfl) rfl (fun K hK => ?_)
                go_simp
                refine hK.out _ _ (hHeld.alloc hHeld.size _) (fun hHeld => ?_)
                clear hK K
                try simp only [Act.put, List.setIfInBounds_toArray, List.set_cons_zero, List.set_cons_succ]
                have c1 := one_cell wa (.slice ya (ps k).length yc) 22
                have c2 := cell_alloc' (.cells #[(.slice ya (ps k).length yc)] 22) c2
                refine take_one (i := 6) rfl (by kernel_rfl) rfl (fun K hK => ?_)
                go_simp
                refine (blob_any LA u7 _ 1 (fun _ => ps k) _ (NAB.out _ hHeld) (parts_one w _ _ hy _ _ c1 (AY.out _ hHeld)) B1.out).mono ?_
                rintro e w1 ⟨v1, rfl, hn1, hb1⟩
                rw [show flatTo (blobsB fun _ => ps k) 1 = blobB (ps k) from rfl] at hn1
                refine hK.out _ _ (hHeld.trans (hb1.mono hHeld.size)) (fun hHeld => ?_)
                clear hK K
                try simp only [Act.put, List.setIfInBounds_toArray, List.set_cons_zero, List.set_cons_succ]
                refine wpAnyH_stronger (S' := fun w' => Below wA.heap.size wA w' ∧ isBytes w' v1 (LA ++ blobB (ps k))) (fun _ h => h.1) _ _ _ _ ?_
                have hHeld : Below wA.heap.size wA w1 ∧ isBytes w1 v1 (LA ++ blobB (ps k)) := ⟨hHeld, hn1.is⟩
                have c2 := (hb1.cell (p := ⟨_, 0, none⟩) (World.block_lt_of_cell? _ _ c2)).trans c2
                have hs13 := hHeld.1.size
                refine take_one (i := 13) rfl (by kernel_rfl) rfl (fun K hK => ?_)
                go_simp
                refine (text_any (LA ++ blobB (ps k)) v1 _ 1 (fun _ => strOf (ps k)) _ hHeld.2 (isRow_cell c2) B2.out).mono ?_
                rintro e w2 ⟨v2, rfl, hn2, hb2⟩
                rw [show flatTo (blobsB fun i => sBytes ((fun _ => strOf (ps k)) i)) 1 = blobB (sBytes (strOf (ps k))) from rfl, sBytes_strOf (ps k) (anyBytes.byte hy), List.append_assoc] at hn2
                refine hK.out _ _ ⟨hHeld.1.trans (hb2.mono hHeld.1.size), hHeld.2.below hb2 (Nat.le_refl _)⟩ (fun hHeld => ?_)
                clear hK K
                try simp only [Act.put, List.setIfInBounds_toArray, List.set_cons_zero, List.set_cons_succ]
                refine take_op (i := 14) (v := ?var14) rfl (by kernel_rfl) (by kernel_rfl) (by kernel_rfl) (fun _ _ _ h => h) rfl hHeld ?yar14 ?rar14
                case yar14 => (intro wz hz; go_simp; first | done | with_reducible rfl)
                try simp only [Act.put, List.setIfInBounds_toArray, List.set_cons_zero, List.set_cons_succ]
                refine wpAnyH_done (by kernel_rfl) ?_ _
                refine NoPanic.normal ?_
                have NB2 : Hid _ := hn2.mono (Nat.le_trans hsA hs13)
                have BB2 : Hid _ := BA.out.trans (hHeld.1.mono hsA)
                clear hHeld hn2 hb2 hn1 hb1 c1 c2 AY NAB B1 B2
                go_wp2_with fail
                go_meet
                case rel =>
                  have hl : LB = LA ++ (blobB (ps k) ++ blobB (ps k)) := by rw [HLB.out, if_pos hB]
                  refine ⟨by rw [hl]; exact NB2.out, ?_, fun _ => by omega, BB2.out⟩
                  rw [hl, List.length_append, List.length_append]; omega
          · have a2' : (n1 : Int) ≤ (k : Int) := by omega
            go_wp2_with fail
            go_meet
            case rel =>
              have hl : LB = LA := by rw [HLB.out, if_neg hB, List.append_nil]
              exact ⟨by rw [hl]; exact NA.out, by rw [hl]; omega, fun h => absurd h hB, BA.out⟩
        case rest =>
          obtain ⟨hnB, hlB, hpk, hbB⟩ := hcut
          obtain ⟨wB, hwB⟩ : ∃ wB, wB = wc := ⟨_, rfl⟩
          subst hwB
          have NB : Hid _ := hnB
          have BB : Hid _ := hbB
          have hsB := hbB.size
          clear hnB hbB NA BA
          go_upto_if 68 with fail
          go_cut [7] from 25 to 79 (fun s7 wx => newBytes wx w.heap.size s7 LC ∧ LC.length ≤ 220200 ∧ Below w.heap.size w wx)
          case first =>
            by_cases hC : k < n2
            · obtain ⟨qb2, qo2, rfl, hq2, e2⟩ := hc2 k hC
              obtain ⟨g1, g2⟩ := hg32 k hC
              have a4' : (k : Int) < (n2 : Int) := by omega
              have cl : ∀ i, i < 32 → wB.cell? ⟨qb2, qo2 + k * 32 + i, none⟩ = some (arrV (g k) i) := fun i hi => (BB.out.cell (p := ⟨qb2, qo2 + k * 32 + i, none⟩) hq2).trans (e2 i hi)
              have CL : Hid _ := cl
              clear cl e2
              go_upto_region 14 with fail
              go_wp2_with (refine wpList_load_seg rfl 51 (.tmp 72) rfl qb2 (qo2 + k * 32) 32 (arrV (g k)) rfl _ Try.underlying51 rfl hi32 CL.out ?_; refine wpList_build_run (v := .agg (rowV 32 (arrV (g k)))) rfl 25 1 0 (.tmp 73) rfl (by kernel_rfl) (run_build_sum (arrV (g k)) wB) ?_)

              have X := sums_any LB u7 _ 1 (fun _ => g k) _ ((newBytes.is NB.out).below ((Below.refl _ _).alloc (Nat.le_refl _) _) (Nat.le_refl _)) (isSums_one wB (g k) g1 g2) (by omega)
              refine X.mono ?_
              rintro e w3 ⟨v3, rfl, hn3, hb3⟩
              rw [show flatTo (fun _ => g k) 1 = g k from rfl] at hn3
              have hb3' : Below wB.heap.size wB w3 := ((Below.refl _ _).alloc (Nat.le_refl _) _).trans (hb3.mono (by simp))
              have NC : Hid (newBytes w3 w.heap.size v3 (LB ++ g k)) := (show newBytes w3 w.heap.size v3 (LB ++ g k) from hn3.mono (by simp; omega))
              have BC : Hid _ := Below.trans BB.out (hb3'.mono hsB)
              clear X hn3 hb3 hb3' NB BB CL
              go_wp2_with fail
              go_meet
              case rel =>
                have hl : LC = LB ++ g k := by rw [HLC.out, if_pos hC]
                exact ⟨by rw [hl]; exact NC.out, by rw [hl, List.length_append]; omega, BC.out⟩
            · have a4' : (n2 : Int) ≤ (k : Int) := by omega
              go_wp2_with fail
              go_meet
              case rel =>
                have hl : LC = LB := by rw [HLC.out, if_neg hC, List.append_nil]
                exact ⟨by rw [hl]; exact NB.out, by rw [hl]; omega, BB.out⟩
          case rest =>
            obtain ⟨hnC, hlC, hbC⟩ := hcut
            have NC : Hid _ := hnC
            have BC : Hid _ := hbC
            have hsC := hbC.size
            obtain ⟨ca, cc, rfl, _⟩ := hnC.is.slice
            clear hnC hbC NB BB
            by_cases hD : 200000 < LC.length
            · have a5' : (200000 : Int) < (LC.length : Int) := by omega
              have a6' : (LC.length : Int) ≤ 220200 := by omega
              go_wp2_with fail
              refine (awake_any _).mono ?_
              rintro e w9 ⟨rfl, hb9⟩
              go_wp2
              go_ret
              exact ⟨rfl, BC.out.trans (hb9.mono hsC)⟩
            · have a5' : (LC.length : Int) ≤ 200000 := by omega
              go_wp2
              go_light
              have hit : flatTo it (k + 1) = LC := by
                rw [flatTo, HL.out, HLC.out, HLB.out, HLA.out, HIT.out, itemB]
                simp only [List.append_assoc]
              refine ⟨⟨k + 1, by omega, by go_num, by rw [hit]; exact NC.out, by rw [hit]; omega, fun i hi h1 => ?_, BC.out⟩, by simp [intOf]; omega⟩
              by_cases e : i < k
              · exact HPS.out i e h1
              · obtain rfl : i = k := by omega
                exact hpk h1
    · obtain rfl : k = 500 := by omega
      have HN : Hid _ := hn
      have HPS : Hid _ := hps
      have hs0 := hb.size
      clear hn hps
      generalize hF : flatTo it 500 = F5 at *
      have HF : Hid _ := hF
      clear hF
      go_wp2_with fail
      refine (from_any _ F5 wr (newBytes.is HN.out) (by omega)).mono ?_
      rintro e w1 ⟨c, rfl, hc1, hb1⟩
      have C0 : Hid (cutOf w1 w.heap.size c F5 false) := (show cutOf w1 w.heap.size c F5 false from hc1.mono hs0)
      have HB1 : Hid (Below w.heap.size w w1) := (show Below w.heap.size w w1 from hb.trans (hb1.mono hs0))
      have hcge := C0.out.ge
      have hl5 := hlen
      clear hc1 hb1 hb HN hlen hs0
      go_wp2
      go_loopw [10] (fun i wq => ∃ (k : Nat) (r : List Int), k ≤ 500 ∧ i = .int .i64 k ∧ flatTo it k ++ r = F5 ∧ cutOf wq w.heap.size c r false ∧ Below w.heap.size w wq) (fun i _ => 500 - (intOf i).toNat)
      case atStart => exact ⟨0, F5, by omega, rfl, by rw [flatTo, List.nil_append], C0.out, HB1.out⟩
      case round =>
        clear C0 HB1
        obtain ⟨k, r, hk, rfl, hr, hc, hb⟩ := hrel
        by_cases hlt : k < 500
        · have b0 : (0 : Int) ≤ (k : Int) := by omega
          have b1 : (k : Int) < 500 := by omega
          obtain ⟨r', hr1, hr2⟩ := rest_split it 500 k hlt r (hr.trans HF.out.symm)
          have hrl : r.length ≤ 200000 := by rw [← hr, List.length_append] at hl5; omega
          have hpk : k < n1 → (ps k).length ≤ 5000 := fun h => HPS.out k hlt h
          obtain ⟨RB, hRB⟩ : ∃ RB, RB = (if k < n2 then g k else []) ++ r' := ⟨_, rfl⟩
          obtain ⟨RA, hRA⟩ : ∃ RA, RA = (if k < n1 then blobB (ps k) ++ blobB (ps k) else []) ++ RB := ⟨_, rfl⟩
          have hr0 : r = (if k < n0 then numB (f k) else []) ++ RA := by rw [hr1, HIT.out, itemB, hRA, hRB]; simp only [List.append_assoc]
          have hrla : RA.length ≤ 200000 := by rw [hr0, List.length_append] at hrl; omega
          have hrlb : RB.length ≤ 200000 := by rw [hRA, List.length_append] at hrla; omega
          have HRA : Hid _ := hRA
          have HRB : Hid _ := hRB
          have HR2 : Hid _ := hr2
          have HC : Hid _ := hc
          have HB : Hid _ := hb
          have HR0 : Hid _ := hr0
          have hclt := hc.lt
          have hsr := hb.size
          clear hRA hRB hr1 hr2 hc hb hr hr0
          go_upto_region 21 with fail
          go_cut [102] from 82 to 145 (fun sc wx => sc = .bool false ∧ cutOf wx w.heap.size c RA false ∧ Below w.heap.size w wx)
          case first =>
            by_cases hA : k < n0
            · obtain ⟨qb0, qo0, rfl, hq0, e0⟩ := hc0 k hA
              obtain ⟨f0, f1⟩ := hf k hA
              have a1' : (k : Int) < (n0 : Int) := by omega
              have hre : r = numB (f k) ++ RA := by rw [HR0.out, if_pos hA]
              have X := cnum_any c w.heap.size (numB (f k) ++ RA) false (f k) f0 wr.drew (by rw [← hre]; exact HC.out)
              rw [num_back (f k) ⟨f0, f1⟩ RA (f k) (Int.le_refl _)] at X
              clear hre
              have XX : Hid _ := X
              clear X
              refine wp_region_noPanic ?_
              refine wp_region_held_drew (S := fun w' => Below w.heap.size w w') (by kernel_rfl) (HB.out.drew) (fun hHeld => ?_)
              refine take_op (i := 0) (v := ?vx0) rfl (by kernel_rfl) (by kernel_rfl) (by kernel_rfl) (fun _ _ _ h => h) rfl hHeld ?yx0 ?rx0
              case yx0 => (intro wz hz; go_simp; first | done | with_reducible rfl)
              try simp only [Act.put, List.setIfInBounds_toArray, List.set_cons_zero, List.set_cons_succ]
              refine take_op (i := 1) (v := ?vx1) rfl (by kernel_rfl) (by kernel_rfl) (by kernel_rfl) (fun _ _ _ h => h) rfl hHeld ?yx1 ?rx1
              case yx1 => (intro wz hz; go_simp; first | done | with_reducible rfl)
              try simp only [Act.put, List.setIfInBounds_toArray, List.set_cons_zero, List.set_cons_succ]
              refine take_op (i := 2) (v := ?vx2) rfl (by kernel_rfl) (by kernel_rfl) (by kernel_rfl) (fun _ _ _ h => h) rfl hHeld ?yx2 ?rx2
              case yx2 => (intro wz hz; go_simp; first | done | with_reducible rfl)
              try simp only [Act.put, List.setIfInBounds_toArray, List.set_cons_zero, List.set_cons_succ]
              refine take_op (i := 3) (v := ?vx3) rfl (by kernel_rfl) (by kernel_rfl) (by kernel_rfl) (fun _ _ _ h => h) rfl hHeld ?yx3 ?rx3
              case yx3 => (intro wz hz; go_simp; first | done | with_reducible rfl)
              try simp only [Act.put, List.setIfInBounds_toArray, List.set_cons_zero, List.set_cons_succ]
              refine take_op (i := 4) (v := ?vx4) rfl (by kernel_rfl) (by kernel_rfl) (by kernel_rfl) (fun _ _ _ h => h) rfl hHeld ?yx4 ?rx4
              case yx4 => (intro wz hz; go_simp; first | done | with_reducible rfl)
              try simp only [Act.put, List.setIfInBounds_toArray, List.set_cons_zero, List.set_cons_succ]
              refine take_op (i := 5) (v := ?vx5) rfl (by kernel_rfl) (by kernel_rfl) (by kernel_rfl) (fun _ _ _ h => h) rfl hHeld ?yx5 ?rx5
              case yx5 => (intro wz hz; go_simp; first | done | with_reducible rfl)
              try simp only [Act.put, List.setIfInBounds_toArray, List.set_cons_zero, List.set_cons_succ]
              refine take_op (i := 6) (v := ?vx6) rfl (by kernel_rfl) (by kernel_rfl) (by kernel_rfl) (fun _ _ _ h => h) rfl hHeld ?yx6 ?rx6
              case yx6 => (intro wz hz; go_simp; first | done | with_reducible rfl)
              try simp only [Act.put, List.setIfInBounds_toArray, List.set_cons_zero, List.set_cons_succ]
              refine take_op (i := 7) (v := ?vx7) rfl (by kernel_rfl) (by kernel_rfl) (by kernel_rfl) (fun _ _ _ h => h) rfl hHeld ?yx7 ?rx7
              case yx7 => (intro wz hz; go_simp; first | done | with_reducible rfl)
              try simp only [Act.put, List.setIfInBounds_toArray, List.set_cons_zero, List.set_cons_succ]
              refine take_op (i := 8) (v := ?vx8) rfl (by kernel_rfl) (by kernel_rfl) (by kernel_rfl) (fun _ _ _ h => h) rfl hHeld ?yx8 ?rx8
              case yx8 => (intro wz hz; go_simp; first | done | with_reducible rfl)
              try simp only [Act.put, List.setIfInBounds_toArray, List.set_cons_zero, List.set_cons_succ]
              refine take_op (i := 9) (v := ?vx9) rfl (by kernel_rfl) (by kernel_rfl) (by kernel_rfl) (fun _ _ _ h => h) rfl hHeld ?yx9 ?rx9
              case yx9 => (intro wz hz; have hcz := (Below.cell hz (p := ⟨qb0, qo0 + k, none⟩) hq0).trans e0; go_simp; first | done | with_reducible rfl)
              try simp only [Act.put, List.setIfInBounds_toArray, List.set_cons_zero, List.set_cons_succ]
              refine take_op (i := 11) (v := ?vx11) rfl (by kernel_rfl) (by kernel_rfl) (by kernel_rfl) (fun _ _ _ h => h) rfl hHeld ?yx11 ?rx11
              case yx11 => (intro wz hz; go_simp; first | done | with_reducible rfl)
              try simp only [Act.put, List.setIfInBounds_toArray, List.set_cons_zero, List.set_cons_succ]
              refine take_op (i := 12) (v := ?vx12) rfl (by kernel_rfl) (by kernel_rfl) (by kernel_rfl) (fun _ _ _ h => h) rfl hHeld ?yx12 ?rx12
              case yx12 => (intro wz hz; go_simp; first | done | with_reducible rfl)
              try simp only [Act.put, List.setIfInBounds_toArray, List.set_cons_zero, List.set_cons_succ]
              refine take_op (i := 13) (v := ?vx13) rfl (by kernel_rfl) (by kernel_rfl) (by kernel_rfl) (fun _ _ _ h => h) rfl hHeld ?yx13 ?rx13
              case yx13 => (intro wz hz; go_simp; first | done | with_reducible rfl)
              try simp only [Act.put, List.setIfInBounds_toArray, List.set_cons_zero, List.set_cons_succ]
              refine take_op (i := 14) (v := ?vx14) rfl (by kernel_rfl) (by kernel_rfl) (by kernel_rfl) (fun _ _ _ h => h) rfl hHeld ?yx14 ?rx14
              case yx14 => (intro wz hz; have hcz := (Below.cell hz (p := ⟨qb0, qo0 + k, none⟩) hq0).trans e0; go_simp; first | done | with_reducible rfl)
              try simp only [Act.put, List.setIfInBounds_toArray, List.set_cons_zero, List.set_cons_succ]
              refine take_one (i := 10) rfl (by kernel_rfl) rfl (fun K hK => ?_)
              go_simp
              refine Calls.mono XX.out ?_
              rintro e w9 ⟨rfl, hc9, hb9⟩
              refine hK.out _ _ (hHeld.trans (But.to_below hb9 hcge hsr)) (fun hHeld => ?_)
              clear hK K
              try simp only [Act.put, List.setIfInBounds_toArray, List.set_cons_zero, List.set_cons_succ]
              refine take_op (i := 15) (v := ?vx15) rfl (by kernel_rfl) (by kernel_rfl) (by kernel_rfl) (fun _ _ _ h => h) rfl hHeld ?yx15 ?rx15
              case yx15 => (intro wz hz; go_simp; first | done | with_reducible rfl)
              try simp only [Act.put, List.setIfInBounds_toArray, List.set_cons_zero, List.set_cons_succ]
              refine take_op (i := 16) (v := ?vx16) rfl (by kernel_rfl) (by kernel_rfl) (by kernel_rfl) (fun _ _ _ h => h) rfl hHeld ?yx16 ?rx16
              case yx16 => (intro wz hz; go_simp; first | done | with_reducible rfl)
              try simp only [Act.put, List.setIfInBounds_toArray, List.set_cons_zero, List.set_cons_succ]
              refine wpAnyH_done (by kernel_rfl) ?_ _
              refine NoPanic.normal ?_
              have C9 : Hid _ := hc9
              have B9 : Hid _ := hHeld
              clear hHeld hb9 hc9 XX e0
              go_wp2_with fail
              go_meet
              case rel => exact ⟨rfl, C9.out, B9.out⟩
            · have a1' : (n0 : Int) ≤ (k : Int) := by omega
              refine wp_region_noPanic ?_
              refine wp_region_held_drew (S := fun w' => Below w.heap.size w w') (by kernel_rfl) (HB.out.drew) (fun hHeld => ?_)
              refine take_op (i := 0) (v := ?vy0) rfl (by kernel_rfl) (by kernel_rfl) (by kernel_rfl) (fun _ _ _ h => h) rfl hHeld ?yy0 ?ry0
              case yy0 => (intro wz hz; go_simp; first | done | with_reducible rfl)
              try simp only [Act.put, List.setIfInBounds_toArray, List.set_cons_zero, List.set_cons_succ]
              refine take_op (i := 1) (v := ?vy1) rfl (by kernel_rfl) (by kernel_rfl) (by kernel_rfl) (fun _ _ _ h => h) rfl hHeld ?yy1 ?ry1
              case yy1 => (intro wz hz; go_simp; first | done | with_reducible rfl)
              try simp only [Act.put, List.setIfInBounds_toArray, List.set_cons_zero, List.set_cons_succ]
              refine take_op (i := 2) (v := ?vy2) rfl (by kernel_rfl) (by kernel_rfl) (by kernel_rfl) (fun _ _ _ h => h) rfl hHeld ?yy2 ?ry2
              case yy2 => (intro wz hz; go_simp; first | done | with_reducible rfl)
              try simp only [Act.put, List.setIfInBounds_toArray, List.set_cons_zero, List.set_cons_succ]
              refine take_op (i := 3) (v := ?vy3) rfl (by kernel_rfl) (by kernel_rfl) (by kernel_rfl) (fun _ _ _ h => h) rfl hHeld ?yy3 ?ry3
              case yy3 => (intro wz hz; go_simp; first | done | with_reducible rfl)
              try simp only [Act.put, List.setIfInBounds_toArray, List.set_cons_zero, List.set_cons_succ]
              refine take_op (i := 4) (v := ?vy4) rfl (by kernel_rfl) (by kernel_rfl) (by kernel_rfl) (fun _ _ _ h => h) rfl hHeld ?yy4 ?ry4
              case yy4 => (intro wz hz; go_simp; first | done | with_reducible rfl)
              try simp only [Act.put, List.setIfInBounds_toArray, List.set_cons_zero, List.set_cons_succ]
              refine take_not (i := 5) rfl (by kernel_rfl) (by kernel_rfl) (by kernel_rfl) (fun _ _ _ h => h) rfl hHeld ?_
              try simp only [Act.put, List.setIfInBounds_toArray, List.set_cons_zero, List.set_cons_succ]
              refine take_not (i := 6) rfl (by kernel_rfl) (by kernel_rfl) (by kernel_rfl) (fun _ _ _ h => h) rfl hHeld ?_
              try simp only [Act.put, List.setIfInBounds_toArray, List.set_cons_zero, List.set_cons_succ]
              refine take_not (i := 7) rfl (by kernel_rfl) (by kernel_rfl) (by kernel_rfl) (fun _ _ _ h => h) rfl hHeld ?_
              try simp only [Act.put, List.setIfInBounds_toArray, List.set_cons_zero, List.set_cons_succ]
              refine take_not (i := 8) rfl (by kernel_rfl) (by kernel_rfl) (by kernel_rfl) (fun _ _ _ h => h) rfl hHeld ?_
              try simp only [Act.put, List.setIfInBounds_toArray, List.set_cons_zero, List.set_cons_succ]
              refine take_not (i := 9) rfl (by kernel_rfl) (by kernel_rfl) (by kernel_rfl) (fun _ _ _ h => h) rfl hHeld ?_
              try simp only [Act.put, List.setIfInBounds_toArray, List.set_cons_zero, List.set_cons_succ]
              refine take_not (i := 10) rfl (by kernel_rfl) (by kernel_rfl) (by kernel_rfl) (fun _ _ _ h => h) rfl hHeld ?_
              try simp only [Act.put, List.setIfInBounds_toArray, List.set_cons_zero, List.set_cons_succ]
              refine take_not (i := 11) rfl (by kernel_rfl) (by kernel_rfl) (by kernel_rfl) (fun _ _ _ h => h) rfl hHeld ?_
              try simp only [Act.put, List.setIfInBounds_toArray, List.set_cons_zero, List.set_cons_succ]
              refine take_not (i := 12) rfl (by kernel_rfl) (by kernel_rfl) (by kernel_rfl) (fun _ _ _ h => h) rfl hHeld ?_
              try simp only [Act.put, List.setIfInBounds_toArray, List.set_cons_zero, List.set_cons_succ]
              refine take_not (i := 13) rfl (by kernel_rfl) (by kernel_rfl) (by kernel_rfl) (fun _ _ _ h => h) rfl hHeld ?_
              try simp only [Act.put, List.setIfInBounds_toArray, List.set_cons_zero, List.set_cons_succ]
              refine take_not (i := 14) rfl (by kernel_rfl) (by kernel_rfl) (by kernel_rfl) (fun _ _ _ h => h) rfl hHeld ?_
              try simp only [Act.put, List.setIfInBounds_toArray, List.set_cons_zero, List.set_cons_succ]
              refine take_not (i := 15) rfl (by kernel_rfl) (by kernel_rfl) (by kernel_rfl) (fun _ _ _ h => h) rfl hHeld ?_
              try simp only [Act.put, List.setIfInBounds_toArray, List.set_cons_zero, List.set_cons_succ]
              refine take_op (i := 16) (v := ?vy16) rfl (by kernel_rfl) (by kernel_rfl) (by kernel_rfl) (fun _ _ _ h => h) rfl hHeld ?yy16 ?ry16
              case yy16 => (intro wz hz; go_simp; first | done | with_reducible rfl)
              try simp only [Act.put, List.setIfInBounds_toArray, List.set_cons_zero, List.set_cons_succ]
              refine wpAnyH_done (by kernel_rfl) ?_ _
              refine NoPanic.normal ?_
              go_wp2_with fail
              go_meet
              case rel =>
                have hre : r = RA := by rw [HR0.out, if_neg hA, List.nil_append]
                rw [← hre]; exact ⟨rfl, HC.out, HB.out.drew⟩
          case rest =>
            obtain ⟨rfl, hcA, hbA⟩ := hcut
            have CA : Hid _ := hcA
            have BA : Hid _ := hbA
            have hcA := hcA.lt
            have hsA := hbA.size
            clear hbA HC HB HR0 hclt hsr
            obtain ⟨wA, hwA⟩ : ∃ wA, wA = wc := ⟨_, rfl⟩
            subst hwA
            go_upto_region 23 with fail
            go_cut [132] from 82 to 145 (fun sc wx => sc = .bool false ∧ cutOf wx w.heap.size c RB false ∧ Below w.heap.size w wx)
            case first =>
              by_cases hB : k < n1
              · obtain ⟨qb1, qo1, y, rfl, hq1, e1, hy⟩ := hc1 k hB
                obtain ⟨ya, yc, rfl, hym⟩ := hy.slice
                have a2' : (k : Int) < (n1 : Int) := by omega
                have hp5 := hpk hB
                have hre : RA = blobB (ps k) ++ (blobB (ps k) ++ RB) := by rw [HRA.out, if_pos hB, List.append_assoc]
                have hrl2 : (blobB (ps k) ++ (blobB (ps k) ++ RB)).length ≤ 200000 := by rw [← hre]; exact hrla
                have X := cblob_any c w.heap.size (blobB (ps k) ++ (blobB (ps k) ++ RB)) false ((ps k).length : Int) (by omega) wA.drew (by rw [← hre]; exact CA.out) (by omega)
                rw [part_back (ps k) (blobB (ps k) ++ RB) (by omega) _ (Int.le_refl _)] at X
                have XX : Hid _ := X
                have ay : ∀ wz, Below w.heap.size w wz → anyBytes wz (.slice ya (ps k).length yc) (ps k) := fun wz hz => hy.below hz (Nat.le_refl _)
                have AY : Hid _ := ay
                clear X hre hrl2 ay
                refine wp_region_noPanic ?_
                refine wp_region_held_drew (S := fun w' => Below w.heap.size w w') (by kernel_rfl) (BA.out.drew) (fun hHeld => ?_)
                refine take_op (i := 0) (v := ?vz0) rfl (by kernel_rfl) (by kernel_rfl) (by kernel_rfl) (fun _ _ _ h => h) rfl hHeld ?yz0 ?rz0
                case yz0 => (intro wz hz; go_simp; first | done | with_reducible rfl)
                try simp only [Act.put, List.setIfInBounds_toArray, List.set_cons_zero, List.set_cons_succ]
                refine take_op (i := 1) (v := ?vz1) rfl (by kernel_rfl) (by kernel_rfl) (by kernel_rfl) (fun _ _ _ h => h) rfl hHeld ?yz1 ?rz1
                case yz1 => (intro wz hz; go_simp; first | done | with_reducible rfl)
                try simp only [Act.put, List.setIfInBounds_toArray, List.set_cons_zero, List.set_cons_succ]
                refine take_op (i := 2) (v := ?vz2) rfl (by kernel_rfl) (by kernel_rfl) (by kernel_rfl) (fun _ _ _ h => h) rfl hHeld ?yz2 ?rz2
                case yz2 => (intro wz hz; go_simp; first | done | with_reducible rfl)
                try simp only [Act.put, List.setIfInBounds_toArray, List.set_cons_zero, List.set_cons_succ]
                refine take_op (i := 3) (v := ?vz3) rfl (by kernel_rfl) (by kernel_rfl) (by kernel_rfl) (fun _ _ _ h => h) rfl hHeld ?yz3 ?rz3
                case yz3 => (intro wz hz; go_simp; first | done | with_reducible rfl)
                try simp only [Act.put, List.setIfInBounds_toArray, List.set_cons_zero, List.set_cons_succ]
                refine take_op (i := 4) (v := ?vz4) rfl (by kernel_rfl) (by kernel_rfl) (by kernel_rfl) (fun _ _ _ h => h) rfl hHeld ?yz4 ?rz4
                case yz4 => (intro wz hz; go_simp; first | done | with_reducible rfl)
                try simp only [Act.put, List.setIfInBounds_toArray, List.set_cons_zero, List.set_cons_succ]
                refine take_op (i := 5) (v := ?vz5) rfl (by kernel_rfl) (by kernel_rfl) (by kernel_rfl) (fun _ _ _ h => h) rfl hHeld ?yz5 ?rz5
                case yz5 => (intro wz hz; go_simp; first | done | with_reducible rfl)
                try simp only [Act.put, List.setIfInBounds_toArray, List.set_cons_zero, List.set_cons_succ]
                refine take_op (i := 6) (v := ?vz6) rfl (by kernel_rfl) (by kernel_rfl) (by kernel_rfl) (fun _ _ _ h => h) rfl hHeld ?yz6 ?rz6
                case yz6 => (intro wz hz; go_simp; first | done | with_reducible rfl)
                try simp only [Act.put, List.setIfInBounds_toArray, List.set_cons_zero, List.set_cons_succ]
                refine take_op (i := 7) (v := ?vz7) rfl (by kernel_rfl) (by kernel_rfl) (by kernel_rfl) (fun _ _ _ h => h) rfl hHeld ?yz7 ?rz7
                case yz7 => (intro wz hz; go_simp; first | done | with_reducible rfl)
                try simp only [Act.put, List.setIfInBounds_toArray, List.set_cons_zero, List.set_cons_succ]
                refine take_op (i := 8) (v := ?vz8) rfl (by kernel_rfl) (by kernel_rfl) (by kernel_rfl) (fun _ _ _ h => h) rfl hHeld ?yz8 ?rz8
                case yz8 => (intro wz hz; go_simp; first | done | with_reducible rfl)
                try simp only [Act.put, List.setIfInBounds_toArray, List.set_cons_zero, List.set_cons_succ]
                refine take_op (i := 9) (v := ?vz9) rfl (by kernel_rfl) (by kernel_rfl) (by kernel_rfl) (fun _ _ _ h => h) rfl hHeld ?yz9 ?rz9
                case yz9 => (intro wz hz; have hcz := (Below.cell hz (p := ⟨qb1, qo1 + k, none⟩) hq1).trans e1; go_simp; first | done | with_reducible rfl)
                try simp only [Act.put, List.setIfInBounds_toArray, List.set_cons_zero, List.set_cons_succ]
                refine take_op (i := 10) (v := ?vz10) rfl (by kernel_rfl) (by kernel_rfl) (by kernel_rfl) (fun _ _ _ h => h) rfl hHeld ?yz10 ?rz10
                case yz10 => (intro wz hz; go_simp; first | done | with_reducible rfl)
                try simp only [Act.put, List.setIfInBounds_toArray, List.set_cons_zero, List.set_cons_succ]
                refine take_op (i := 13) (v := ?vz13) rfl (by kernel_rfl) (by kernel_rfl) (by kernel_rfl) (fun _ _ _ h => h) rfl hHeld ?yz13 ?rz13
                case yz13 => (intro wz hz; go_simp; first | done | with_reducible rfl)
                try simp only [Act.put, List.setIfInBounds_toArray, List.set_cons_zero, List.set_cons_succ]
                refine take_op (i := 14) (v := ?vz14) rfl (by kernel_rfl) (by kernel_rfl) (by kernel_rfl) (fun _ _ _ h => h) rfl hHeld ?yz14 ?rz14
                case yz14 => (intro wz hz; go_simp; first | done | with_reducible rfl)
                try simp only [Act.put, List.setIfInBounds_toArray, List.set_cons_zero, List.set_cons_succ]
                refine take_op (i := 15) (v := ?vz15) rfl (by kernel_rfl) (by kernel_rfl) (by kernel_rfl) (fun _ _ _ h => h) rfl hHeld ?yz15 ?rz15
                case yz15 => (intro wz hz; go_simp; first | done | with_reducible rfl)
                try simp only [Act.put, List.setIfInBounds_toArray, List.set_cons_zero, List.set_cons_succ]
                refine take_op (i := 16) (v := ?vz16) rfl (by kernel_rfl) (by kernel_rfl) (by kernel_rfl) (fun _ _ _ h => h) rfl hHeld ?yz16 ?rz16
                case yz16 => (intro wz hz; have hcz := (Below.cell hz (p := ⟨qb1, qo1 + k, none⟩) hq1).trans e1; go_simp; first | done | with_reducible rfl)
                try simp only [Act.put, List.setIfInBounds_toArray, List.set_cons_zero, List.set_cons_succ]
                refine take_op (i := 17) (v := ?vz17) rfl (by kernel_rfl) (by kernel_rfl) (by kernel_rfl) (fun _ _ _ h => h) rfl hHeld ?yz17 ?rz17
                case yz17 => (intro wz hz; have hcv := convA wz _ _ (AY.out wz hz); go_simp; first | done | with_reducible rfl)
                try simp only [Act.put, List.setIfInBounds_toArray, List.set_cons_zero, List.set_cons_succ]
                refine take_one (i := 11) rfl (by kernel_rfl) rfl (fun K hK => ?_)
                go_simp
                refine Calls.mono XX.out ?_
                rintro e w9 ⟨v9, rfl, hn9, hc9, hb9⟩
                refine hK.out _ _ (hHeld.trans (But.to_below hb9 hcge hsA)) (fun hHeld => ?_)
                clear hK K
                try simp only [Act.put, List.setIfInBounds_toArray, List.set_cons_zero, List.set_cons_succ]
                refine wpAnyH_stronger (S' := fun w' => Below w.heap.size w w' ∧ isBytes w' v9 (ps k)) (fun _ h => h.1) _ _ _ _ ?_
                have hHeld : Below w.heap.size w w9 ∧ isBytes w9 v9 (ps k) := ⟨hHeld, hn9.is⟩
                have X2 := ctext_any c w.heap.size (blobB (ps k) ++ RB) false 5000 (by omega) w9 hc9
                rw [part_back (ps k) RB (by omega) _ (by omega)] at X2
                have XX2 : Hid _ := X2
                have N9 : Hid _ := hn9
                have hs9 := hb9.size
                clear X2 hc9 XX hn9 hb9
                refine take_op (i := 12) (v := ?vz12) rfl (by kernel_rfl) (by kernel_rfl) (by kernel_rfl) (fun _ _ _ h => h) rfl hHeld ?yz12 ?rz12
                case yz12 => (intro wz hz; have hcv := conv8 wz v9 _ hz.2; go_simp; first | done | with_reducible rfl)
                try simp only [Act.put, List.setIfInBounds_toArray, List.set_cons_zero, List.set_cons_succ]
                refine take_op (i := 18) (v := ?vz18) rfl (by kernel_rfl) (by kernel_rfl) (by kernel_rfl) (fun _ _ _ h => h) rfl hHeld ?yz18 ?rz18
                case yz18 => (intro wz hz; go_simp; first | done | with_reducible rfl)
                try simp only [Act.put, List.setIfInBounds_toArray, List.set_cons_zero, List.set_cons_succ]
                refine take_op (i := 19) (v := ?vz19) rfl (by kernel_rfl) (by kernel_rfl) (by kernel_rfl) (fun _ _ _ h => h) rfl hHeld ?yz19 ?rz19
                case yz19 => (intro wz hz; go_simp; first | done | with_reducible rfl)
                try simp only [Act.put, List.setIfInBounds_toArray, List.set_cons_zero, List.set_cons_succ]
                refine take_op (i := 20) (v := ?vz20) rfl (by kernel_rfl) (by kernel_rfl) (by kernel_rfl) (fun _ _ _ h => h) rfl hHeld ?yz20 ?rz20
                case yz20 => (intro wz hz; go_simp; first | done | with_reducible rfl)
                try simp only [Act.put, List.setIfInBounds_toArray, List.set_cons_zero, List.set_cons_succ]
                refine take_op (i := 22) (v := ?vz22) rfl (by kernel_rfl) (by kernel_rfl) (by kernel_rfl) (fun _ _ _ h => h) rfl hHeld ?yz22 ?rz22
                case yz22 => (intro wz hz; go_simp; first | done | with_reducible rfl)
                try simp only [Act.put, List.setIfInBounds_toArray, List.set_cons_zero, List.set_cons_succ]
                refine take_op (i := 23) (v := ?vz23) rfl (by kernel_rfl) (by kernel_rfl) (by kernel_rfl) (fun _ _ _ h => h) rfl hHeld ?yz23 ?rz23
                case yz23 => (intro wz hz; go_simp; first | done | with_reducible rfl)
                try simp only [Act.put, List.setIfInBounds_toArray, List.set_cons_zero, List.set_cons_succ]
                refine take_op (i := 24) (v := ?vz24) rfl (by kernel_rfl) (by kernel_rfl) (by kernel_rfl) (fun _ _ _ h => h) rfl hHeld ?yz24 ?rz24
                case yz24 => (intro wz hz; go_simp; first | done | with_reducible rfl)
                try simp only [Act.put, List.setIfInBounds_toArray, List.set_cons_zero, List.set_cons_succ]
                refine take_op (i := 25) (v := ?vz25) rfl (by kernel_rfl) (by kernel_rfl) (by kernel_rfl) (fun _ _ _ h => h) rfl hHeld ?yz25 ?rz25
                case yz25 => (intro wz hz; have hcz := (Below.cell hz.1 (p := ⟨qb1, qo1 + k, none⟩) hq1).trans e1; go_simp; first | done | with_reducible rfl)
                try simp only [Act.put, List.setIfInBounds_toArray, List.set_cons_zero, List.set_cons_succ]
                refine take_op (i := 26) (v := ?vz26) rfl (by kernel_rfl) (by kernel_rfl) (by kernel_rfl) (fun _ _ _ h => h) rfl hHeld ?yz26 ?rz26
                case yz26 => (intro wz hz; have hcv := convA wz _ _ (AY.out wz hz.1); go_simp; first | done | with_reducible rfl)
                try simp only [Act.put, List.setIfInBounds_toArray, List.set_cons_zero, List.set_cons_succ]
                refine take_one (i := 21) rfl (by kernel_rfl) rfl (fun K hK => ?_)
                go_simp
                refine Calls.mono XX2.out ?_
                rintro e w8 ⟨rfl, hc8, hb8⟩
                refine hK.out _ _ ⟨hHeld.1.trans (But.to_below hb8 hcge hHeld.1.size), hHeld.2.far (fun j hj => by
                  have := newBytes.block N9.out j hj
                  exact hb8.block j this.2 (by have h := this.1; simp at h; omega)) hb8.size⟩ (fun hHeld => ?_)
                clear hK K
                try simp only [Act.put, List.setIfInBounds_toArray, List.set_cons_zero, List.set_cons_succ]
                refine take_op (i := 27) (v := ?vz27) rfl (by kernel_rfl) (by kernel_rfl) (by kernel_rfl) (fun _ _ _ h => h) rfl hHeld ?yz27 ?rz27
                case yz27 => (intro wz hz; go_simp; first | done | with_reducible rfl)
                try simp only [Act.put, List.setIfInBounds_toArray, List.set_cons_zero, List.set_cons_succ]
                refine take_op (i := 28) (v := ?vz28) rfl (by kernel_rfl) (by kernel_rfl) (by kernel_rfl) (fun _ _ _ h => h) rfl hHeld ?yz28 ?rz28
                case yz28 => (intro wz hz; go_simp; first | done | with_reducible rfl)
                try simp only [Act.put, List.setIfInBounds_toArray, List.set_cons_zero, List.set_cons_succ]
                refine take_op (i := 29) (v := ?vz29) rfl (by kernel_rfl) (by kernel_rfl) (by kernel_rfl) (fun _ _ _ h => h) rfl hHeld ?yz29 ?rz29
                case yz29 => (intro wz hz; go_simp; first | done | with_reducible rfl)
                try simp only [Act.put, List.setIfInBounds_toArray, List.set_cons_zero, List.set_cons_succ]
                refine wpAnyH_done (by kernel_rfl) ?_ _
                refine NoPanic.normal ?_
                have C8 : Hid _ := hc8
                have B8 : Hid _ := hHeld.1
                clear hHeld hb8 hc8 XX2 e1 hy AY N9
                go_wp2_with fail
                go_meet
                case rel => exact ⟨rfl, C8.out, B8.out⟩
              · have a2' : (n1 : Int) ≤ (k : Int) := by omega
                refine wp_region_noPanic ?_
                refine wp_region_held_drew (S := fun w' => Below w.heap.size w w') (by kernel_rfl) (BA.out.drew) (fun hHeld => ?_)
                refine take_op (i := 0) (v := ?vq0) rfl (by kernel_rfl) (by kernel_rfl) (by kernel_rfl) (fun _ _ _ h => h) rfl hHeld ?yq0 ?rq0
                case yq0 => (intro wz hz; go_simp; first | done | with_reducible rfl)
                try simp only [Act.put, List.setIfInBounds_toArray, List.set_cons_zero, List.set_cons_succ]
                refine take_op (i := 1) (v := ?vq1) rfl (by kernel_rfl) (by kernel_rfl) (by kernel_rfl) (fun _ _ _ h => h) rfl hHeld ?yq1 ?rq1
                case yq1 => (intro wz hz; go_simp; first | done | with_reducible rfl)
                try simp only [Act.put, List.setIfInBounds_toArray, List.set_cons_zero, List.set_cons_succ]
                refine take_op (i := 2) (v := ?vq2) rfl (by kernel_rfl) (by kernel_rfl) (by kernel_rfl) (fun _ _ _ h => h) rfl hHeld ?yq2 ?rq2
                case yq2 => (intro wz hz; go_simp; first | done | with_reducible rfl)
                try simp only [Act.put, List.setIfInBounds_toArray, List.set_cons_zero, List.set_cons_succ]
                refine take_op (i := 3) (v := ?vq3) rfl (by kernel_rfl) (by kernel_rfl) (by kernel_rfl) (fun _ _ _ h => h) rfl hHeld ?yq3 ?rq3
                case yq3 => (intro wz hz; go_simp; first | done | with_reducible rfl)
                try simp only [Act.put, List.setIfInBounds_toArray, List.set_cons_zero, List.set_cons_succ]
                refine take_op (i := 4) (v := ?vq4) rfl (by kernel_rfl) (by kernel_rfl) (by kernel_rfl) (fun _ _ _ h => h) rfl hHeld ?yq4 ?rq4
                case yq4 => (intro wz hz; go_simp; first | done | with_reducible rfl)
                try simp only [Act.put, List.setIfInBounds_toArray, List.set_cons_zero, List.set_cons_succ]
                refine take_not (i := 5) rfl (by kernel_rfl) (by kernel_rfl) (by kernel_rfl) (fun _ _ _ h => h) rfl hHeld ?_
                try simp only [Act.put, List.setIfInBounds_toArray, List.set_cons_zero, List.set_cons_succ]
                refine take_not (i := 6) rfl (by kernel_rfl) (by kernel_rfl) (by kernel_rfl) (fun _ _ _ h => h) rfl hHeld ?_
                try simp only [Act.put, List.setIfInBounds_toArray, List.set_cons_zero, List.set_cons_succ]
                refine take_not (i := 7) rfl (by kernel_rfl) (by kernel_rfl) (by kernel_rfl) (fun _ _ _ h => h) rfl hHeld ?_
                try simp only [Act.put, List.setIfInBounds_toArray, List.set_cons_zero, List.set_cons_succ]
                refine take_not (i := 8) rfl (by kernel_rfl) (by kernel_rfl) (by kernel_rfl) (fun _ _ _ h => h) rfl hHeld ?_
                try simp only [Act.put, List.setIfInBounds_toArray, List.set_cons_zero, List.set_cons_succ]
                refine take_not (i := 9) rfl (by kernel_rfl) (by kernel_rfl) (by kernel_rfl) (fun _ _ _ h => h) rfl hHeld ?_
                try simp only [Act.put, List.setIfInBounds_toArray, List.set_cons_zero, List.set_cons_succ]
                refine take_not (i := 10) rfl (by kernel_rfl) (by kernel_rfl) (by kernel_rfl) (fun _ _ _ h => h) rfl hHeld ?_
                try simp only [Act.put, List.setIfInBounds_toArray, List.set_cons_zero, List.set_cons_succ]
                refine take_not (i := 11) rfl (by kernel_rfl) (by kernel_rfl) (by kernel_rfl) (fun _ _ _ h => h) rfl hHeld ?_
                try simp only [Act.put, List.setIfInBounds_toArray, List.set_cons_zero, List.set_cons_succ]
                refine take_not (i := 12) rfl (by kernel_rfl) (by kernel_rfl) (by kernel_rfl) (fun _ _ _ h => h) rfl hHeld ?_
                try simp only [Act.put, List.setIfInBounds_toArray, List.set_cons_zero, List.set_cons_succ]
                refine take_not (i := 13) rfl (by kernel_rfl) (by kernel_rfl) (by kernel_rfl) (fun _ _ _ h => h) rfl hHeld ?_
                try simp only [Act.put, List.setIfInBounds_toArray, List.set_cons_zero, List.set_cons_succ]
                refine take_not (i := 14) rfl (by kernel_rfl) (by kernel_rfl) (by kernel_rfl) (fun _ _ _ h => h) rfl hHeld ?_
                try simp only [Act.put, List.setIfInBounds_toArray, List.set_cons_zero, List.set_cons_succ]
                refine take_not (i := 15) rfl (by kernel_rfl) (by kernel_rfl) (by kernel_rfl) (fun _ _ _ h => h) rfl hHeld ?_
                try simp only [Act.put, List.setIfInBounds_toArray, List.set_cons_zero, List.set_cons_succ]
                refine take_not (i := 16) rfl (by kernel_rfl) (by kernel_rfl) (by kernel_rfl) (fun _ _ _ h => h) rfl hHeld ?_
                try simp only [Act.put, List.setIfInBounds_toArray, List.set_cons_zero, List.set_cons_succ]
                refine take_not (i := 17) rfl (by kernel_rfl) (by kernel_rfl) (by kernel_rfl) (fun _ _ _ h => h) rfl hHeld ?_
                try simp only [Act.put, List.setIfInBounds_toArray, List.set_cons_zero, List.set_cons_succ]
                refine take_not (i := 18) rfl (by kernel_rfl) (by kernel_rfl) (by kernel_rfl) (fun _ _ _ h => h) rfl hHeld ?_
                try simp only [Act.put, List.setIfInBounds_toArray, List.set_cons_zero, List.set_cons_succ]
                refine take_not (i := 19) rfl (by kernel_rfl) (by kernel_rfl) (by kernel_rfl) (fun _ _ _ h => h) rfl hHeld ?_
                try simp only [Act.put, List.setIfInBounds_toArray, List.set_cons_zero, List.set_cons_succ]
                refine take_not (i := 20) rfl (by kernel_rfl) (by kernel_rfl) (by kernel_rfl) (fun _ _ _ h => h) rfl hHeld ?_
                try simp only [Act.put, List.setIfInBounds_toArray, List.set_cons_zero, List.set_cons_succ]
                refine take_not (i := 21) rfl (by kernel_rfl) (by kernel_rfl) (by kernel_rfl) (fun _ _ _ h => h) rfl hHeld ?_
                try simp only [Act.put, List.setIfInBounds_toArray, List.set_cons_zero, List.set_cons_succ]
                refine take_not (i := 22) rfl (by kernel_rfl) (by kernel_rfl) (by kernel_rfl) (fun _ _ _ h => h) rfl hHeld ?_
                try simp only [Act.put, List.setIfInBounds_toArray, List.set_cons_zero, List.set_cons_succ]
                refine take_not (i := 23) rfl (by kernel_rfl) (by kernel_rfl) (by kernel_rfl) (fun _ _ _ h => h) rfl hHeld ?_
                try simp only [Act.put, List.setIfInBounds_toArray, List.set_cons_zero, List.set_cons_succ]
                refine take_not (i := 24) rfl (by kernel_rfl) (by kernel_rfl) (by kernel_rfl) (fun _ _ _ h => h) rfl hHeld ?_
                try simp only [Act.put, List.setIfInBounds_toArray, List.set_cons_zero, List.set_cons_succ]
                refine take_not (i := 25) rfl (by kernel_rfl) (by kernel_rfl) (by kernel_rfl) (fun _ _ _ h => h) rfl hHeld ?_
                try simp only [Act.put, List.setIfInBounds_toArray, List.set_cons_zero, List.set_cons_succ]
                refine take_not (i := 26) rfl (by kernel_rfl) (by kernel_rfl) (by kernel_rfl) (fun _ _ _ h => h) rfl hHeld ?_
                try simp only [Act.put, List.setIfInBounds_toArray, List.set_cons_zero, List.set_cons_succ]
                refine take_not (i := 27) rfl (by kernel_rfl) (by kernel_rfl) (by kernel_rfl) (fun _ _ _ h => h) rfl hHeld ?_
                try simp only [Act.put, List.setIfInBounds_toArray, List.set_cons_zero, List.set_cons_succ]
                refine take_not (i := 28) rfl (by kernel_rfl) (by kernel_rfl) (by kernel_rfl) (fun _ _ _ h => h) rfl hHeld ?_
                try simp only [Act.put, List.setIfInBounds_toArray, List.set_cons_zero, List.set_cons_succ]
                refine take_op (i := 29) (v := ?vq29) rfl (by kernel_rfl) (by kernel_rfl) (by kernel_rfl) (fun _ _ _ h => h) rfl hHeld ?yq29 ?rq29
                case yq29 => (intro wz hz; go_simp; first | done | with_reducible rfl)
                try simp only [Act.put, List.setIfInBounds_toArray, List.set_cons_zero, List.set_cons_succ]
                refine wpAnyH_done (by kernel_rfl) ?_ _
                refine NoPanic.normal ?_
                go_wp2_with fail
                go_meet
                case rel =>
                  have hre : RA = RB := by rw [HRA.out, if_neg hB, List.nil_append]
                  rw [← hre]; exact ⟨rfl, CA.out, BA.out.drew⟩
            case rest =>
              obtain ⟨rfl, hcB, hbB⟩ := hcut
              have CB : Hid _ := hcB
              have BB : Hid _ := hbB
              have hcB := hcB.lt
              have hsB := hbB.size
              clear hbB CA BA HRA hcA hsA
              obtain ⟨wB, hwB⟩ : ∃ wB, wB = wc := ⟨_, rfl⟩
              subst hwB
              go_upto_region 25 with fail
              go_cut [145] from 82 to 145 (fun sc wx => sc = .bool false ∧ cutOf wx w.heap.size c r' false ∧ Below w.heap.size w wx)
              case first =>
                by_cases hC : k < n2
                · obtain ⟨qb2, qo2, rfl, hq2, e2⟩ := hc2 k hC
                  obtain ⟨g1, g2⟩ := hg32 k hC
                  have a4' : (k : Int) < (n2 : Int) := by omega
                  have hre : RB = g k ++ r' := by rw [HRB.out, if_pos hC]
                  have X := csum_any c w.heap.size (g k ++ r') false wB.drew (by rw [← hre]; exact CB.out)
                  rw [sum_back (g k) r' g1] at X
                  have XX : Hid _ := X
                  have cl : ∀ wz, Below w.heap.size w wz → ∀ i, i < 32 → wz.cell? ⟨qb2, qo2 + k * 32 + i, none⟩ = some (arrV (g k) i) := fun wz hz i hi => (hz.cell (p := ⟨qb2, qo2 + k * 32 + i, none⟩) hq2).trans (e2 i hi)
                  have CL : Hid _ := cl
                  have hnq : ∀ wx : World, (binOp .neq 51 (.agg (rowV 32 (arrV (g k)))) (.agg (rowV 32 (arrV (g k))))).run Try.prog wx = .ok (.bool false) wx := fun wx => by
                    have h := run_neq_arr wx 51 5 .u8 32 (fun i => (g k).getD i 0) (fun i => (g k).getD i 0) Try.underlying51 Try.underlying5 (by kernel_rfl) (by kernel_rfl)
                    rw [(arrEq_iff 32 _ _).2 (fun _ _ => rfl)] at h
                    exact h
                  clear X hre cl e2
                  refine wp_region_noPanic ?_
                  refine wp_region_held_drew (S := fun w' => Below w.heap.size w w') (by kernel_rfl) (BB.out.drew) (fun hHeld => ?_)
                  refine take_op (i := 0) (v := ?vs0) rfl (by kernel_rfl) (by kernel_rfl) (by kernel_rfl) (fun _ _ _ h => h) rfl hHeld ?ys0 ?rs0
                  case ys0 => (intro wz hz; go_simp; first | done | with_reducible rfl)
                  try simp only [Act.put, List.setIfInBounds_toArray, List.set_cons_zero, List.set_cons_succ]
                  refine take_op (i := 1) (v := ?vs1) rfl (by kernel_rfl) (by kernel_rfl) (by kernel_rfl) (fun _ _ _ h => h) rfl hHeld ?ys1 ?rs1
                  case ys1 => (intro wz hz; go_simp; first | done | with_reducible rfl)
                  try simp only [Act.put, List.setIfInBounds_toArray, List.set_cons_zero, List.set_cons_succ]
                  refine take_op (i := 2) (v := ?vs2) rfl (by kernel_rfl) (by kernel_rfl) (by kernel_rfl) (fun _ _ _ h => h) rfl hHeld ?ys2 ?rs2
                  case ys2 => (intro wz hz; go_simp; first | done | with_reducible rfl)
                  try simp only [Act.put, List.setIfInBounds_toArray, List.set_cons_zero, List.set_cons_succ]
                  refine take_op (i := 3) (v := ?vs3) rfl (by kernel_rfl) (by kernel_rfl) (by kernel_rfl) (fun _ _ _ h => h) rfl hHeld ?ys3 ?rs3
                  case ys3 => (intro wz hz; go_simp; first | done | with_reducible rfl)
                  try simp only [Act.put, List.setIfInBounds_toArray, List.set_cons_zero, List.set_cons_succ]
                  refine take_op (i := 4) (v := ?vs4) rfl (by kernel_rfl) (by kernel_rfl) (by kernel_rfl) (fun _ _ _ h => h) rfl hHeld ?ys4 ?rs4
                  case ys4 => (intro wz hz; go_simp; first | done | with_reducible rfl)
                  try simp only [Act.put, List.setIfInBounds_toArray, List.set_cons_zero, List.set_cons_succ]
                  refine take_op (i := 5) (v := ?vs5) rfl (by kernel_rfl) (by kernel_rfl) (by kernel_rfl) (fun _ _ _ h => h) rfl hHeld ?ys5 ?rs5
                  case ys5 => (intro wz hz; go_simp; first | done | with_reducible rfl)
                  try simp only [Act.put, List.setIfInBounds_toArray, List.set_cons_zero, List.set_cons_succ]
                  refine take_op (i := 7) (v := ?vs7) rfl (by kernel_rfl) (by kernel_rfl) (by kernel_rfl) (fun _ _ _ h => h) rfl hHeld ?ys7 ?rs7
                  case ys7 => (intro wz hz; go_simp; first | done | with_reducible rfl)
                  try simp only [Act.put, List.setIfInBounds_toArray, List.set_cons_zero, List.set_cons_succ]
                  refine take_op (i := 8) (v := ?vs8) rfl (by kernel_rfl) (by kernel_rfl) (by kernel_rfl) (fun _ _ _ h => h) rfl hHeld ?ys8 ?rs8
                  case ys8 => (intro wz hz; go_simp; first | done | with_reducible rfl)
                  try simp only [Act.put, List.setIfInBounds_toArray, List.set_cons_zero, List.set_cons_succ]
                  refine take_op (i := 9) (v := ?vs9) rfl (by kernel_rfl) (by kernel_rfl) (by kernel_rfl) (fun _ _ _ h => h) rfl hHeld ?ys9 ?rs9
                  case ys9 => (intro wz hz; go_simp; first | done | with_reducible rfl)
                  try simp only [Act.put, List.setIfInBounds_toArray, List.set_cons_zero, List.set_cons_succ]
                  refine take_load (i := 10) rfl (by kernel_rfl) (by kernel_rfl) (by kernel_rfl) 51 _ rfl qb2 (qo2 + k * 32) 32 (arrV (g k)) rfl _ Try.underlying51 rfl hi32 (fun _ _ _ h => h) rfl hHeld (fun wz hz => CL.out wz hz) ?_
                  try simp only [Act.put, List.setIfInBounds_toArray, List.set_cons_zero, List.set_cons_succ]
                  refine take_one (i := 6) rfl (by kernel_rfl) rfl (fun K hK => ?_)
                  go_simp
                  refine Calls.mono XX.out ?_
                  rintro e w9 ⟨rfl, hc9, hb9⟩
                  refine hK.out _ _ (hHeld.trans (But.to_below hb9 hcge hsB)) (fun hHeld => ?_)
                  clear hK K
                  try simp only [Act.put, List.setIfInBounds_toArray, List.set_cons_zero, List.set_cons_succ]
                  refine take_op (i := 11) (v := ?vs11) rfl (by kernel_rfl) (by kernel_rfl) (by kernel_rfl) (fun _ _ _ h => h) rfl hHeld ?ys11 ?rs11
                  case ys11 => (intro wz hz; have hnz := hnq wz; go_simp; first | done | with_reducible rfl)
                  try simp only [Act.put, List.setIfInBounds_toArray, List.set_cons_zero, List.set_cons_succ]
                  refine take_op (i := 12) (v := ?vs12) rfl (by kernel_rfl) (by kernel_rfl) (by kernel_rfl) (fun _ _ _ h => h) rfl hHeld ?ys12 ?rs12
                  case ys12 => (intro wz hz; go_simp; first | done | with_reducible rfl)
                  try simp only [Act.put, List.setIfInBounds_toArray, List.set_cons_zero, List.set_cons_succ]
                  refine wpAnyH_done (by kernel_rfl) ?_ _
                  refine NoPanic.normal ?_
                  have C9 : Hid _ := hc9
                  have B9 : Hid _ := hHeld
                  clear hHeld hb9 hc9 XX CL
                  go_wp2_with fail
                  go_meet
                  case rel => exact ⟨rfl, C9.out, B9.out⟩
                · have a4' : (n2 : Int) ≤ (k : Int) := by omega
                  refine wp_region_noPanic ?_
                  refine wp_region_held_drew (S := fun w' => Below w.heap.size w w') (by kernel_rfl) (BB.out.drew) (fun hHeld => ?_)
                  refine take_op (i := 0) (v := ?vt0) rfl (by kernel_rfl) (by kernel_rfl) (by kernel_rfl) (fun _ _ _ h => h) rfl hHeld ?yt0 ?rt0
                  case yt0 => (intro wz hz; go_simp; first | done | with_reducible rfl)
                  try simp only [Act.put, List.setIfInBounds_toArray, List.set_cons_zero, List.set_cons_succ]
                  refine take_op (i := 1) (v := ?vt1) rfl (by kernel_rfl) (by kernel_rfl) (by kernel_rfl) (fun _ _ _ h => h) rfl hHeld ?yt1 ?rt1
                  case yt1 => (intro wz hz; go_simp; first | done | with_reducible rfl)
                  try simp only [Act.put, List.setIfInBounds_toArray, List.set_cons_zero, List.set_cons_succ]
                  refine take_op (i := 2) (v := ?vt2) rfl (by kernel_rfl) (by kernel_rfl) (by kernel_rfl) (fun _ _ _ h => h) rfl hHeld ?yt2 ?rt2
                  case yt2 => (intro wz hz; go_simp; first | done | with_reducible rfl)
                  try simp only [Act.put, List.setIfInBounds_toArray, List.set_cons_zero, List.set_cons_succ]
                  refine take_op (i := 3) (v := ?vt3) rfl (by kernel_rfl) (by kernel_rfl) (by kernel_rfl) (fun _ _ _ h => h) rfl hHeld ?yt3 ?rt3
                  case yt3 => (intro wz hz; go_simp; first | done | with_reducible rfl)
                  try simp only [Act.put, List.setIfInBounds_toArray, List.set_cons_zero, List.set_cons_succ]
                  refine take_op (i := 4) (v := ?vt4) rfl (by kernel_rfl) (by kernel_rfl) (by kernel_rfl) (fun _ _ _ h => h) rfl hHeld ?yt4 ?rt4
                  case yt4 => (intro wz hz; go_simp; first | done | with_reducible rfl)
                  try simp only [Act.put, List.setIfInBounds_toArray, List.set_cons_zero, List.set_cons_succ]
                  refine take_not (i := 5) rfl (by kernel_rfl) (by kernel_rfl) (by kernel_rfl) (fun _ _ _ h => h) rfl hHeld ?_
                  try simp only [Act.put, List.setIfInBounds_toArray, List.set_cons_zero, List.set_cons_succ]
                  refine take_not (i := 6) rfl (by kernel_rfl) (by kernel_rfl) (by kernel_rfl) (fun _ _ _ h => h) rfl hHeld ?_
                  try simp only [Act.put, List.setIfInBounds_toArray, List.set_cons_zero, List.set_cons_succ]
                  refine take_not (i := 7) rfl (by kernel_rfl) (by kernel_rfl) (by kernel_rfl) (fun _ _ _ h => h) rfl hHeld ?_
                  try simp only [Act.put, List.setIfInBounds_toArray, List.set_cons_zero, List.set_cons_succ]
                  refine take_not (i := 8) rfl (by kernel_rfl) (by kernel_rfl) (by kernel_rfl) (fun _ _ _ h => h) rfl hHeld ?_
                  try simp only [Act.put, List.setIfInBounds_toArray, List.set_cons_zero, List.set_cons_succ]
                  refine take_not (i := 9) rfl (by kernel_rfl) (by kernel_rfl) (by kernel_rfl) (fun _ _ _ h => h) rfl hHeld ?_
                  try simp only [Act.put, List.setIfInBounds_toArray, List.set_cons_zero, List.set_cons_succ]
                  refine take_not (i := 10) rfl (by kernel_rfl) (by kernel_rfl) (by kernel_rfl) (fun _ _ _ h => h) rfl hHeld ?_
                  try simp only [Act.put, List.setIfInBounds_toArray, List.set_cons_zero, List.set_cons_succ]
                  refine take_not (i := 11) rfl (by kernel_rfl) (by kernel_rfl) (by kernel_rfl) (fun _ _ _ h => h) rfl hHeld ?_
                  try simp only [Act.put, List.setIfInBounds_toArray, List.set_cons_zero, List.set_cons_succ]
                  refine take_op (i := 12) (v := ?vt12) rfl (by kernel_rfl) (by kernel_rfl) (by kernel_rfl) (fun _ _ _ h => h) rfl hHeld ?yt12 ?rt12
                  case yt12 => (intro wz hz; go_simp; first | done | with_reducible rfl)
                  try simp only [Act.put, List.setIfInBounds_toArray, List.set_cons_zero, List.set_cons_succ]
                  refine wpAnyH_done (by kernel_rfl) ?_ _
                  refine NoPanic.normal ?_
                  go_wp2_with fail
                  go_meet
                  case rel =>
                    have hre : RB = r' := by rw [HRB.out, if_neg hC, List.nil_append]
                    rw [← hre]; exact ⟨rfl, CB.out, BB.out.drew⟩
              case rest =>
                obtain ⟨rfl, hcC, hbC⟩ := hcut
                have CC : Hid _ := hcC
                have BC : Hid _ := hbC
                clear hcC hbC CB BB
                go_wp2
                go_light
                exact ⟨⟨k + 1, r', by omega, by go_num, HR2.out.trans HF.out, CC.out, BC.out⟩, by simp [intOf]; omega⟩
        · obtain rfl : k = 500 := by omega
          obtain rfl : r = [] := by
            have := congrArg List.length (hr.trans HF.out.symm)
            rw [List.length_append] at this
            exact List.length_eq_zero_iff.1 (by omega)
          have HC : Hid _ := hc
          have HB : Hid _ := hb
          have hsr := hb.size
          clear hc hb hr
          go_wp2_with fail
          refine (left_any c w.heap.size [] false wr HC.out).mono ?_
          rintro e w' ⟨rfl, hw⟩
          obtain rfl := hw.symm
          clear hw
          simp only [List.length_nil]
          go_wp2_with fail
          refine (done_any c w.heap.size [] false wr HC.out).mono ?_
          rintro e w2 ⟨rfl, hc2', hb2⟩
          have B2 : Hid (Below w.heap.size w w2) := (show Below w.heap.size w w2 from HB.out.trans (But.to_below hb2 hcge hsr))
          clear hc2' hb2 HB HC
          have hd : errI (doneB [] false) = 0 := rfl
          rw [hd]
          clear hd
          go_wp2_with fail
          refine (awake_any w2).mono ?_
          rintro e w3 ⟨rfl, hb3⟩
          have B3 : Hid (Below w.heap.size w w3) := (show Below w.heap.size w w3 from B2.out.trans (hb3.mono B2.out.size))
          clear B2 hb3
          go_wp2
          go_ret
          exact ⟨rfl, B3.out⟩
end Go.Proofs.Ytldjefhgbigplaa
