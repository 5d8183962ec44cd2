import Derived.Test.YtldjefhgbigplaaRefNum
import Derived.Test.YtldjefhgbigplaaDrawnS
namespace Go.Proofs.Ytldjefhgbigplaa
open Go.RowKit Go.Deep

theorem isRow_cell {W : World} {k : Nat} {u : Value} (h : W.cell? ⟨k, 0, none⟩ = some u) : isRow W (.slice (some ⟨k, 0, none⟩) 1 1) 1 (fun _ => u) :=
  Or.inr ⟨k, 0, 1, rfl, World.block_lt_of_cell? _ _ h, by unfold maxLen; omega, fun i hi => by
    obtain rfl : i = 0 := by omega
    exact h⟩
theorem conv8 (w : World) (v : Value) (l : List Int) (h : isBytes w v l) : (convert 22 9 v).run Try.prog w = .ok (.string (strOf l)) w :=
  run_convert_bytes (P := Try.prog) w 22 9 5 v l Try.underlying22 Try.underlying5 Try.underlying9 h
section
variable {P : Program}
/-- x[:n], x a slice of elements of one cell. -/
theorem run_slice_to (t e : TypeId) (b o len cap n : Nat) (hu : P.underlying t = some (.slice e)) (hs : (P.info? e).map (·.size) = some 1) (hm : n ≤ cap) (w : World) :
    (Instr.slice t (.slice (some ⟨b, o, none⟩) len cap) none (some (.int .i64 n)) none).run P w = .ok (.slice (some ⟨b, o, none⟩) n cap) w := by
  cases hq : P.info? e with
  | none => simp [hq] at hs
  | some i =>
    have h0 : (0 : Int) ≤ (n : Int) ∧ (n : Int) ≤ (cap : Int) := by omega
    simp [Instr.slice, Instr.sliceBounds, Instr.sliceBound, asIntOf, run_underlying hu, sizeOf, typeInfo, hq, h0, hm, Addr.add_mid]
end
theorem isBytes_to {w : World} {pb po len cap : Nat} {l : List Int} (h : isBytes w (.slice (some ⟨pb, po, none⟩) len cap) l) (n : Nat) (hn : n ≤ l.length) : isBytes w (.slice (some ⟨pb, po, none⟩) n cap) (l.take n) := by
  have hby := h.byte
  rcases h with ⟨h, _⟩ | ⟨pb', po', cap', he, g1, g2, g3, g4, _⟩
  · cases h
  · have he' : (pb = pb' ∧ po = po') ∧ len = l.length ∧ cap = cap' := by simpa using he
    obtain ⟨⟨rfl, rfl⟩, rfl, rfl⟩ := he'
    have hl : (l.take n).length = n := by rw [List.length_take]; omega
    exact Or.inr ⟨pb, po, cap, by rw [hl], by omega, g2, g3, fun i hi => by rw [hl] at hi; rw [g4 i (by omega), getD_take_le _ _ _ hi], take_byte hby n⟩
theorem szI_ge {x : Int} (j : Nat) (hj : j ≤ 7) (h : 256 ^ j ≤ x) : j < szI x := by
  have := szI_is x
  have hc : j = 0 ∨ j = 1 ∨ j = 2 ∨ j = 3 ∨ j = 4 ∨ j = 5 ∨ j = 6 ∨ j = 7 := by omega
  rcases hc with rfl | rfl | rfl | rfl | rfl | rfl | rfl | rfl <;> simp only [Int.reducePow] at h <;> omega
theorem szI_le_of {x : Int} (j : Nat) (hj : j ≤ 8) (h : x < 256 ^ j) : szI x ≤ j := by
  have := szI_is x
  have h8 := szI_le x
  have hc : j = 0 ∨ j = 1 ∨ j = 2 ∨ j = 3 ∨ j = 4 ∨ j = 5 ∨ j = 6 ∨ j = 7 ∨ j = 8 := by omega
  rcases hc with rfl | rfl | rfl | rfl | rfl | rfl | rfl | rfl | rfl <;> simp only [Int.reducePow] at h <;> omega
/-- bytes are those of the number that they make, just if the first is not nought. -/
theorem szI_horn (l : List Int) (hl : l.length ≤ 8) (hb : ∀ b ∈ l, 0 ≤ b ∧ b ≤ 255) : szI (horn l) = l.length ↔ ¬ (0 < l.length ∧ l.getD 0 0 = 0) := by
  cases l with
  | nil => simp [horn]; rfl
  | cons a l =>
    have ha := hb a (by simp)
    obtain ⟨h0, h1⟩ := horn_bound l (fun c hc => hb c (by simp [hc]))
    obtain ⟨g0, g1⟩ := horn_bound (a :: l) hb
    rw [List.length_cons] at hl g1 ⊢
    rw [List.getD_cons_zero]
    have hup := szI_le_of (l.length + 1) hl g1
    constructor
    · rintro h ⟨_, rfl⟩
      rw [horn_cons, Int.zero_mul, Int.zero_add] at h
      have := szI_le_of l.length (by omega) h1
      omega
    · intro h
      have ha1 : 1 ≤ a := by omega
      have : 256 ^ l.length ≤ horn (a :: l) := by
        rw [horn_cons]
        have := Int.mul_le_mul_of_nonneg_right ha1 (show (0 : Int) ≤ 256 ^ l.length from Int.le_of_lt (Int.pow_pos (by omega)))
        omega
      have := szI_ge l.length (by omega) this
      omega
theorem first_take (l : List Int) (h : 0 < l.length) (k : Nat) (hk : l.getD 0 0 = (k : Int)) : l.take (1 + k) = (k : Int) :: (l.drop 1).take k := by
  cases l with
  | nil => simp at h
  | cons a l =>
    rw [List.getD_cons_zero] at hk
    subst hk
    rw [Nat.add_comm, List.take_succ_cons]
    rfl
theorem numB_is (l : List Int) (h : 0 < l.length) (k : Nat) (hk : l.getD 0 0 = (k : Int)) (hk8 : k ≤ 8) (hkl : k < l.length) (hb : ∀ i, 0 ≤ l.getD i 0 ∧ l.getD i 0 ≤ 255) :
    numB (horn ((l.drop 1).take k)) = l.take (1 + k) ↔ ¬ (0 < k ∧ l.getD 1 0 = 0) := by
  have hlen : ((l.drop 1).take k).length = k := by rw [List.length_take, List.length_drop]; omega
  have hmem : ∀ b ∈ (l.drop 1).take k, 0 ≤ b ∧ b ≤ 255 := fun b hb' => bytes_mem (drop_byte hb 1) b (List.mem_of_mem_take hb')
  have hs := szI_horn ((l.drop 1).take k) (by omega) hmem
  rw [hlen] at hs
  have hg : 0 < k → ((l.drop 1).take k).getD 0 0 = l.getD 1 0 := fun hk0 => by rw [getD_take_le _ _ _ hk0, getD_drop]
  rw [first_take l h k hk]
  constructor
  · intro e
    unfold numB at e
    injection e with e1 _
    have := hs.1 (by omega)
    intro ⟨p1, p2⟩
    exact this ⟨p1, by rw [hg p1]; exact p2⟩
  · intro e
    have e2 : szI (horn ((l.drop 1).take k)) = k := hs.2 (fun ⟨p1, p2⟩ => e ⟨p1, by rw [← hg p1]; exact p2⟩)
    unfold numB
    rw [e2, digsI_horn k _ hlen hmem]
def firstR (l : List Int) : Int × Nat := (firstB l).getD (0, 0)
set_option maxHeartbeats 1000000 in
set_option maxRecDepth 100000 in
theorem rfirst_any (l : List Int) (v : Value) (w : World) (hv : isBytes w v l) :
    Calls Try.prog 45 #[v] w fun e w' => e = .returned (.tuple #[.int .u64 (firstR l).1, .int .i64 ((firstR l).2 : Int)]) ∧ Below w.heap.size w w' := by
  have hbyte := hv.byte
  have hres : ∀ (h : ¬ (0 < l.length ∧ l.getD 0 0 ≤ 8 ∧ l.getD 0 0 < l.length)), firstR l = (0, 0) := fun h => by unfold firstR firstB; rw [if_neg h]; rfl
  by_cases hl : l.length = 0
  · have HN : Hid _ := hres (by omega)
    obtain ⟨a, c, rfl, hm⟩ := hv.slice
    clear hv hbyte hres
    rw [hl]
    go_enter Try.func45, Try.ntmps45
    go_wp2
    go_ret2
    exact ⟨by rw [HN.out]; rfl, Below.refl _ _⟩
  · have hv0 := hv
    rcases hv with ⟨_, rfl⟩ | ⟨pb, po, cap, rfl, h2, h3, h4, h6, _⟩
    · exact absurd rfl hl
    · have hc0 := h6 0 (by omega)
      rw [Nat.add_zero] at hc0
      have hb0 := hbyte 0
      unfold maxLen at h3
      have hlm : (l.length : Int) ≤ 9223372036854775807 := by omega
      have hl0 : ((l.length : Int) == 0) = false := beq_eq_false_iff_ne.2 (by omega)
      have hl1 : (0 : Int) < (l.length : Int) := by omega
      generalize hB : l.getD 0 0 = b0 at *
      by_cases q1 : 8 < b0
      · have HN : Hid _ := hres (by omega)
        clear hres
        go_enter Try.func45, Try.ntmps45
        go_wp2
        go_ret2
        exact ⟨by rw [HN.out]; rfl, Below.refl _ _⟩
      · by_cases q2 : (l.length : Int) ≤ b0
        · have HN : Hid _ := hres (by omega)
          have q3 : (l.length : Int) < 1 + b0 := by omega
          clear hres
          go_enter Try.func45, Try.ntmps45
          go_wp2
          go_ret2
          exact ⟨by rw [HN.out]; rfl, Below.refl _ _⟩
        · obtain ⟨k, rfl⟩ := Int.eq_ofNat_of_zero_le hb0.1
          have hk8 : (k : Int) ≤ 8 := by omega
          have hkl : (k : Int) < (l.length : Int) := by omega
          have q3 : 1 + (k : Int) ≤ (l.length : Int) := by omega
          have hdl : (l.drop 1).length = l.length - 1 := by simp
          have hdb : ∀ i, 0 ≤ (l.drop 1).getD i 0 ∧ (l.drop 1).getD i 0 ≤ 255 := fun i => by rw [getD_drop]; exact hbyte _
          have HB : Hid _ := hB
          clear hB hres
          go_enter Try.func45, Try.ntmps45
          go_wp2
          go_loopw [5, 6] (fun x i wr => ∃ j : Nat, j ≤ k ∧ i = .int .i64 (1 + (j : Int)) ∧ x = .int .u64 (horn ((l.drop 1).take j)) ∧ wr = w) (fun _ i _ => 1 + k - (intOf i).toNat)
          case atStart => exact ⟨0, by omega, rfl, rfl, rfl⟩
          case round =>
            obtain ⟨j, hj, rfl, rfl, hwr⟩ := hrel
            obtain rfl := hwr.symm
            clear hwr
            obtain ⟨x0, x1⟩ := horn_take_bound (l.drop 1) hdb j
            by_cases hlt : j < k
            · have hc := h6 (1 + j) (by omega)
              have hcb := hbyte (1 + j)
              have hp := pow256' j (by omega)
              have b0 : (0 : Int) ≤ 1 + (j : Int) := by omega
              have b1 : 1 + (j : Int) < 1 + (k : Int) := by omega
              have b2 : 1 + (j : Int) < (l.length : Int) := by omega
              have b3 : (1 + (j : Int)).toNat = 1 + j := by omega
              have HT : Hid _ := horn_take (l.drop 1) j (by omega)
              have HG : Hid _ := getD_drop l 1 j
              generalize horn ((l.drop 1).take j) = X at *
              generalize l.getD (1 + j) 0 = c at *
              have hX : X < 72057594037927936 := by omega
              have hX2 : 256 * X + c ≤ 18446744073709551615 := by omega
              clear x1 hp
              go_wp2
              go_light
              exact ⟨⟨j + 1, by omega, by congr 1 <;> omega, by rw [HT.out, HG.out]; congr 1; omega, trivial⟩, by simp [intOf]; omega⟩
            · obtain rfl : j = k := by omega
              have e0 : l.getD 0 0 = (j : Int) := HB.out
              have et : (l.getD 0 0).toNat = j := by rw [e0]; rfl
              have hiff := numB_is l (by omega) j e0 (by omega) (by omega) hbyte
              have hp := pow256 j (by omega)
              have hx2 : horn ((l.drop 1).take j) < 18446744073709551616 := by omega
              have hsl := run_slice_to (P := Try.prog) 22 5 pb po l.length cap (1 + j) Try.underlying22 (by kernel_rfl) (by omega)
              simp only [show ((1 + j : Nat) : Int) = 1 + (j : Int) by omega] at hsl
              have hvt := isBytes_to hv0 (1 + j) (by omega)
              have HVT : Hid _ := hvt
              have HF : Hid (firstR l = if 0 < j ∧ l.getD 1 0 = 0 then (0, 0) else (horn ((l.drop 1).take j), 1 + j)) := by
                have : firstR l = if 0 < j ∧ l.getD 1 0 = 0 then (0, 0) else (horn ((l.drop 1).take j), 1 + j) := by
                  unfold firstR firstB
                  rw [if_pos (by omega), et]
                  split <;> rfl
                exact this
              have HX0 : Hid _ := x0
              have HX2 : Hid _ := hx2
              have HTB : Hid _ := take_byte hbyte (1 + j)
              by_cases hz : 0 < j ∧ l.getD 1 0 = 0
              · have hne : ((strOf (numB (horn ((l.drop 1).take j)))).toList == (strOf (l.take (1 + j))).toList) = false := by
                  rw [beq_eq_false_iff_ne, strOf_toList, strOf_toList]
                  intro h
                  have h2 := strOf_inj (numB_byte _) (take_byte hbyte (1 + j)) (by unfold strOf; rw [h])
                  exact hiff.1 h2 hz
                have HR : Hid _ := HF.out.trans (if_pos hz)
                clear HF hiff hvt hz e0 et x0 x1 hx2 hp
                generalize horn ((l.drop 1).take j) = X at *
                generalize l.take (1 + j) = tk at *
                go_wp2
                refine wp_region_noPanic ?_
                refine wp_region_held_drew (S := fun w' => isBytes w' (.slice (some ⟨pb, po, none⟩) (1 + j) cap) tk ∧ Below w.heap.size w w') (by kernel_rfl) ⟨HVT.out, (Below.refl w.heap.size w).drew⟩ (fun hHeld => ?_)
                refine take_op (i := 0) (v := ?va0) rfl (by kernel_rfl) (by kernel_rfl) (by kernel_rfl) (fun _ _ _ h => h) rfl hHeld ?ya0 ?ra0
                case ya0 => (intro wz hz; go_simp; first | done | with_reducible rfl)
                try simp only [Act.put, List.setIfInBounds_toArray, List.set_cons_zero, List.set_cons_succ]
                refine take_op (i := 3) (v := ?va3) rfl (by kernel_rfl) (by kernel_rfl) (by kernel_rfl) (fun _ _ _ h => h) rfl hHeld ?ya3 ?ra3
                case ya3 => (intro wz hz; go_simp; first | done | with_reducible rfl)
                try simp only [Act.put, List.setIfInBounds_toArray, List.set_cons_zero, List.set_cons_succ]
                refine take_op (i := 4) (v := ?va4) rfl (by kernel_rfl) (by kernel_rfl) (by kernel_rfl) (fun _ _ _ h => h) rfl hHeld ?ya4 ?ra4
                case ya4 => (intro wz hz; go_simp; first | done | with_reducible rfl)
                try simp only [Act.put, List.setIfInBounds_toArray, List.set_cons_zero, List.set_cons_succ]
                refine take_op (i := 5) (v := ?va5) rfl (by kernel_rfl) (by kernel_rfl) (by kernel_rfl) (fun _ _ _ h => h) rfl hHeld ?ya5 ?ra5
                case ya5 => (intro wz hz; go_simp; first | done | with_reducible rfl)
                try simp only [Act.put, List.setIfInBounds_toArray, List.set_cons_zero, List.set_cons_succ]
                refine take_op (i := 6) (v := ?va6) rfl (by kernel_rfl) (by kernel_rfl) (by kernel_rfl) (fun _ _ _ h => h) rfl hHeld ?ya6 ?ra6
                case ya6 => (intro wz hz; have hcv := conv8 wz _ _ hz.1; go_simp; first | done | with_reducible rfl)
                try simp only [Act.put, List.setIfInBounds_toArray, List.set_cons_zero, List.set_cons_succ]
                refine take_one (i := 1) rfl (by kernel_rfl) rfl (fun K hK => ?_)
                go_simp
                refine (rnumber_any X HX0.out HX2.out _).mono ?_
                rintro e w2 ⟨v2, rfl, hn2, hb2⟩
                refine hK.out _ _ ⟨hHeld.1.below hb2 (Nat.le_refl _), hHeld.2.trans (hb2.mono hHeld.2.size)⟩ (fun hHeld => ?_)
                clear hK K
                try simp only [Act.put, List.setIfInBounds_toArray, List.set_cons_zero, List.set_cons_succ]
                refine wpAnyH_stronger (S' := fun w' => isBytes w' v2 (numB X) ∧ Below w.heap.size w w' ∧ isBytes w' (.slice (some ⟨pb, po, none⟩) (1 + j) cap) tk) (fun _ h => ⟨h.2.2, h.2.1⟩) _ _ _ _ ?_
                have hHeld : isBytes w2 v2 (numB X) ∧ Below w.heap.size w w2 ∧ isBytes w2 (.slice (some ⟨pb, po, none⟩) (1 + j) cap) tk := ⟨hn2.is, hHeld.2, hHeld.1⟩
                refine take_op (i := 2) (v := ?va2) rfl (by kernel_rfl) (by kernel_rfl) (by kernel_rfl) (fun _ _ _ h => h) rfl hHeld ?ya2 ?ra2
                case ya2 => (intro wz hz; have hcv := conv8 wz v2 _ hz.1; go_simp; first | done | with_reducible rfl)
                try simp only [Act.put, List.setIfInBounds_toArray, List.set_cons_zero, List.set_cons_succ]
                refine take_op (i := 7) (v := ?va7) rfl (by kernel_rfl) (by kernel_rfl) (by kernel_rfl) (fun _ _ _ h => h) rfl hHeld ?ya7 ?ra7
                case ya7 => (intro wz hz; go_simp; first | done | with_reducible rfl)
                try simp only [Act.put, List.setIfInBounds_toArray, List.set_cons_zero, List.set_cons_succ]
                refine wpAnyH_done (by kernel_rfl) ?_ _
                refine NoPanic.normal ?_
                have hHeld : isBytes w2 v2 (numB X) ∧ Below w.heap.size w w2 := ⟨hHeld.1, hHeld.2.1⟩
                go_wp2
                go_ret2
                exact ⟨by rw [HR.out]; rfl, hHeld.2⟩
              · have hne : ((strOf (numB (horn ((l.drop 1).take j)))).toList == (strOf (l.take (1 + j))).toList) = true := by
                  rw [hiff.2 hz]; simp
                have HR : Hid _ := HF.out.trans (if_neg hz)
                clear HF hiff hvt hz e0 et x0 x1 hx2 hp
                generalize horn ((l.drop 1).take j) = X at *
                generalize l.take (1 + j) = tk at *
                go_wp2
                refine wp_region_noPanic ?_
                refine wp_region_held_drew (S := fun w' => isBytes w' (.slice (some ⟨pb, po, none⟩) (1 + j) cap) tk ∧ Below w.heap.size w w') (by kernel_rfl) ⟨HVT.out, (Below.refl w.heap.size w).drew⟩ (fun hHeld => ?_)
                refine take_op (i := 0) (v := ?vb0) rfl (by kernel_rfl) (by kernel_rfl) (by kernel_rfl) (fun _ _ _ h => h) rfl hHeld ?yb0 ?rb0
                case yb0 => (intro wz hz; go_simp; first | done | with_reducible rfl)
                try simp only [Act.put, List.setIfInBounds_toArray, List.set_cons_zero, List.set_cons_succ]
                refine take_op (i := 3) (v := ?vb3) rfl (by kernel_rfl) (by kernel_rfl) (by kernel_rfl) (fun _ _ _ h => h) rfl hHeld ?yb3 ?rb3
                case yb3 => (intro wz hz; go_simp; first | done | with_reducible rfl)
                try simp only [Act.put, List.setIfInBounds_toArray, List.set_cons_zero, List.set_cons_succ]
                refine take_op (i := 4) (v := ?vb4) rfl (by kernel_rfl) (by kernel_rfl) (by kernel_rfl) (fun _ _ _ h => h) rfl hHeld ?yb4 ?rb4
                case yb4 => (intro wz hz; go_simp; first | done | with_reducible rfl)
                try simp only [Act.put, List.setIfInBounds_toArray, List.set_cons_zero, List.set_cons_succ]
                refine take_op (i := 5) (v := ?vb5) rfl (by kernel_rfl) (by kernel_rfl) (by kernel_rfl) (fun _ _ _ h => h) rfl hHeld ?yb5 ?rb5
                case yb5 => (intro wz hz; go_simp; first | done | with_reducible rfl)
                try simp only [Act.put, List.setIfInBounds_toArray, List.set_cons_zero, List.set_cons_succ]
                refine take_op (i := 6) (v := ?vb6) rfl (by kernel_rfl) (by kernel_rfl) (by kernel_rfl) (fun _ _ _ h => h) rfl hHeld ?yb6 ?rb6
                case yb6 => (intro wz hz; have hcv := conv8 wz _ _ hz.1; go_simp; first | done | with_reducible rfl)
                try simp only [Act.put, List.setIfInBounds_toArray, List.set_cons_zero, List.set_cons_succ]
                refine take_one (i := 1) rfl (by kernel_rfl) rfl (fun K hK => ?_)
                go_simp
                refine (rnumber_any X HX0.out HX2.out _).mono ?_
                rintro e w2 ⟨v2, rfl, hn2, hb2⟩
                refine hK.out _ _ ⟨hHeld.1.below hb2 (Nat.le_refl _), hHeld.2.trans (hb2.mono hHeld.2.size)⟩ (fun hHeld => ?_)
                clear hK K
                try simp only [Act.put, List.setIfInBounds_toArray, List.set_cons_zero, List.set_cons_succ]
                refine wpAnyH_stronger (S' := fun w' => isBytes w' v2 (numB X) ∧ Below w.heap.size w w' ∧ isBytes w' (.slice (some ⟨pb, po, none⟩) (1 + j) cap) tk) (fun _ h => ⟨h.2.2, h.2.1⟩) _ _ _ _ ?_
                have hHeld : isBytes w2 v2 (numB X) ∧ Below w.heap.size w w2 ∧ isBytes w2 (.slice (some ⟨pb, po, none⟩) (1 + j) cap) tk := ⟨hn2.is, hHeld.2, hHeld.1⟩
                refine take_op (i := 2) (v := ?vb2) rfl (by kernel_rfl) (by kernel_rfl) (by kernel_rfl) (fun _ _ _ h => h) rfl hHeld ?yb2 ?rb2
                case yb2 => (intro wz hz; have hcv := conv8 wz v2 _ hz.1; go_simp; first | done | with_reducible rfl)
                try simp only [Act.put, List.setIfInBounds_toArray, List.set_cons_zero, List.set_cons_succ]
                refine take_op (i := 7) (v := ?vb7) rfl (by kernel_rfl) (by kernel_rfl) (by kernel_rfl) (fun _ _ _ h => h) rfl hHeld ?yb7 ?rb7
                case yb7 => (intro wz hz; go_simp; first | done | with_reducible rfl)
                try simp only [Act.put, List.setIfInBounds_toArray, List.set_cons_zero, List.set_cons_succ]
                refine wpAnyH_done (by kernel_rfl) ?_ _
                refine NoPanic.normal ?_
                have hHeld : isBytes w2 v2 (numB X) ∧ Below w.heap.size w w2 := ⟨hHeld.1, hHeld.2.1⟩
                go_wp2
                go_ret2
                exact ⟨by rw [HR.out]; first | rfl | (congr 3; omega), hHeld.2⟩
end Go.Proofs.Ytldjefhgbigplaa
