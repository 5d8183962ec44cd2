import Derived.Test.YtfgndamdhciaoaaDoorShaPartsP
namespace Go.Proofs.YtfgndamdhciaoaaDoor
open Go.RowKit Go.Deep

set_option maxHeartbeats 2000000 in
set_option maxRecDepth 100000 in
theorem parts_some (l : List Int) (bv cv : Value) (nc : Nat) (c : Nat → Int) (w : World) (ht : tabIs w) (hlen : l.length ≤ 20000) (hbv : bytesUnder w w.heap.size bv l) (hcv : isU16s w cv nc c) (hnc : nc ≤ 300) :
    Calls Tryd.prog 7 #[bv, cv] w fun e w' => e = .returned (.bool true) ∧ Below w.heap.size w w' := by
  have ht0 := ht.1
  obtain ⟨a0, cap, rfl, hR0⟩ := rest_start hbv
  obtain ⟨_, hcr, hcc⟩ := hcv
  have q0 : (l.length : Int) ≤ 20000 := by omega
  have q1 : (nc : Int) ≤ 300 := by omega
  have hlenrun : ∃ a cc, cv = .slice a nc cc := by
    rcases hcc with ⟨rfl, rfl⟩ | ⟨pb, po, cp, rfl, _⟩
    · exact ⟨_, _, rfl⟩
    · exact ⟨_, _, rfl⟩
  obtain ⟨ca, cp, rfl⟩ := hlenrun
  have HBV : Hid _ := hbv
  clear hbv
  go_enter Tryd.func7, Tryd.ntmps7
  go_wp2_with fail
  refine (new_any w).mono ?_
  rintro e w1 ⟨rfl, hb1, hs1, hh1⟩
  have hA1 : hashAny w1 w.heap.size [] := hashAny_zero hh1
  clear hh1
  go_wp2_with fail
  go_loopw [5, 6, 8] (fun pv rv i wr => ∃ (k d r cc : Nat) (a : Option Addr) (svs : List Value), k ≤ nc ∧ i = .int .i64 k ∧ restIs w l a r cc d ∧ rv = .slice a r cc ∧ Below w.heap.size w wr ∧ hashAny wr w.heap.size (l.take d) ∧ owns wr (w.heap.size + 1) 28 pv svs ∧ svs.length = k ∧ gathered w svs k (l.take d)) (fun _ _ i _ => nc - (intOf i).toNat)
  case atStart => exact ⟨0, 0, l.length, cap, a0, [], by omega, rfl, hR0, rfl, hb1, hA1, owns_nil _ _ _, rfl, gathered_nil w⟩
  case round =>
    clear hb1 hA1 hR0
    obtain ⟨k, d, r, cc, a, svs, hk, rfl, hR, rfl, hb, hA, hown, hsl, hG⟩ := hrel
    have hdr := hR.1
    have hszr := hb.size
    have hNlt := hA.lt
    have hccn : (cc : Int) ≤ 9223372036854775807 := by have := hR.2.2.1; unfold maxLen at this; omega
    by_cases hlt : k < nc
    · have hcut : ∃ cb co, ca = some ⟨cb, co, none⟩ ∧ wr.cell? ⟨cb, co + k, none⟩ = some (.int .u16 (c k)) := by
        rcases hcc with ⟨h, h0⟩ | ⟨cb, co, cp2, h, hlt2, hcl⟩
        · omega
        · injection h with h1 h2 h3
          exact ⟨cb, co, h1, by rw [hb.cell (p := ⟨cb, co + k, none⟩) hlt2]; exact hcl k hlt⟩
      obtain ⟨cb, co, rfl, hcell2⟩ := hcut
      have hck := hcr k
      obtain ⟨x, hx⟩ := Int.eq_ofNat_of_zero_le hck.1
      rw [hx] at hcell2
      have hck1 : (x : Int) ≤ 65535 := by omega
      have b0 : (0 : Int) ≤ (k : Int) := by omega
      have b1 : (k : Int) < (nc : Int) := by omega
      clear hck hx hcr hcc
      by_cases h3 : x ≤ r
      · have h3i : (x : Int) ≤ (r : Int) := by omega
        have hnr : x ≤ r := by omega
        have hsl1 := hR.to x hnr
        obtain ⟨a', hsl2, hR2⟩ := hR.from x hnr
        have hbs := hR.piece x hnr
        obtain ⟨g, cp2, w2, hr, hown2, hg2, hat, hlt2⟩ := run_append (P := Tryd.prog) (wr.alloc (.cells #[.slice a x cc] 28)) 22 22 (w.heap.size + 1) 28 (.slice none 0 0) 24 Tryd.underlying22 hiS rfl u5 svs (hown.alloc _) wr.heap.size 0 1 1 [.slice a x cc] rfl (fun j u hu => one_slice wr _ j u hu) (fun u hu => by rw [List.mem_singleton.1 hu]; rfl) (by omega) (by unfold maxLen; omega) (by omega) (by have := hA.lt; simp; omega)
        have hNe : ∀ j, u5.ownBlock = some j → w.heap.size + 1 ≤ j := fun j hj => (hown.block j hj).1
        have hB2 : Below w.heap.size w w2 := (hb.alloc hszr _).grown hg2 (by simp; omega) (fun j hj => by have := hNe j hj; omega)
        have hA2 : hashAny w2 w.heap.size (l.take d) := by
          obtain ⟨v, f, h1, h2⟩ := hA
          exact ⟨v, f, World.rowIs.of_block h1 ((hg2.block _ (by simp; omega) (fun e => by have := hNe _ e.symm; omega)).trans (blk_alloc_lt _ _ _ (by omega))), h2⟩
        have hs2 := hg2.size
        rw [nblk_alloc] at hs2
        rw [hsl] at hr hown2
        have hlt3 := (hown2.block g rfl).2
        have HA2 : Hid _ := hA2
        have HO2 : Hid _ := hown2
        have HG : Hid _ := hG.add hbs (by rw [← List.take_add]; simp only [List.length_take]; omega)
        have HR2 : Hid _ := hR2
        have HBS : Hid _ := hbs
        clear hown hA hg2 hat hlt2 hNe hown2 hA2 hG hR2 hR hbs
        go_wp2_with (first | (at_builtin; refine wpList_append_run rfl _ _ _ rfl rfl rfl hr ?_))
        clear hr
        refine (write_one w.heap.size (l.take d) ((l.drop d).take x) _ w2 w HA2.out HBS.out hB2 (ht.below hB2 ht0) (by omega) ?_).mono ?_
        · simp only [List.length_take, List.length_drop]; omega
        rintro e w4 ⟨rfl, hb4, ho4⟩
        have HO4 : Hid _ := ho4
        clear ho4
        go_wp2_with fail
        have hsz4 := hb4.size
        rw [nblk_alloc] at hsz4
        have hB4 : Below w.heap.size w w4 := (hB2.alloc hB2.size _).trans ((hb4.mono (B' := w.heap.size) (by omega)).below (Nat.le_refl _))
        refine ⟨⟨k + 1, d + x, r - x, cc - x, a', svs ++ [.slice a x cc], by omega, by simp, HR2.out, by first | rfl | rw [Nat.sub_self], hB4, by rw [List.take_add]; exact hashOf.any HO4.out, ?_, HG.out.1, by rw [List.take_add]; exact HG.out⟩, by simp only [intOf]; omega⟩
        exact owns.far (owns.alloc HO2.out _) fun j hj => by
          have := owns.block HO2.out j hj
          exact hb4.block j (by omega) (by omega)
      · have h3i : (r : Int) < (x : Int) := by omega
        have hnr : r ≤ r := by omega
        have hsl1 := hR.to r hnr
        obtain ⟨a', hsl2, hR2⟩ := hR.from r hnr
        have hbs := hR.piece r hnr
        obtain ⟨g, cp2, w2, hr, hown2, hg2, hat, hlt2⟩ := run_append (P := Tryd.prog) (wr.alloc (.cells #[.slice a r cc] 28)) 22 22 (w.heap.size + 1) 28 (.slice none 0 0) 24 Tryd.underlying22 hiS rfl u5 svs (hown.alloc _) wr.heap.size 0 1 1 [.slice a r cc] rfl (fun j u hu => one_slice wr _ j u hu) (fun u hu => by rw [List.mem_singleton.1 hu]; rfl) (by omega) (by unfold maxLen; omega) (by omega) (by have := hA.lt; simp; omega)
        have hNe : ∀ j, u5.ownBlock = some j → w.heap.size + 1 ≤ j := fun j hj => (hown.block j hj).1
        have hB2 : Below w.heap.size w w2 := (hb.alloc hszr _).grown hg2 (by simp; omega) (fun j hj => by have := hNe j hj; omega)
        have hA2 : hashAny w2 w.heap.size (l.take d) := by
          obtain ⟨v, f, h1, h2⟩ := hA
          exact ⟨v, f, World.rowIs.of_block h1 ((hg2.block _ (by simp; omega) (fun e => by have := hNe _ e.symm; omega)).trans (blk_alloc_lt _ _ _ (by omega))), h2⟩
        have hs2 := hg2.size
        rw [nblk_alloc] at hs2
        rw [hsl] at hr hown2
        have hlt3 := (hown2.block g rfl).2
        have HA2 : Hid _ := hA2
        have HO2 : Hid _ := hown2
        have HG : Hid _ := hG.add hbs (by rw [← List.take_add]; simp only [List.length_take]; omega)
        have HR2 : Hid _ := hR2
        have HBS : Hid _ := hbs
        clear hown hA hg2 hat hlt2 hNe hown2 hA2 hG hR2 hR hbs
        go_wp2_with (first | (at_builtin; refine wpList_append_run rfl _ _ _ rfl rfl rfl hr ?_))
        clear hr
        refine (write_one w.heap.size (l.take d) ((l.drop d).take r) _ w2 w HA2.out HBS.out hB2 (ht.below hB2 ht0) (by omega) ?_).mono ?_
        · simp only [List.length_take, List.length_drop]; omega
        rintro e w4 ⟨rfl, hb4, ho4⟩
        have HO4 : Hid _ := ho4
        clear ho4
        go_wp2_with fail
        have hsz4 := hb4.size
        rw [nblk_alloc] at hsz4
        have hB4 : Below w.heap.size w w4 := (hB2.alloc hB2.size _).trans ((hb4.mono (B' := w.heap.size) (by omega)).below (Nat.le_refl _))
        refine ⟨⟨k + 1, d + r, r - r, cc - r, a', svs ++ [.slice a r cc], by omega, by simp, HR2.out, by first | rfl | rw [Nat.sub_self], hB4, by rw [List.take_add]; exact hashOf.any HO4.out, ?_, HG.out.1, by rw [List.take_add]; exact HG.out⟩, by simp only [intOf]; omega⟩
        exact owns.far (owns.alloc HO2.out _) fun j hj => by
          have := owns.block HO2.out j hj
          exact hb4.block j (by omega) (by omega)
    · obtain rfl : k = nc := by omega
      have hbs := hR.piece r (Nat.le_refl r)
      have hall : l.take d ++ (l.drop d).take r = l := by
        rw [← List.take_add, hdr, List.take_length]
      obtain ⟨g, cp2, w2, hr, hown2, hg2, hat, hlt2⟩ := run_append (P := Tryd.prog) (wr.alloc (.cells #[.slice a r cc] 28)) 22 22 (w.heap.size + 1) 28 (.slice none 0 0) 24 Tryd.underlying22 hiS rfl u5 svs (hown.alloc _) wr.heap.size 0 1 1 [.slice a r cc] rfl (fun j u hu => one_slice wr _ j u hu) (fun u hu => by rw [List.mem_singleton.1 hu]; rfl) (by omega) (by unfold maxLen; omega) (by omega) (by have := hA.lt; simp; omega)
      have hNe : ∀ j, u5.ownBlock = some j → w.heap.size + 1 ≤ j := fun j hj => (hown.block j hj).1
      have hB2 : Below w.heap.size w w2 := (hb.alloc hszr _).grown hg2 (by simp; omega) (fun j hj => by have := hNe j hj; omega)
      have hA2 : hashAny w2 w.heap.size (l.take d) := by
        obtain ⟨v, f, h1, h2⟩ := hA
        exact ⟨v, f, World.rowIs.of_block h1 ((hg2.block _ (by simp; omega) (fun e => by have := hNe _ e.symm; omega)).trans (blk_alloc_lt _ _ _ (by omega))), h2⟩
      have hs2 := hg2.size
      rw [nblk_alloc] at hs2
      rw [hsl] at hr hown2
      have hlt3 := (hown2.block g rfl).2
      have HA2 : Hid _ := hA2
      have HO2 : Hid _ := hown2
      have HG : Hid _ := hG.add hbs (by rw [hall]; exact hlen)
      have HBS : Hid _ := hbs
      clear hown hA hg2 hat hlt2 hNe hown2 hA2 hG hR hbs hcc
      go_wp2_with (first | (at_builtin; refine wpList_append_run rfl _ _ _ rfl rfl rfl hr ?_))
      clear hr
      refine (write_one w.heap.size (l.take d) ((l.drop d).take r) _ w2 w HA2.out HBS.out hB2 (ht.below hB2 ht0) (by omega) ?_).mono ?_
      · simp only [List.length_take, List.length_drop]; omega
      rintro e w4 ⟨rfl, hb4, ho4⟩
      rw [hall] at ho4
      have hsz4 := hb4.size
      rw [nblk_alloc] at hsz4
      have hB4 : Below w.heap.size w w4 := (hB2.alloc hB2.size _).trans ((hb4.mono (B' := w.heap.size) (by omega)).below (Nat.le_refl _))
      have HO4 : Hid (hashOf w4 w.heap.size l) := ho4
      have HO5 : Hid (owns w4 (w.heap.size + 1) 28 (.slice (some ⟨g, 0, none⟩) (k + 1) cp2) (svs ++ [.slice a r cc])) := owns.far (owns.alloc HO2.out _) fun j hj => by
        have := owns.block HO2.out j hj
        exact hb4.block j (by omega) (by omega)
      clear ho4 HO2 HA2
      go_wp2_with fail
      refine (shaSum_any 1 _ (fun _ => l) _ (one_is w4 w _ l HBV.out hB4) (fun i hi => ?_) (ht.below (hB4.alloc hB4.size _) ht0)).mono ?_
      · have hi' : i = 0 ∨ i = 1 := by omega
        rcases hi' with rfl | rfl <;> simp [flatTo] <;> omega
      rintro e w5 ⟨rfl, hb5⟩
      have hflat : flatTo (fun _ => l) 1 = l := by simp [flatTo]
      rw [hflat]
      have hi32 : (Tryd.prog.info? 26).map (·.size) = some 32 := by kernel_rfl
      have z5 := rowIs_zero w5 (Array.replicate 32 (.int .u8 0)) 26 32 (.int .u8 0) rfl
      have hsz5 := hb5.size
      rw [nblk_alloc] at hsz5
      go_wp2_with (first | (refine wpList_store_row rfl 26 _ _ rfl rfl w5.heap.size 0 32 _ rfl rfl hi32 (fun _ _ => rfl) _ _ _ z5 (by omega) ?_; intro w6 r6 hz6 hb6))
      obtain ⟨ps, hpar, hps, hpf⟩ := gathered.parts HG.out HO5.out hB4 (by omega)
      rw [hall] at hpf
      have hB5' : Below w4.heap.size w4 w5 := ((Below.refl w4.heap.size w4).alloc (Nat.le_refl _) _).trans (hb5.mono (by rw [nblk_alloc]; omega))
      have hB6' : Below w4.heap.size w4 w6 := (hB5'.alloc (by omega) _).trans ((hb6.mono (by rw [nblk_alloc]; omega)).below (by omega))
      have hS6 : partsHeld w l w5.heap.size (.slice (some ⟨g, 0, none⟩) (k + 1) cp2) (k + 1) ps w6 := by
        refine ⟨r6.congr fun i hi => by rw [if_pos (by omega), Nat.sub_zero], ?_, hpar.below hB6' (Nat.le_refl _), ?_, hB4.trans (hB6'.mono hB4.size)⟩
        · obtain ⟨v, f, q1, q2⟩ := hashOf.any HO4.out
          exact ⟨v, f, World.rowIs.of_block q1 (hB6'.block _ (World.rowIs.lt q1)), q2⟩
        · exact (ht.below hB4 ht0).below hB6' (ht.below hB4 ht0).1
      have heql : ∀ wx : World, (binOp .eql 26 (.agg (rowV 32 fun i => .int .u8 (sumI l i))) (.agg (rowV 32 fun i => .int .u8 (sumI l i)))).run Tryd.prog wx = .ok (.bool true) wx := fun wx => by
        rw [run_eql_arr wx 26 5 .u8 32 (sumI l) (sumI l) Tryd.underlying26 Tryd.underlying5 (by kernel_rfl) (by kernel_rfl), (arrEq_iff 32 _ _).2 (fun _ _ => rfl)]
      have hgd : Tryd.prog.eqGuardType Tryd.prog.depth 26 = false := by kernel_rfl
      have hwr : IntKind.u64.wrap (l.length : Int) = l.length := by unfold IntKind.wrap; simp [IntKind.signed, IntKind.bits]; omega
      clear r6 hz6 hb6 z5 hb5 hB5' hB6' hpar HG HO4 HO5 HBS HBV hb hb4 hB2 hB4
      refine wp_region_noPanic ?_
      refine wp_region_held_drew (S := partsHeld w l w5.heap.size (.slice (some ⟨g, 0, none⟩) (k + 1) cp2) (k + 1) ps) (by kernel_rfl) (hS6.below (Below.refl _ _).drew) (fun hHeld => ?_)
      refine take_op (i := 0) (v := ?v0) rfl (by kernel_rfl) (by kernel_rfl) (by kernel_rfl) (fun _ _ _ h => h) rfl hHeld ?y0 ?r0
      case y0 => (intro wz hz; go_simp; first | done | with_reducible rfl)
      try simp only [Act.put, List.setIfInBounds_toArray, List.set_cons_zero, List.set_cons_succ]
      refine take_load (i := 2) rfl (by kernel_rfl) (by kernel_rfl) (by kernel_rfl) 26 _ rfl w5.heap.size 0 32 _ rfl _ Tryd.underlying26 rfl hi32 (fun _ _ _ h => h) rfl hHeld (fun wz hz i hi => by rw [Nat.zero_add]; exact (hz.1).cell hi) ?_
      try simp only [Act.put, List.setIfInBounds_toArray, List.set_cons_zero, List.set_cons_succ]
      refine take_one (i := 1) rfl (by kernel_rfl) rfl (fun K hK => ?_)
      go_simp
      refine (shaSum_any (k + 1) _ ps _ hHeld.2.2.1 hps hHeld.2.2.2.1).mono ?_
      rintro e w7 ⟨rfl, hb7⟩
      rw [hpf]
      refine hK.out _ _ (hHeld.below hb7) (fun hHeld => ?_)
      clear hK K
      try simp only [Act.put, List.setIfInBounds_toArray, List.set_cons_zero, List.set_cons_succ]
      refine take_op (i := 3) (v := ?v3) rfl (by kernel_rfl) (by kernel_rfl) (by kernel_rfl) (fun _ _ _ h => h) rfl hHeld ?y3 ?r3
      case y3 => (intro wz hz; go_simp; first | done | with_reducible rfl)
      try simp only [Act.put, List.setIfInBounds_toArray, List.set_cons_zero, List.set_cons_succ]
      refine take_op (i := 4) (v := ?v4) rfl (by kernel_rfl) (by kernel_rfl) (by kernel_rfl) (fun _ _ _ h => h) rfl hHeld ?y4 ?r4
      case y4 => (intro wz hz; go_simp; first | done | with_reducible rfl)
      try simp only [Act.put, List.setIfInBounds_toArray, List.set_cons_zero, List.set_cons_succ]
      refine take_op (i := 5) (v := ?v5) rfl (by kernel_rfl) (by kernel_rfl) (by kernel_rfl) (fun _ _ _ h => h) rfl hHeld ?y5 ?r5
      case y5 => (intro wz hz; go_simp; first | done | with_reducible rfl)
      try simp only [Act.put, List.setIfInBounds_toArray, List.set_cons_zero, List.set_cons_succ]
      refine take_load (i := 7) rfl (by kernel_rfl) (by kernel_rfl) (by kernel_rfl) 26 _ rfl w5.heap.size 0 32 _ rfl _ Tryd.underlying26 rfl hi32 (fun _ _ _ h => h) rfl hHeld (fun wz hz i hi => by rw [Nat.zero_add]; exact (hz.1).cell hi) ?_
      try simp only [Act.put, List.setIfInBounds_toArray, List.set_cons_zero, List.set_cons_succ]
      refine take_one (i := 6) rfl (by kernel_rfl) rfl (fun K hK => ?_)
      go_simp
      refine (sum_any w.heap.size l _ hHeld.2.1 (by omega) hHeld.2.2.2.1.2).mono ?_
      rintro e w8 ⟨rfl, hb8⟩
      refine hK.out _ _ (hHeld.below hb8) (fun hHeld => ?_)
      clear hK K
      try simp only [Act.put, List.setIfInBounds_toArray, List.set_cons_zero, List.set_cons_succ]
      refine take_op (i := 8) (v := ?v8) rfl (by kernel_rfl) (by kernel_rfl) (by kernel_rfl) (fun _ _ _ h => h) rfl hHeld ?y8 ?r8
      case y8 => (intro wz hz; go_simp; first | done | with_reducible rfl)
      try simp only [Act.put, List.setIfInBounds_toArray, List.set_cons_zero, List.set_cons_succ]
      refine take_op (i := 9) (v := ?v9) rfl (by kernel_rfl) (by kernel_rfl) (by kernel_rfl) (fun _ _ _ h => h) rfl hHeld ?y9 ?r9
      case y9 => (intro wz hz; go_simp; first | done | with_reducible rfl)
      try simp only [Act.put, List.setIfInBounds_toArray, List.set_cons_zero, List.set_cons_succ]
      refine take_op (i := 10) (v := ?v10) rfl (by kernel_rfl) (by kernel_rfl) (by kernel_rfl) (fun _ _ _ h => h) rfl hHeld ?y10 ?r10
      case y10 => (intro wz hz; go_simp; first | done | with_reducible rfl)
      try simp only [Act.put, List.setIfInBounds_toArray, List.set_cons_zero, List.set_cons_succ]
      refine take_op (i := 11) (v := ?v11) rfl (by kernel_rfl) (by kernel_rfl) (by kernel_rfl) (fun _ _ _ h => h) rfl hHeld ?y11 ?r11
      case y11 => (intro wz hz; go_simp; first | done | with_reducible rfl)
      try simp only [Act.put, List.setIfInBounds_toArray, List.set_cons_zero, List.set_cons_succ]
      refine take_load (i := 13) rfl (by kernel_rfl) (by kernel_rfl) (by kernel_rfl) 26 _ rfl w5.heap.size 0 32 _ rfl _ Tryd.underlying26 rfl hi32 (fun _ _ _ h => h) rfl hHeld (fun wz hz i hi => by rw [Nat.zero_add]; exact (hz.1).cell hi) ?_
      try simp only [Act.put, List.setIfInBounds_toArray, List.set_cons_zero, List.set_cons_succ]
      refine take_one (i := 12) rfl (by kernel_rfl) rfl (fun K hK => ?_)
      go_simp
      refine (sum_any w.heap.size l _ hHeld.2.1 (by omega) hHeld.2.2.2.1.2).mono ?_
      rintro e w9 ⟨rfl, hb9⟩
      refine hK.out _ _ (hHeld.below hb9) (fun hHeld => ?_)
      clear hK K
      try simp only [Act.put, List.setIfInBounds_toArray, List.set_cons_zero, List.set_cons_succ]
      refine take_op (i := 14) (v := ?v14) rfl (by kernel_rfl) (by kernel_rfl) (by kernel_rfl) (fun _ _ _ h => h) rfl hHeld ?y14 ?r14
      case y14 => (intro wz hz; go_simp; first | done | with_reducible rfl)
      try simp only [Act.put, List.setIfInBounds_toArray, List.set_cons_zero, List.set_cons_succ]
      refine take_op (i := 15) (v := ?v15) rfl (by kernel_rfl) (by kernel_rfl) (by kernel_rfl) (fun _ _ _ h => h) rfl hHeld ?y15 ?r15
      case y15 => (intro wz hz; go_simp; first | done | with_reducible rfl)
      try simp only [Act.put, List.setIfInBounds_toArray, List.set_cons_zero, List.set_cons_succ]
      refine take_op (i := 16) (v := ?v16) rfl (by kernel_rfl) (by kernel_rfl) (by kernel_rfl) (fun _ _ _ h => h) rfl hHeld ?y16 ?r16
      case y16 => (intro wz hz; go_simp; first | done | with_reducible rfl)
      try simp only [Act.put, List.setIfInBounds_toArray, List.set_cons_zero, List.set_cons_succ]
      refine take_op (i := 17) (v := ?v17) rfl (by kernel_rfl) (by kernel_rfl) (by kernel_rfl) (fun _ _ _ h => h) rfl hHeld ?y17 ?r17
      case y17 => (intro wz hz; go_simp; first | done | with_reducible rfl)
      try simp only [Act.put, List.setIfInBounds_toArray, List.set_cons_zero, List.set_cons_succ]
      refine take_op (i := 19) (v := ?v19) rfl (by kernel_rfl) (by kernel_rfl) (by kernel_rfl) (fun _ _ _ h => h) rfl hHeld ?y19 ?r19
      case y19 => (intro wz hz; go_simp; first | done | with_reducible rfl)
      try simp only [Act.put, List.setIfInBounds_toArray, List.set_cons_zero, List.set_cons_succ]
      refine take_op (i := 20) (v := ?v20) rfl (by kernel_rfl) (by kernel_rfl) (by kernel_rfl) (fun _ _ _ h => h) rfl hHeld ?y20 ?r20
      case y20 => (intro wz hz; go_simp; first | done | with_reducible rfl)
      try simp only [Act.put, List.setIfInBounds_toArray, List.set_cons_zero, List.set_cons_succ]
      refine take_op (i := 21) (v := ?v21) rfl (by kernel_rfl) (by kernel_rfl) (by kernel_rfl) (fun _ _ _ h => h) rfl hHeld ?y21 ?r21
      case y21 => (intro wz hz; go_simp; first | done | with_reducible rfl)
      try simp only [Act.put, List.setIfInBounds_toArray, List.set_cons_zero, List.set_cons_succ]
      refine take_one (i := 18) rfl (by kernel_rfl) rfl (fun K hK => ?_)
      go_simp
      obtain ⟨v, f, hh, _⟩ := hHeld.2.1
      refine (len_any w.heap.size v f l.length _ hh).mono ?_
      rintro e wa ⟨rfl, h10⟩
      obtain rfl := h10.symm
      clear hh
      refine hK.out _ _ hHeld (fun hHeld => ?_)
      clear hK K
      try simp only [Act.put, List.setIfInBounds_toArray, List.set_cons_zero, List.set_cons_succ]
      refine take_op (i := 22) (v := ?v22) rfl (by kernel_rfl) (by kernel_rfl) (by kernel_rfl) (fun _ _ _ h => h) rfl hHeld ?y22 ?r22
      case y22 => (intro wz hz; go_simp; first | done | with_reducible rfl)
      try simp only [Act.put, List.setIfInBounds_toArray, List.set_cons_zero, List.set_cons_succ]
      refine take_op (i := 23) (v := ?v23) rfl (by kernel_rfl) (by kernel_rfl) (by kernel_rfl) (fun _ _ _ h => h) rfl hHeld ?y23 ?r23
      case y23 => (intro wz hz; go_simp; first | done | with_reducible rfl)
      try simp only [Act.put, List.setIfInBounds_toArray, List.set_cons_zero, List.set_cons_succ]
      refine take_op (i := 24) (v := ?v24) rfl (by kernel_rfl) (by kernel_rfl) (by kernel_rfl) (fun _ _ _ h => h) rfl hHeld ?y24 ?r24
      case y24 => (intro wz hz; go_simp; first | done | with_reducible rfl)
      try simp only [Act.put, List.setIfInBounds_toArray, List.set_cons_zero, List.set_cons_succ]
      refine take_one (i := 25) rfl (by kernel_rfl) rfl (fun K hK => ?_)
      go_simp
      refine (awake_any _ hHeld.2.2.2.1).mono ?_
      rintro e wb ⟨rfl, hb11⟩
      refine hK.out _ _ (hHeld.below hb11) (fun hHeld => ?_)
      clear hK K
      try simp only [Act.put, List.setIfInBounds_toArray, List.set_cons_zero, List.set_cons_succ]
      refine take_op (i := 26) (v := ?v26) rfl (by kernel_rfl) (by kernel_rfl) (by kernel_rfl) (fun _ _ _ h => h) rfl hHeld ?y26 ?r26
      case y26 => (intro wz hz; go_simp; first | done | with_reducible rfl)
      try simp only [Act.put, List.setIfInBounds_toArray, List.set_cons_zero, List.set_cons_succ]
      refine take_op (i := 27) (v := ?v27) rfl (by kernel_rfl) (by kernel_rfl) (by kernel_rfl) (fun _ _ _ h => h) rfl hHeld ?y27 ?r27
      case y27 => (intro wz hz; go_simp; first | done | with_reducible rfl)
      try simp only [Act.put, List.setIfInBounds_toArray, List.set_cons_zero, List.set_cons_succ]
      refine wpAnyH_done (by kernel_rfl) ?_ _
      refine NoPanic.normal ?_
      have hBz := hHeld.2.2.2.2
      clear hHeld
      go_wp2
      go_ret
      exact ⟨rfl, hBz⟩
end Go.Proofs.YtfgndamdhciaoaaDoor
