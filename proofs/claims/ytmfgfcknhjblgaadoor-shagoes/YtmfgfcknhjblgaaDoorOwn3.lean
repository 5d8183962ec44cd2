import Derived.Deep.AppendSrc
import Derived.Deep.MidRow
import Derived.Lib.ConvBytes
import Derived.Deep.Light
import Derived.Laws.BytesString
import Derived.Laws.Externs
import Derived.Test.YtmfgfcknhjblgaaDoorOwn1
import Derived.Test.YtmfgfcknhjblgaaDoorOwn2
set_option linter.unusedVariables false
set_option linter.unusedSimpArgs false
namespace Go.Proofs.YtmfgfcknhjblgaaDoor
open Go.RowKit Go.Deep

theorem isBytes.at {w : World} {v : Value} {l : List Int} (h : isBytes w v l) {b : Nat} (hb : w.heap.size ≤ b) : bytesAt w b v l := by
  rcases h with h | ⟨pb, po, cap, h1, h2, h3, h4, h6, h7⟩
  · exact Or.inl h
  · exact Or.inr (Or.inl ⟨pb, po, cap, h1, h2, h3, h4, by omega, h6, h7⟩)
theorem anyBytes.at {w : World} {v : Value} {l : List Int} (h : anyBytes w v l) {b : Nat} (hb : w.heap.size ≤ b) : bytesAt w b v l := by
  rcases h with h | h
  · exact h.at hb
  · exact Or.inr (Or.inr h)
/-- the table of the rounds' constants lies in block 0. -/
def tabIs (w : World) : Prop := 0 < w.heap.size ∧ ∀ i, i < 64 → w.cell? ⟨0, i, none⟩ = some (.int .u32 (kAt i))
theorem tabIs.below {w w' : World} {B : Nat} (h : tabIs w) (hb : Below B w w') (hB : 0 < B) : tabIs w' := ⟨Nat.lt_of_lt_of_le h.1 hb.size, fun i hi => by rw [hb.cell (p := ⟨0, i, none⟩) hB]; exact h.2 i hi⟩
theorem tabIs.but {w w' : World} {B b : Nat} (h : tabIs w) (hb : But B b w w') (hB : 0 < B) (hb0 : b ≠ 0) : tabIs w' := ⟨Nat.lt_of_lt_of_le h.1 hb.size, fun i hi => by rw [hb.cell hB (Ne.symm hb0)]; exact h.2 i hi⟩

/-- Write, whatever the parts, if they lie below the hash's block, or elsewhere. -/
theorem write_parts (b : Nat) (l : List Int) (n : Nat) (v : Value) (ps : Nat → List Int) (w w0 : World) (h : hashAny w b l) (hp : isParts w0 v n ps) (hw : Below w0.heap.size w0 w) (hb : w0.heap.size ≤ b)
    (hbig : ∀ i, i ≤ n → l.length + (flatTo ps i).length < 1099511627776) (ht : tabIs w) (hb0 : b ≠ 0) :
    Calls Tryd.prog 11 #[.pointer (some ⟨b, 0, none⟩), v] w fun e w' => e = .returned (.tuple #[]) ∧ But w.heap.size b w w' ∧ hashOf w' b (l ++ flatTo ps n) := by
  rcases hp with ⟨rfl, rfl⟩ | ⟨qb, qo, cap, sv, rfl, h2, h3, h4⟩
  · refine (write_none b l w h).mono ?_
    rintro e w' ⟨rfl, h1, h2⟩
    exact ⟨rfl, h1, by rw [flatTo, List.append_nil]; exact h2⟩
  · refine write_any b l n qb qo cap sv ps w h (by omega) (Nat.lt_of_lt_of_le h2 hw.size) (fun i hi => by rw [hw.cell (p := ⟨qb, qo + i, none⟩) h2]; exact (h4 i hi).1) (fun i hi => ?_) hbig h3 ht.2 hb0
    rcases (h4 i hi).2 with (h | ⟨pb, po, cap, h1, h2, h3, h4, h6, h7⟩) | h
    · exact Or.inl h
    · exact Or.inr (Or.inl ⟨pb, po, cap, h1, h2, h3, Nat.lt_of_lt_of_le h4 hw.size, by omega, fun i hi => by rw [hw.cell (p := ⟨pb, po + i, none⟩) h4]; exact h6 i hi, h7⟩)
    · exact Or.inr (Or.inr h)

theorem hashAny_zero {w : World} {b : Nat} (h : hashIs w b (fun _ => 0) (fun _ => 0) 0) : hashAny w b [] :=
  ⟨_, _, h, fun h => by simp at h, fun _ => ⟨by omega, by omega⟩, fun i hi => by simp at hi⟩

set_option maxHeartbeats 1000000 in
set_option maxRecDepth 100000 in
/-- sha.Sum, OF ANY PARTS. -/
theorem shaSum_any (n : Nat) (v : Value) (ps : Nat → List Int) (w : World) (hp : isParts w v n ps) (hbig : ∀ i, i ≤ n → (flatTo ps i).length < 1099511627776) (ht : tabIs w) :
    Calls Tryd.prog 17 #[v] w fun e w' => e = .returned (.agg (rowV 32 fun i => .int .u8 (sumI (flatTo ps n) i))) ∧ Below w.heap.size w w' := by
  have hi32 : (Tryd.prog.info? 30).map (·.size) = some 32 := by kernel_rfl
  have r0 := rowIs_zero w (Array.replicate 32 (.int .u8 0)) 30 32 (.int .u8 0) rfl
  have hb0 : Below w.heap.size w (w.alloc (.cells (Array.replicate 32 (.int .u8 0)) 30)) := (Below.refl w.heap.size w).alloc (Nat.le_refl _) _
  have hs0 : (w.alloc (.cells (Array.replicate 32 (.int .u8 0)) 30)).heap.size = w.heap.size + 1 := by simp
  have ht0 := ht.1
  go_enter Tryd.func17, Tryd.ntmps17
  go_wp2_with fail
  refine (new_any _).mono ?_
  rintro e w1 ⟨rfl, hb1, hs1, hh1⟩
  change w1.heap.size = (w.alloc (.cells (Array.replicate 32 (.int .u8 0)) 30)).heap.size + 1 at hs1
  change Below (w.alloc (.cells (Array.replicate 32 (.int .u8 0)) 30)).heap.size (w.alloc (.cells (Array.replicate 32 (.int .u8 0)) 30)) w1 at hb1
  change hashIs w1 (w.alloc (.cells (Array.replicate 32 (.int .u8 0)) 30)).heap.size (fun _ => 0) (fun _ => 0) 0 at hh1
  rw [hs0] at hs1 hb1 hh1
  have hB1 : Below w.heap.size w w1 := hb0.trans (hb1.mono (by omega))
  have r1 : w1.rowIs w.heap.size 30 32 (fun _ => .int .u8 0) := hb1.row r0 (by omega)
  clear hb0 hb1 r0 hs0
  go_wp2_with fail
  refine (write_parts (w.heap.size + 1) [] n v ps w1 w (hashAny_zero hh1) hp hB1 (by omega) (fun i hi => by rw [List.length_nil, Nat.zero_add]; exact hbig i hi) (ht.below hB1 ht0) (by omega)).mono ?_
  rintro e w2 ⟨rfl, hb2, ho2⟩
  rw [List.nil_append] at ho2
  have hB2 : Below w.heap.size w w2 := hB1.trans ((hb2.mono (by omega)).below (by omega))
  have r2 := hb2.row r1 (by omega) (by omega)
  have hs2 := hb2.size
  clear hb2 r1 hB1 hh1
  go_wp2_with fail
  refine (sum_any (w.heap.size + 1) (flatTo ps n) w2 ho2.any (hbig n (Nat.le_refl _)) (ht.below hB2 ht0).2).mono ?_
  rintro e w3 ⟨rfl, hb3⟩
  have hB3 : Below w.heap.size w w3 := hB2.trans (hb3.mono (by omega))
  have r3 := hb3.row r2 (by omega)
  clear hb3 r2 hB2 ho2
  go_wp2_with (first | (refine wpList_store_row rfl 30 _ _ rfl rfl w.heap.size 0 32 _ rfl rfl hi32 (fun _ _ => rfl) _ _ _ r3 (by omega) ?_; intro W4 r4 hz4 hb4))
  refine bodyPost_ret (results_cell_seg rfl _ _ w.heap.size 30 32 (fun i => .int .u8 (sumI (flatTo ps n) i)) _ rfl Tryd.underlying30 rfl hi32 (r4.congr fun i hi => ?_)) rfl ⟨rfl, hB3.trans ((hb4.mono (by have := hB3.size; omega)).below (Nat.le_refl _))⟩
  rw [if_pos (by omega), Nat.sub_zero]

set_option maxHeartbeats 1000000 in
set_option maxRecDepth 100000 in
/-- Sum, of a nil hash. -/
theorem sum_nil (w : World) (ht : tabIs w) :
    Calls Tryd.prog 14 #[.pointer none] w fun e w' => e = .returned (.agg (rowV 32 fun i => .int .u8 (sumI [] i))) ∧ Below w.heap.size w w' := by
  have hi32 : (Tryd.prog.info? 30).map (·.size) = some 32 := by kernel_rfl
  have r0 := rowIs_zero w (Array.replicate 32 (.int .u8 0)) 30 32 (.int .u8 0) rfl
  have hb0 : Below w.heap.size w (w.alloc (.cells (Array.replicate 32 (.int .u8 0)) 30)) := (Below.refl w.heap.size w).alloc (Nat.le_refl _) _
  have hs0 : (w.alloc (.cells (Array.replicate 32 (.int .u8 0)) 30)).heap.size = w.heap.size + 1 := by simp
  have ht0 := ht.1
  go_enter Tryd.func14, Tryd.ntmps14
  go_wp2_with fail
  refine (new_any _).mono ?_
  rintro e w1 ⟨rfl, hb1, hs1, hh1⟩
  change w1.heap.size = (w.alloc (.cells (Array.replicate 32 (.int .u8 0)) 30)).heap.size + 1 at hs1
  change Below (w.alloc (.cells (Array.replicate 32 (.int .u8 0)) 30)).heap.size (w.alloc (.cells (Array.replicate 32 (.int .u8 0)) 30)) w1 at hb1
  change hashIs w1 (w.alloc (.cells (Array.replicate 32 (.int .u8 0)) 30)).heap.size (fun _ => 0) (fun _ => 0) 0 at hh1
  rw [hs0] at hs1 hb1 hh1
  have hB1 : Below w.heap.size w w1 := hb0.trans (hb1.mono (by omega))
  have r1 : w1.rowIs w.heap.size 30 32 (fun _ => .int .u8 0) := hb1.row r0 (by omega)
  clear hb0 hb1 r0 hs0
  go_wp2_with fail
  refine (sum_any (w.heap.size + 1) [] w1 (hashAny_zero hh1) (by decide) (ht.below hB1 ht0).2).mono ?_
  rintro e w3 ⟨rfl, hb3⟩
  have hB3 : Below w.heap.size w w3 := hB1.trans (hb3.mono (by omega))
  have r3 := hb3.row r1 (by omega)
  clear hb3 r1 hB1 hh1
  go_wp2_with (first | (refine wpList_store_row rfl 30 _ _ rfl rfl w.heap.size 0 32 _ rfl rfl hi32 (fun _ _ => rfl) _ _ _ r3 (by omega) ?_; intro W4 r4 hz4 hb4))
  refine bodyPost_ret (results_cell_seg rfl _ _ w.heap.size 30 32 (fun i => .int .u8 (sumI [] i)) _ rfl Tryd.underlying30 rfl hi32 (r4.congr fun i hi => ?_)) rfl ⟨rfl, hB3.trans ((hb4.mono (by have := hB3.size; omega)).below (Nat.le_refl _))⟩
  rw [if_pos (by omega), Nat.sub_zero]
end Go.Proofs.YtmfgfcknhjblgaaDoor

/- append of a string to bytes of the call's own. -/
namespace Go.Proofs.YtmfgfcknhjblgaaDoor
open Go.RowKit Go.Deep

/-- a string's bytes. -/
def sBytes (s : ByteArray) : List Int := s.data.toList.map fun c => (c.toNat : Int)
theorem sBytes_length (s : ByteArray) : (sBytes s).length = s.size := by
  unfold sBytes; rw [List.length_map, Array.length_toList]; rfl
theorem sBytes_cells (s : ByteArray) : byteCells s = (sBytes s).map (Value.int .u8) := by
  unfold byteCells sBytes; rw [List.map_map]; rfl
theorem sBytes_byte (s : ByteArray) (i : Nat) : 0 ≤ (sBytes s).getD i 0 ∧ (sBytes s).getD i 0 ≤ 255 := by
  rw [List.getD_eq_getElem?_getD, sBytes, List.getElem?_map]
  cases h : s.data.toList[i]? with
  | none => exact ⟨by simp, by simp⟩
  | some c => have := c.toNat_lt; simp; omega
theorem strOf_sBytes (s : ByteArray) : strOf (sBytes s) = s := by
  unfold strOf sBytes
  rw [List.map_map]
  have : ((fun n : Int => UInt8.ofNat n.toNat) ∘ fun c : UInt8 => (c.toNat : Int)) = id := by funext c; simp
  rw [this]; simp
theorem sBytes_strOf (l : List Int) (h : ∀ i, 0 ≤ l.getD i 0 ∧ l.getD i 0 ≤ 255) : sBytes (strOf l) = l := by
  unfold strOf sBytes
  simp only [List.map_map]
  apply List.ext_getElem?
  intro i
  rw [List.getElem?_map]
  cases hi : l[i]? with
  | none => rfl
  | some x =>
    have := h i
    rw [List.getD_eq_getElem?_getD, hi] at this
    simp at this
    simp
    omega

theorem text_append_run (w : World) (B : Nat) (v : Value) (s : ByteArray) (l : List Int) (hv : newBytes w B v l) (h0 : 0 < l.length) (hs : l.length + s.size ≤ 1099511627776) (hB : B ≤ w.heap.size) :
    ∃ v' w', (Builtin.append_ #[34, 9] 34 #[v, .string s]).run Tryd.prog w = .ok v' w' ∧ newBytes w' B v' (l ++ sBytes s) ∧ Below B w w' := by
  have hbyte := getD_append_byte hv.2 (sBytes_byte s)
  obtain ⟨⟨_, hn | ⟨g, cap, cur, rfl, hg0, hg, hc, hm, hsz, ht⟩⟩, hvb⟩ := hv
  · rw [List.length_map] at hn; omega
  · rw [List.length_map, Nat.mul_one] at ht
    rw [Nat.mul_one] at hsz
    rw [List.length_map] at hc ⊢
    cases hq : Tryd.prog.info? 5 with
    | none => have := hi8; simp [hq] at this
    | some i =>
      have h8 := hi8
      simp only [hq, Option.map_some, Option.some.injEq, Prod.mk.injEq] at h8
      obtain ⟨hz, hsize, hby⟩ := h8
      have hsrc : Src Tryd.prog i.size 9 (.string s) s.size (byteCells s) w := by rw [hsize]; exact Src.ofString w Tryd.underlying9 s
      have hrow : w.rowIs g 5 cap (fun j => cur.getD j undef) := ⟨cur, hg, hsz, fun j hj => by rw [Array.getElem?_eq_getElem (by omega)]; simp [Array.getD, hsz, hj]⟩
      by_cases hroom : l.length + s.size ≤ cap
      · have hr := run_append_room_src (P := Tryd.prog) w 34 9 34 5 i Tryd.underlying34 hq g 0 l.length cap (.string s) s.size (byteCells s) hsrc hroom
          (fun j hj => by rw [byteCells_length] at hj; rw [hrow.cell (by rw [hsize]; omega)]; rfl) (fun j hj => hrow.frozen _)
        have hrow' := rowIs_setCells (byteCells s) (0 + l.length * i.size) hrow
        have hblk := rowIs_block hrow'
        refine ⟨_, _, hr, ⟨⟨by simp, Or.inr ⟨g, cap, _, ?_, hg0, hblk, ?_, hm, ?_, ?_⟩⟩, hbyte⟩, ?_⟩
        · rw [List.length_map, List.length_append, sBytes_length]
        · rw [List.length_map, List.length_append, sBytes_length]; exact hroom
        · rw [rowV_size, Nat.mul_one]
        · rw [List.length_map, List.length_append, sBytes_length, Nat.mul_one, hsize, Nat.mul_one, Nat.zero_add]
          apply List.ext_getElem?
          intro j
          rw [List.getElem?_take, Array.getElem?_toList, List.map_append, List.getElem?_append, List.length_map]
          by_cases hj : j < l.length
          · rw [if_pos (by omega), rowV_get _ _ _ (by omega), if_neg (by omega), if_pos hj, ← ht, List.getElem?_take, if_pos hj, Array.getElem?_toList, Array.getElem?_eq_getElem (by omega)]
            simp [Array.getD, hsz, show j < cap by omega]
          · rw [if_neg hj]
            by_cases hj2 : j < l.length + s.size
            · rw [if_pos hj2, rowV_get _ _ _ (by omega), if_pos (by rw [byteCells_length]; omega), sBytes_cells, List.getD_eq_getElem?_getD, getElem?_u8 (by rw [sBytes_length]; omega)]; rfl
            · rw [if_neg hj2, List.getElem?_eq_none (by rw [List.length_map, sBytes_length]; omega)]
        · exact below_setCells g hg0 _ _ (Below.refl _ _)
      · have hold : (Builtin.firstCells i.size l.length (.slice (some ⟨g, 0, none⟩) l.length cap)).run Tryd.prog w.drew = .ok (l.map (Value.int .u8)).toArray w.drew := by
          refine run_firstCells_some w.drew i.size l.length ⟨g, 0, none⟩ l.length cap _ (by rw [List.length_map, hsize, Nat.mul_one]) (fun j u hu => ?_)
          rw [Addr.add_mid, Nat.zero_add]
          have hj : j < l.length := by
            by_cases hj : j < l.length
            · exact hj
            · rw [List.getElem?_eq_none (by simp; omega)] at hu; cases hu
          rw [← ht, List.getElem?_take, if_pos hj, Array.getElem?_toList] at hu
          show w.cell? _ = _
          rw [cell_of_row _ _ _ _ _ _ hg]; exact hu
        have hr := run_append_grow_src (P := Tryd.prog) w 34 9 34 5 i (.int .u8 0) Tryd.underlying34 hq hz (some ⟨g, 0, none⟩) l.length cap (l.map (Value.int .u8)) hold (.string s) s.size (byteCells s) hsrc (by omega) (by omega)
          (growslice_fits (by omega) (by rw [hby]; omega))
        have hge := grownCap_ge w (l.length + s.size) cap 5
        have hcm : grownCap w (l.length + s.size) cap 5 ≤ maxLen := grownCap_le_maxLen w (l.length + s.size) cap 5 (by unfold maxLen; omega)
        refine ⟨_, _, hr, ⟨⟨by simp, Or.inr ⟨w.heap.size, _, _, ?_, hB, heap_alloc_new w.drew _, ?_, hcm, ?_, ?_⟩⟩, hbyte⟩, ?_⟩
        · rw [List.length_map, List.length_append, sBytes_length]
        · rw [List.length_map, List.length_append, sBytes_length]; exact hge
        · simp only [Array.size_append, List.size_toArray, size_zeroCells, List.length_append, List.length_map, byteCells_length]
          show _ + _ * (1 : Nat) = _
          omega
        · rw [List.length_map, List.length_append, sBytes_length, Nat.mul_one, List.map_append, sBytes_cells]
          simp only [Array.toList_append]
          exact List.take_left' (by simp [sBytes_length])
        · exact (Below.refl B w).drew.alloc (by simpa using hB) _
section
variable {P : Program}
theorem wp_append2_run {o : Oper} {a : Act} {w w' : World} {K : Act → World → Prop} {Q : Exit → Act → World → Prop} {v y r : Value} (s x : Operand) (t t' : TypeId)
    (ho : o.op = .call { callee := .builtin .append, args := #[s, x], argTypes := #[t, t'] }) (hs : a.eval s = v) (hx : a.eval x = y)
    (hr : (Builtin.append_ #[t, t'] o.type #[v, y]).run P w = .ok r w') (h : K (a.put o.dst r) w') : o.wp P a w K Q := by
  unfold Oper.wp execOp
  simp only [ho, resolve, invoke, builtin, Sem.run_bind, Sem.run_pure, Result.andThen_ok, List.map_toArray, List.map_cons, List.map_nil, hs, hx, hr]
  exact h
theorem wpList_append2_run {ops : Array Oper} {rest : List Oper} {o : Oper} {a : Act} {w w' : World} {Q : Exit → Act → World → Prop} {v y r : Value} (hgd : o.guard = none) (s x : Operand) (t t' : TypeId)
    (ho : o.op = .call { callee := .builtin .append, args := #[s, x], argTypes := #[t, t'] }) (hs : a.eval s = v) (hx : a.eval x = y)
    (hr : (Builtin.append_ #[t, t'] o.type #[v, y]).run P w = .ok r w') (h : wpList P ops Q rest (a.put o.dst r) w') : wpList P ops Q (o :: rest) a w :=
  wpList_plain hgd fun _ hK => wp_append2_run s x t t' ho hs hx hr (hK _ _ h)
end
end Go.Proofs.YtmfgfcknhjblgaaDoor

namespace Go.Proofs.YtmfgfcknhjblgaaDoor
set_option maxRecDepth 100000
open Go.RowKit Go.Deep

/-- a blob. -/
def blobB (p : List Int) : List Int := numB p.length ++ p
def blobsB (ps : Nat → List Int) (i : Nat) : List Int := blobB (ps i)
theorem blobB_length (p : List Int) : (blobB p).length = 1 + szI p.length + p.length := by rw [blobB, List.length_append, numB_length]
set_option maxHeartbeats 1000000 in
theorem blob_any' (l : List Int) (v u : Value) (n : Nat) (ps : Nat → List Int) (w : World) (hv : isBytes w v l) (hu : anyParts w u n ps) (hs : ∀ i, i ≤ n → l.length + (flatTo (blobsB ps) i).length ≤ 1000000000000) :
    Calls Tryd.prog 58 #[v, u] w fun e w' => ∃ v', e = .returned v' ∧ newBytes w' w.heap.size v' (l ++ flatTo (blobsB ps) n) ∧ Below w.heap.size w w' := by
  obtain ⟨a, cap, rfl, hnm, hcell⟩ := hu.open
  clear hu
  unfold maxLen at hnm
  go_enter Tryd.func58, Tryd.ntmps58
  go_wp2
  go_loopw [5, 13] (fun z i wr => ∃ k : Nat, k ≤ n ∧ i = .int .i64 k ∧ z = .int .i64 ((flatTo (blobsB ps) k).length : Int) ∧ wr = w) (fun _ i _ => n - (intOf i).toNat)
  case atStart => exact ⟨0, by omega, rfl, rfl, rfl⟩
  case round =>
    obtain ⟨k, hk, rfl, rfl, hwr⟩ := hrel
    obtain rfl := hwr.symm
    clear hwr
    have hlk := hs k hk
    by_cases hlt : k < n
    · obtain ⟨qb, qo, y, rfl, hq, hc, hy⟩ := hcell k hlt
      obtain ⟨ya, yc, rfl, hym⟩ := hy.slice
      clear hy
      have b0 : (0 : Int) ≤ (k : Int) := by omega
      have b1 : (k : Int) < (n : Int) := by omega
      have hsz := szI_le ((ps k).length : Int)
      have hsk := hs (k + 1) hlt
      have HL0 : (flatTo (blobsB ps) (k + 1)).length = (flatTo (blobsB ps) k).length + (1 + szI ((ps k).length : Int) + (ps k).length) := by rw [flatTo, List.length_append, blobsB, blobB_length]
      rw [HL0] at hsk
      have HL : Hid _ := HL0
      clear HL0
      generalize hLL : (flatTo (blobsB ps) k).length = L at *
      have hM : (ps k).length ≤ 1000000000000 := by omega
      have hM2 : ((ps k).length : Int) ≤ 1000000000000 := by omega
      have hL : (L : Int) ≤ 1000000000000 := by omega
      go_wp2_with (first | (go_at_call 64; refine (partSize_any (ps k).length (by omega) _).mono ?_; rintro e w' ⟨rfl, hw⟩; obtain rfl := hw.symm; clear hw))
      go_light
      exact ⟨⟨k + 1, by omega, by go_num, by rw [HL.out]; go_num, trivial⟩, by simp [intOf]; omega⟩
    · obtain rfl : k = n := by omega
      have HS : Hid _ := hs
      clear hs
      generalize hLL : (flatTo (blobsB ps) k).length = L at *
      go_wp2_with (first | (go_at_call 65; refine (withRoom_any l v L _ hv (by omega)).mono ?_; rintro e w1 ⟨v1, rfl, hn1, hb1⟩))
      have HN : Hid _ := hn1
      have HB : Hid _ := hb1
      clear hn1 hb1 hLL
      go_loopw [8, 28] (fun z i wr => ∃ j : Nat, j ≤ k ∧ i = .int .i64 j ∧ newBytes wr w.heap.size z (l ++ flatTo (blobsB ps) j) ∧ Below w.heap.size w wr) (fun _ i _ => k - (intOf i).toNat)
      case atStart => exact ⟨0, by omega, rfl, by rw [flatTo, List.append_nil]; exact HN.out, HB.out⟩
      case round =>
        clear HN HB
        obtain ⟨j, hj, rfl, hn, hb⟩ := hrel
        by_cases hlt2 : j < k
        · obtain ⟨qb, qo, y, rfl, hq, hc, hy⟩ := hcell j hlt2
          have HYB : Hid _ := fun (w9 : World) (h9 : Below w.heap.size w w9) => hy.below h9 (Nat.le_refl _)
          obtain ⟨ya, yc, rfl, hym⟩ := hy.slice
          clear hy
          have b0 : (0 : Int) ≤ (j : Int) := by omega
          have b1 : (j : Int) < (k : Int) := by omega
          have hlj := HS.out (j + 1) hlt2
          rw [flatTo, List.length_append, blobsB, blobB_length] at hlj
          rw [← hb.cell (p := ⟨qb, qo + j, none⟩) hq] at hc
          have HN : Hid _ := hn
          have hbs := hb.size
          clear hn
          have hM : (ps j).length ≤ 1000000000000 := by omega
          have hM2 : ((ps j).length : Int) ≤ 1000000000000 := by omega
          go_wp2_with fail
          refine (addNumber_any ((ps j).length : Int) (by omega) (by omega) _ _ _ _ HN.out (by rw [List.length_append]; omega) hb.size).mono ?_
          rintro e w2 ⟨v2, rfl, hn2, hb2⟩
          obtain ⟨v3, w3, hr3, hn3, hg3, _⟩ := any_append_run w2 w.heap.size v2 _ _ (ps j) hn2 (HYB.out w2 (hb.trans hb2)) (by rw [List.length_append, List.length_append, numB_length]; omega) (by have := hb2.size; omega)
          have hb3 := below_grown hg3 (fun q hq2 => (hn2.block q hq2).1) (by have := hb2.size; omega)
          have HN3 : Hid _ := hn3
          have HB3 : Hid _ := hb.trans (hb2.trans hb3)
          clear hn2 hb2 hn3 hb3 hb HN hg3
          go_wp2_with (first | (at_builtin; refine wpList_append2_run rfl _ _ _ _ rfl rfl rfl hr3 ?_))
          go_light
          exact ⟨⟨j + 1, by omega, by go_num, by rw [flatTo, ← List.append_assoc, blobsB, blobB, ← List.append_assoc]; exact HN3.out, HB3.out⟩, by simp [intOf]; omega⟩
        · obtain rfl : j = k := by omega
          have HN : Hid _ := hn
          clear hn
          go_wp2
          go_ret
          exact ⟨_, rfl, HN.out, hb⟩
theorem blob_any (l : List Int) (v u : Value) (n : Nat) (ps : Nat → List Int) (w : World) (hv : isBytes w v l) (hu : isParts w u n ps) (hs : ∀ i, i ≤ n → l.length + (flatTo (blobsB ps) i).length ≤ 1000000000000) :
    Calls Tryd.prog 58 #[v, u] w fun e w' => ∃ v', e = .returned v' ∧ newBytes w' w.heap.size v' (l ++ flatTo (blobsB ps) n) ∧ Below w.heap.size w w' := blob_any' l v u n ps w hv hu.any hs
end Go.Proofs.YtmfgfcknhjblgaaDoor

/- Books: empty, Note, Of, Calls; Preimage. -/
namespace Go.Proofs.YtmfgfcknhjblgaaDoor
set_option linter.unusedSimpArgs false
set_option linter.unusedVariables false
open Go.RowKit Go.Deep

/-- what is hashed. -/
def preB (kind : Int) (n : Nat) (ps : Nat → List Int) : List Int := [kind % 256] ++ flatTo (blobsB ps) n
theorem convA (w : World) (v : Value) (l : List Int) (h : anyBytes w v l) : (convert 34 9 v).run Tryd.prog w = .ok (.string (strOf l)) w :=
  run_convert_any (P := Tryd.prog) w 34 9 5 v l Tryd.underlying34 Tryd.underlying5 Tryd.underlying9 h
theorem conv8 (w : World) (v : Value) (l : List Int) (h : isBytes w v l) : (convert 34 9 v).run Tryd.prog w = .ok (.string (strOf l)) w :=
  run_convert_bytes (P := Tryd.prog) w 34 9 5 v l Tryd.underlying34 Tryd.underlying5 Tryd.underlying9 h
set_option maxRecDepth 100000 in
theorem pre_any (kind : Int) (n : Nat) (v : Value) (ps : Nat → List Int) (w : World) (hp : anyParts w v n ps) (hs : ∀ i, i ≤ n → 1 + (flatTo (blobsB ps) i).length ≤ 1000000000000) :
    Calls Tryd.prog 43 #[.int .i64 kind, v] w fun e w' => ∃ v', e = .returned v' ∧ newBytes w' w.heap.size v' (preB kind n ps) ∧ Below w.heap.size w w' := by
  have hb0 : Below w.heap.size w (w.alloc (.cells #[.int .u8 (kind % 256)] 5)) := (Below.refl _ _).alloc (Nat.le_refl _) _
  have hk : 0 ≤ kind % 256 ∧ kind % 256 ≤ 255 := by omega
  have h1 : isBytes (w.alloc (.cells #[.int .u8 (kind % 256)] 5)) (.slice (some ⟨w.heap.size, 0, none⟩) 1 1) [kind % 256] :=
    Or.inr ⟨w.heap.size, 0, 1, rfl, by simp, by unfold maxLen; omega, by simp, fun i hi => by
      obtain rfl : i = 0 := by simpa using hi
      exact one_cell w _ _, fun i => by
      match i with
      | 0 => exact hk
      | _ + 1 => exact ⟨by simp, by simp⟩⟩
  have X := blob_any' [kind % 256] _ v n ps _ h1 (hp.below hb0 (Nat.le_refl _)) (fun i hi => by have := hs i hi; simp; omega)
  obtain ⟨a, cap, rfl, _, _⟩ := hp.open
  go_enter Tryd.func43, Tryd.ntmps43
  go_wp2_with fail
  refine X.mono ?_
  rintro e w1 ⟨v1, rfl, hn1, hb1⟩
  go_wp2
  go_ret
  exact ⟨_, rfl, hn1.mono (by simp), hb0.trans (hb1.mono (by simp))⟩

/-- A BOOK in block k, all its memory in F. -/
def bookAt (w : World) (F : Nat → Prop) (k : Nat) (N : List Nt) (c : Int) : Prop :=
  F k ∧ (∀ j, F j → j < w.heap.size) ∧ ∃ pv, w.rowIs k 64 1 (fun _ => pv) ∧
    ((pv = .pointer none ∧ N = [] ∧ c = 0) ∨ ∃ nb, pv = .pointer (some ⟨nb, 0, none⟩) ∧ nb ≠ k ∧ notesAt w (fun j => F j ∧ j ≠ k) nb N c)
theorem bookAt.far {w w' : World} {F : Nat → Prop} {k : Nat} {N : List Nt} {c : Int} (h : bookAt w F k N c) (hb : ∀ j, F j → j < w.heap.size → w'.heap[j]? = w.heap[j]?) (hs : w.heap.size ≤ w'.heap.size) : bookAt w' F k N c := by
  obtain ⟨h1, h2, pv, h3, h4⟩ := h
  refine ⟨h1, fun j hj => Nat.lt_of_lt_of_le (h2 j hj) hs, pv, h3.of_block (hb k h1 (h2 k h1)), ?_⟩
  rcases h4 with h4 | ⟨nb, a1, a2, a3⟩
  · exact Or.inl h4
  · exact Or.inr ⟨nb, a1, a2, a3.far (fun j hj hl => hb j hj.1 hl) hs⟩
theorem bookAt.below {w w' : World} {F : Nat → Prop} {k B : Nat} {N : List Nt} {c : Int} (h : bookAt w F k N c) (hb : Below B w w') (hB : w.heap.size ≤ B) : bookAt w' F k N c :=
  h.far (fun j _ hj => hb.block j (Nat.lt_of_lt_of_le hj hB)) hb.size
theorem notesAt.grow {w : World} {F G : Nat → Prop} {nb : Nat} {N : List Nt} {c : Int} (h : notesAt w F nb N c) (hG : ∀ k, F k → G k) (hl : ∀ k, G k → k < w.heap.size) : notesAt w G nb N c := by
  obtain ⟨lv, mv, h1, h2, h3, h4, h5, h6⟩ := h
  exact ⟨lv, mv, h1, hG _ h2, h3.far (fun _ _ _ => rfl) hG, h4.far (fun _ _ _ => rfl) hG, h5, hl⟩
theorem bookAt.grow {w : World} {F G : Nat → Prop} {k : Nat} {N : List Nt} {c : Int} (h : bookAt w F k N c) (hG : ∀ k, F k → G k) (hl : ∀ k, G k → k < w.heap.size) : bookAt w G k N c := by
  obtain ⟨h1, h2, pv, h3, h4⟩ := h
  refine ⟨hG _ h1, hl, pv, h3, ?_⟩
  rcases h4 with h4 | ⟨nb, a1, a2, a3⟩
  · exact Or.inl h4
  · exact Or.inr ⟨nb, a1, a2, a3.grow (fun j hj => ⟨hG j hj.1, hj.2⟩) (fun j hj => hl j hj.1)⟩
/-- a new book. -/
theorem bookAt.new (w : World) (W : World) (k : Nat) (hW : W.rowIs k 64 1 (fun _ => .pointer none)) : bookAt W (fun j => j = k) k [] 0 :=
  ⟨rfl, fun j hj => hj ▸ hW.lt, .pointer none, hW, Or.inl ⟨rfl, rfl, rfl⟩⟩

theorem empty_none (w : World) : Calls Tryd.prog 45 #[.pointer none] w fun e w' => e = .returned (.bool true) ∧ w' = w := by
  go_enter Tryd.func45, Tryd.ntmps45
  go_wp2
  go_ret
  exact ⟨rfl, rfl⟩
theorem empty_zero (k : Nat) (w : World) (h : w.rowIs k 64 1 (fun _ => .pointer none)) : Calls Tryd.prog 45 #[.pointer (some ⟨k, 0, none⟩)] w fun e w' => e = .returned (.bool true) ∧ w' = w := by
  have c0 : w.cell? ⟨k, 0, none⟩ = some (.pointer none) := h.cell (i := 0) (by omega)
  go_enter Tryd.func45, Tryd.ntmps45
  go_wp2
  go_ret
  exact ⟨rfl, rfl⟩
theorem empty_some (k nb : Nat) (w : World) (h : w.rowIs k 64 1 (fun _ => .pointer (some ⟨nb, 0, none⟩))) : Calls Tryd.prog 45 #[.pointer (some ⟨k, 0, none⟩)] w fun e w' => e = .returned (.bool false) ∧ w' = w := by
  have c0 : w.cell? ⟨k, 0, none⟩ = some (.pointer (some ⟨nb, 0, none⟩)) := h.cell (i := 0) (by omega)
  go_enter Tryd.func45, Tryd.ntmps45
  go_wp2
  go_ret
  exact ⟨rfl, rfl⟩
theorem calls_nil (w : World) : Calls Tryd.prog 28 #[.pointer none] w fun e w' => e = .returned (.int .i64 0) ∧ w' = w := by
  go_enter Tryd.func28, Tryd.ntmps28
  go_wp2_with fail
  refine (empty_none w).mono ?_
  rintro e w' ⟨rfl, rfl⟩
  go_wp2
  go_ret
  exact ⟨rfl, rfl⟩
theorem calls_any (F : Nat → Prop) (k : Nat) (N : List Nt) (c : Int) (w : World) (h : bookAt w F k N c) : Calls Tryd.prog 28 #[.pointer (some ⟨k, 0, none⟩)] w fun e w' => e = .returned (.int .i64 c) ∧ w' = w := by
  obtain ⟨h1, h2, pv, h3, ⟨rfl, rfl, rfl⟩ | ⟨nb, rfl, _, lv, mv, r, _⟩⟩ := h
  · go_enter Tryd.func28, Tryd.ntmps28
    go_wp2_with fail
    refine (empty_zero k w h3).mono ?_
    rintro e w' ⟨rfl, rfl⟩
    go_wp2
    go_ret
    exact ⟨rfl, rfl⟩
  · have c0 : w.cell? ⟨k, 0, none⟩ = some (.pointer (some ⟨nb, 0, none⟩)) := h3.cell (i := 0) (by omega)
    have c2 : w.cell? ⟨nb, 2, none⟩ = some (.int .i64 c) := r.cell (i := 2) (by omega)
    go_enter Tryd.func28, Tryd.ntmps28
    go_wp2_with fail
    refine (empty_some k nb w h3).mono ?_
    rintro e w' ⟨rfl, hw⟩
    obtain rfl := hw.symm
    clear hw
    go_wp2
    go_ret
    exact ⟨rfl, rfl⟩
theorem zero_notes : ∀ w : World, (Instr.build 89 #[]).run Tryd.prog w = .ok (.agg (rowV 3 (notesV (.slice none 0 0) (.map none) 0))) w := fun w => by kernel_rfl

set_option maxHeartbeats 1000000 in
set_option maxRecDepth 100000 in
theorem note_nil (q : List Int) (v : Value) (w : World) : Calls Tryd.prog 23 #[.pointer none, sumV q, v] w fun e w' => e = .returned (.tuple #[]) ∧ Below w.heap.size w w' := by
  unfold sumV
  go_enter Tryd.func23, Tryd.ntmps23
  go_wp2
  exact bodyPost_ret (results_none rfl _ _ _) rfl ⟨rfl, (Below.refl _ _).alloc (Nat.le_refl _) _⟩
theorem exec_build2 {P : Program} {o : Oper} {ev : Operand → Value} {w : World} {v : Value} (t : TypeId) (i j : Nat) (x y : Operand) (a b : Value) (ho : o.op = .build t #[(i, x), (j, y)]) (hx : ev x = a) (hy : ev y = b)
    (hr : (Instr.build t #[(i, a), (j, b)]).run P w = .ok v w) : (execOp ev o).run P w = .ok (.value v) w := by
  unfold execOp
  simp only [ho, List.map_toArray, List.map_cons, List.map_nil, hx, hy, Sem.run_bind, hr, Result.andThen_ok, Sem.run_pure]
theorem isBytes.far' {w w' : World} {v : Value} {l : List Int} (h : isBytes w v l) (hb : 0 < l.length → ∀ k, v.ownBlock = some k → w'.heap[k]? = w.heap[k]?) (hs : w.heap.size ≤ w'.heap.size) : isBytes w' v l := by
  rcases h with h | ⟨pb, po, cap, rfl, h2, h3, h4, h6, h7⟩
  · exact Or.inl h
  · exact Or.inr ⟨pb, po, cap, rfl, h2, h3, by omega, fun i hi => by rw [World.cell?_of_block (w := w) (hb (by omega) pb rfl)]; exact h6 i hi, h7⟩
/-- behind the test of the notes. -/
def midN (w : World) (F : Nat → Prop) (k : Nat) (N : List Nt) (c : Int) (q : List Int) (wx : World) : Prop :=
  ∃ (nb : Nat) (G : Nat → Prop), wx.rowIs k 64 1 (fun _ => .pointer (some ⟨nb, 0, none⟩)) ∧ notesAt wx G nb N c ∧ (∀ j, G j → (F j ∧ j ≠ k) ∨ (w.heap.size < j ∧ j < wx.heap.size)) ∧ Fr F w wx ∧ wx.rowIs w.heap.size 30 32 (arrV q)
theorem build_note2 (q : List Int) (t : ByteArray) (w : World) : (Instr.build 92 #[(0, .agg (rowV 32 (arrV q))), (1, .string t)]).run Tryd.prog w = .ok (.agg (rowV 33 (noteV (q, t)))) w := by
  show (_ : Result Value) = _
  kernel_rfl
set_option maxHeartbeats 1000000 in
set_option maxRecDepth 100000 in
theorem note_any' (F : Nat → Prop) (k : Nat) (N : List Nt) (c : Int) (q l : List Int) (v : Value) (w : World) (h : bookAt w F k N c) (hq : isSum q) (hv : anyBytes w v l) (hvF : 0 < l.length → ∀ j, v.ownBlock = some j → ¬ F j) (hN : N.length < 1000000) :
    Calls Tryd.prog 23 #[.pointer (some ⟨k, 0, none⟩), sumV q, v] w fun e w' => e = .returned (.tuple #[]) ∧ bookAt w' (Gr F w w') k (addN N (q, strOf l)) c ∧ Fr F w w' := by
  obtain ⟨hF, hlt, pv, hpv, hcase⟩ := h
  have hk := hlt k hF
  have b1 : Below w.heap.size w (w.alloc (.cells (rowV 32 (arrV q)) 30)) := (Below.refl _ _).alloc (Nat.le_refl _) _
  have rq : (w.alloc (.cells (rowV 32 (arrV q)) 30)).rowIs w.heap.size 30 32 (arrV q) := rowIs_box w _ _ _
  have r1 : (w.alloc (.cells (rowV 32 (arrV q)) 30)).rowIs k 64 1 (fun _ => pv) := b1.row hpv hk
  have c1 : (w.alloc (.cells (rowV 32 (arrV q)) 30)).cell? ⟨k, 0, none⟩ = some pv := r1.cell (i := 0) (by omega)
  have s1 : (w.alloc (.cells (rowV 32 (arrV q)) 30)).heap.size = w.heap.size + 1 := by simp
  have hbu := zero_notes
  obtain ⟨va, vc, rfl, _⟩ := hv.slice
  have HV : Hid _ := hv
  have HVF : Hid _ := hvF
  have HLT : Hid _ := hlt
  clear hv hvF hlt
  unfold sumV
  obtain ⟨bn, hbn, hbg, hbi⟩ : ∃ bn : Bool, (∀ wz : World, (binOp .eql 62 pv (.pointer none)).run Tryd.prog wz = .ok (.bool bn) wz) ∧ (∀ wz : World, (eqGuard .eql 62 (.tmp 11) (.const (.pointer none)) pv (.pointer none)).run Tryd.prog wz = .ok () wz) ∧ (bn = true ↔ pv = .pointer none) := by
    rcases hcase with ⟨rfl, _⟩ | ⟨nb, rfl, _⟩
    · exact ⟨true, fun wz => by kernel_rfl, fun wz => by kernel_rfl, by simp⟩
    · exact ⟨false, fun wz => by kernel_rfl, fun wz => by kernel_rfl, by simp⟩
  go_enter Tryd.func23, Tryd.ntmps23
  go_upto_if 12 with fail
  go_cut [4] (fun t wx => t = .pointer (some ⟨w.heap.size, 0, none⟩) ∧ midN w F k N c q wx)
  case first =>
    rcases hcase with ⟨rfl, rfl, rfl⟩ | ⟨nb, rfl, hnk, hnn⟩
    · obtain rfl : bn = true := hbi.2 rfl
      have r2 : ((w.alloc (.cells (rowV 32 (arrV q)) 30)).alloc (.cells #[.slice none 0 0, .map none, .int .i64 0] 89)).rowIs k 64 1 (fun _ => .pointer none) := World.rowIs.alloc r1 _
      have z2 := World.rowIs.frozen r2 0
      have c2 : ((w.alloc (.cells (rowV 32 (arrV q)) 30)).alloc (.cells #[.slice none 0 0, .map none, .int .i64 0] 89)).cell? ⟨k, 0, none⟩ = some (.pointer none) := r2.cell (i := 0) (by omega)
      have sz : (w.setCell ⟨k, 0, none⟩ (.pointer (some ⟨w.heap.size + 1, 0, none⟩))).heap.size = w.heap.size := nblk_setCell _ _ _
      have sz2 : ((w.setCell ⟨k, 0, none⟩ (.pointer (some ⟨w.heap.size + 1, 0, none⟩))).alloc (.cells (rowV 32 (arrV q)) 30)).heap.size = w.heap.size + 1 := by simp [nblk_setCell]
      have MID : Hid (midN w F k [] 0 q (((w.setCell ⟨k, 0, none⟩ (.pointer (some ⟨w.heap.size + 1, 0, none⟩))).alloc (.cells (rowV 32 (arrV q)) 30)).alloc (.cells #[.slice none 0 0, .map none, .int .i64 0] 89))) := (show midN w F k [] 0 q (((w.setCell ⟨k, 0, none⟩ (.pointer (some ⟨w.heap.size + 1, 0, none⟩))).alloc (.cells (rowV 32 (arrV q)) 30)).alloc (.cells #[.slice none 0 0, .map none, .int .i64 0] 89)) from by
        refine ⟨w.heap.size + 1, fun j => j = w.heap.size + 1, World.rowIs.alloc (World.rowIs.alloc ((World.rowIs.set hpv 0 _).congr (fun i hi => by
          have : i = 0 := by omega
          simp [this])) _) _, ⟨.slice none 0 0, .map none, ?_, rfl, listAt_nil _ _, Or.inl ⟨rfl, rfl⟩, fun x hx => by simp at hx, fun j hj => by rw [hj]; simp [nblk_setCell]⟩, fun j hj => Or.inr ⟨by omega, by rw [hj]; simp [nblk_setCell]⟩, ?_, ?_⟩
        · have := rowIs_new ((w.setCell ⟨k, 0, none⟩ (.pointer (some ⟨w.heap.size + 1, 0, none⟩))).alloc (.cells (rowV 32 (arrV q)) 30)) #[.slice none 0 0, .map none, .int .i64 0] 89 3 (notesV (.slice none 0 0) (.map none) 0) rfl (fun i hi => by
            match i, hi with
            | 0, _ => rfl
            | 1, _ => rfl
            | 2, _ => rfl)
          rw [sz2] at this; exact this
        · exact (((Fr.refl F w).setCell (Or.inl hF) _).alloc _).alloc _
        · have := rowIs_box (w.setCell ⟨k, 0, none⟩ (.pointer (some ⟨w.heap.size + 1, 0, none⟩))) 30 32 (arrV q)
          rw [sz] at this
          exact World.rowIs.alloc this _)
      clear r1 r2 rq b1 hpv hbu
      go_wp2_with fail
      go_meet
      case rel => exact ⟨rfl, MID.out⟩
    · obtain rfl : bn = false := by
        cases bn with
        | false => rfl
        | true => exact absurd (hbi.1 rfl) (by simp)
      have MID : Hid (midN w F k N c q (w.alloc (.cells (rowV 32 (arrV q)) 30))) := (show midN w F k N c q (w.alloc (.cells (rowV 32 (arrV q)) 30)) from ⟨nb, fun j => F j ∧ j ≠ k, r1, hnn.below b1 (Nat.le_refl _), fun j hj => Or.inl hj, Fr.of_below F b1, rq⟩)
      clear r1 rq b1 hpv hbu hnn
      go_wp2_with fail
      go_meet
      case rel => exact ⟨rfl, MID.out⟩
  case rest =>
    obtain ⟨rfl, hmid⟩ := hcut
    clear r1 rq b1 hpv hbu c1 s1 hcase hbn hbg hbi
    obtain ⟨wR, hwR⟩ : ∃ wR, wR = wc := ⟨_, rfl⟩
    subst hwR
    obtain ⟨nb, G, m1, m2, m3, m4, m5⟩ := hmid
    go_upto_region 4 with fail
    have hkR : k < wR.heap.size := Nat.lt_of_lt_of_le hk m4.size
    have hqR : w.heap.size < wR.heap.size := m5.lt
    have hGk : ¬ G k := fun g => by
      rcases m3 k g with h | h
      · exact h.2 rfl
      · omega
    have hGq : ¬ G w.heap.size := fun g => by
      rcases m3 _ g with h | h
      · have := HLT.out _ h.1; omega
      · omega
    have k0 : wR.cell? ⟨k, 0, none⟩ = some (.pointer (some ⟨nb, 0, none⟩)) := m1.cell (i := 0) (by omega)
    have k1 : ∀ i, i < 32 → wR.cell? ⟨w.heap.size, 0 + i, none⟩ = some (arrV q i) := fun i hi => by rw [Nat.zero_add]; exact m5.cell hi
    have kv : anyBytes wR (.slice va l.length vc) l := by
      rcases HV.out with h | h
      · exact Or.inl (h.far' (fun hl j hj => m4.block j (h.block j hj) (HVF.out hl j hj)) m4.size)
      · exact Or.inr h
    have hcvv := convA wR.drew _ _ kv
    have KX := add_note G nb N c (q, strOf l) wR.drew m2.drew hq hN
    have XX : Hid _ := KX
    have M1 : Hid _ := m1
    have M3 : Hid _ := m3
    have M4 : Hid _ := m4
    have M5 : Hid _ := m5
    clear KX m1 m2 m3 m4 m5
    refine wp_region_noPanic ?_
    refine wp_region_held_drew (S := fun w' => w'.cell? ⟨k, 0, none⟩ = some (.pointer (some ⟨nb, 0, none⟩)) ∧ (∀ i, i < 32 → w'.cell? ⟨w.heap.size, 0 + i, none⟩ = some (arrV q i)) ∧ (convert 34 9 (.slice va l.length vc)).run Tryd.prog w' = .ok (.string (strOf l)) w') (by kernel_rfl) ⟨k0, k1, hcvv⟩ (fun hHeld => ?_)
    refine take_op (i := 0) (v := ?vz0) rfl (by kernel_rfl) (by kernel_rfl) (by kernel_rfl) (fun _ _ _ h => h) rfl hHeld ?yz0 ?rz0
    case yz0 => (intro wz hz; go_simp; first | done | with_reducible rfl)
    try simp only [Act.put, List.setIfInBounds_toArray, List.set_cons_zero, List.set_cons_succ]
    refine take_op (i := 1) (v := ?vz1) rfl (by kernel_rfl) (by kernel_rfl) (by kernel_rfl) (fun _ _ _ h => h) rfl hHeld ?yz1 ?rz1
    case yz1 => (intro wz hz; go_simp; first | done | with_reducible rfl)
    try simp only [Act.put, List.setIfInBounds_toArray, List.set_cons_zero, List.set_cons_succ]
    refine take_op (i := 2) (v := ?vz2) rfl (by kernel_rfl) (by kernel_rfl) (by kernel_rfl) (fun _ _ _ h => h) rfl hHeld ?yz2 ?rz2
    case yz2 => (intro wz hz; go_simp; first | done | with_reducible rfl)
    try simp only [Act.put, List.setIfInBounds_toArray, List.set_cons_zero, List.set_cons_succ]
    refine take_op (i := 3) (v := ?vz3) rfl (by kernel_rfl) (by kernel_rfl) (by kernel_rfl) (fun _ _ _ h => h) rfl hHeld ?yz3 ?rz3
    case yz3 => (intro wz hz; have hcz := hz.1; go_simp; first | done | with_reducible rfl)
    try simp only [Act.put, List.setIfInBounds_toArray, List.set_cons_zero, List.set_cons_succ]
    refine take_load (i := 4) rfl (by kernel_rfl) (by kernel_rfl) (by kernel_rfl) 30 _ rfl w.heap.size 0 32 (arrV q) rfl _ Tryd.underlying30 rfl (by kernel_rfl) (fun _ _ _ h => h) rfl hHeld (fun wz hz => hz.2.1) ?_
    try simp only [Act.put, List.setIfInBounds_toArray, List.set_cons_zero, List.set_cons_succ]
    refine take_op (i := 5) (v := ?vz5) rfl (by kernel_rfl) (by kernel_rfl) (by kernel_rfl) (fun _ _ _ h => h) rfl hHeld ?yz5 ?rz5
    case yz5 => (intro wz hz; go_simp; first | done | with_reducible rfl)
    try simp only [Act.put, List.setIfInBounds_toArray, List.set_cons_zero, List.set_cons_succ]
    refine take_op (i := 6) (v := ?vz6) rfl (by kernel_rfl) (by kernel_rfl) (by kernel_rfl) (fun _ _ _ h => h) rfl hHeld ?yz6 ?rz6
    case yz6 => (intro wz hz; have hcz := hz.2.2; go_simp; first | done | with_reducible rfl)
    try simp only [Act.put, List.setIfInBounds_toArray, List.set_cons_zero, List.set_cons_succ]
    refine take_op (i := 7) (v := .agg (rowV 33 (noteV (q, strOf l)))) rfl (by kernel_rfl) (by kernel_rfl) (by kernel_rfl) (fun _ _ _ h => h) rfl hHeld (fun wz hz => exec_build2 92 0 1 _ _ (.agg (rowV 32 (arrV q))) (.string (strOf l)) rfl (by kernel_rfl) (by kernel_rfl) (build_note2 q (strOf l) wz)) ?_
    try simp only [Act.put, List.setIfInBounds_toArray, List.set_cons_zero, List.set_cons_succ]
    refine take_one (i := 8) rfl (by kernel_rfl) rfl (fun K hK => ?_)
    go_simp
    refine Calls.mono XX.out ?_
    rintro e w9 ⟨rfl, hn9, hf9⟩
    have kv9 : anyBytes w9 (.slice va l.length vc) l := by
      rcases HV.out with h | h
      · refine Or.inl (h.far' (fun hl j hj => ?_) (Nat.le_trans M4.out.size hf9.size))
        have hjl := h.block j hj
        exact (hf9.block j (Nat.lt_of_lt_of_le hjl M4.out.size) (fun g => by
          rcases M3.out j g with h2 | h2
          · exact HVF.out hl j hj h2.1
          · omega)).trans (M4.out.block j hjl (HVF.out hl j hj))
      · exact Or.inr h
    refine hK.out _ _ ⟨(World.cell?_of_block (w := wR) (hf9.block k hkR hGk)).trans k0, fun i hi => (World.cell?_of_block (w := wR) (hf9.block _ hqR hGq)).trans (k1 i hi), convA w9 _ _ kv9⟩ (fun hHeld => ?_)
    clear hK K
    try simp only [Act.put, List.setIfInBounds_toArray, List.set_cons_zero, List.set_cons_succ]
    refine wpAnyH_done (by kernel_rfl) ?_ _
    refine NoPanic.normal ?_
    clear hHeld
    have HN9 : Hid _ := hn9
    have HF9 : Hid _ := hf9
    clear hn9 hf9
    go_wp2
    go_end0
    have hs9 := HF9.out.size
    have hs9' : wR.heap.size ≤ w9.heap.size := hs9
    have hsR := M4.out.size
    refine ⟨rfl, ⟨Or.inl hF, fun j hj => ?_, _, World.rowIs.of_block M1.out (HF9.out.block k hkR hGk), Or.inr ⟨nb, rfl, ?_, notesAt.grow HN9.out (fun j hj => ?_) (fun j hj => ?_)⟩⟩, ?_⟩
    · rcases hj with h | h
      · have := HLT.out j h; omega
      · exact h.2
    · rintro rfl
      obtain ⟨_, _, r, _⟩ := HN9.out
      have := rowIs_block r
      rw [rowIs_block (World.rowIs.of_block M1.out (HF9.out.block nb hkR hGk))] at this
      injection this with this
      injection this with _ h2
      exact absurd h2 (by decide)
    · rcases hj with h | h
      · rcases M3.out j h with h2 | h2
        · exact ⟨Or.inl h2.1, h2.2⟩
        · exact ⟨Or.inr ⟨by omega, by omega⟩, by omega⟩
      · have h1 : wR.heap.size ≤ j := h.1
        exact ⟨Or.inr ⟨by omega, h.2⟩, by omega⟩
    · rcases hj.1 with h | h
      · have := HLT.out j h; omega
      · exact h.2
    · exact Fr.trans M4.out (G := G) ⟨HF9.out.os, HF9.out.tape, HF9.out.output, hs9, HF9.out.block⟩ (fun j hj g => by
        rcases M3.out j g with h | h
        · exact h.1
        · omega)
theorem note_any (F : Nat → Prop) (k : Nat) (N : List Nt) (c : Int) (q l : List Int) (v : Value) (w : World) (h : bookAt w F k N c) (hq : isSum q) (hv : anyBytes w v l) (hvF : ∀ j, v.ownBlock = some j → ¬ F j) (hN : N.length < 1000000) :
    Calls Tryd.prog 23 #[.pointer (some ⟨k, 0, none⟩), sumV q, v] w fun e w' => e = .returned (.tuple #[]) ∧ bookAt w' (Gr F w w') k (addN N (q, strOf l)) c ∧ Fr F w w' :=
  note_any' F k N c q l v w h hq hv (fun _ => hvF) hN
end Go.Proofs.YtmfgfcknhjblgaaDoor

/- Books: Of. -/
namespace Go.Proofs.YtmfgfcknhjblgaaDoor
set_option linter.unusedSimpArgs false
set_option linter.unusedVariables false
open Go.RowKit Go.Deep

theorem sumI_byte' {l : List Int} (i : Nat) : 0 ≤ sumI l i ∧ sumI l i ≤ 255 := by unfold sumI sumByte; omega
/-- a sum's bytes. -/
def sumL (l : List Int) : List Int := (List.range 32).map (sumI l)
theorem sumL_getD (l : List Int) (i : Nat) (h : i < 32) : (sumL l).getD i 0 = sumI l i := by
  rw [sumL, List.getD_eq_getElem?_getD, List.getElem?_map, List.getElem?_range h]; rfl
theorem sumL_is (l : List Int) : isSum (sumL l) := ⟨by simp [sumL], fun i => by
  by_cases h : i < 32
  · rw [sumL_getD l i h]; exact sumI_byte' i
  · rw [List.getD_eq_getElem?_getD, List.getElem?_eq_none (by simp [sumL]; omega)]; exact ⟨by simp, by simp⟩⟩
theorem sumL_row (l : List Int) : rowV 32 (fun i => .int .u8 (sumI l i)) = rowV 32 (arrV (sumL l)) := rowV_congr fun i hi => by rw [arrV, sumL_getD l i hi]
theorem addN_ne (N : List Nt) (x : Nt) : addN N x ≠ [] := by
  by_cases h : x ∈ N
  · rw [addN_in h]; intro e; rw [e] at h; simp at h
  · rw [addN_out h]; simp
theorem addN_len (N : List Nt) (x : Nt) : (addN N x).length ≤ N.length + 1 := by
  by_cases h : x ∈ N
  · rw [addN_in h]; omega
  · rw [addN_out h]; simp
/-- sha.Sum(b). -/
theorem sum_one (l : List Int) (v : Value) (B : Nat) (w : World) (h : newBytes w B v l) (hl : l.length < 1000000000) (ht : tabIs w) :
    Calls Tryd.prog 17 #[.slice (some ⟨w.heap.size, 0, none⟩) 1 1] (w.alloc (.cells #[v] 34)) fun e w' => e = .returned (.agg (rowV 32 (arrV (sumL l)))) ∧ Below w.heap.size w w' := by
  have hb0 : Below w.heap.size w (w.alloc (.cells #[v] 34)) := (Below.refl _ _).alloc (Nat.le_refl _) _
  have hp : isParts (w.alloc (.cells #[v] 34)) (.slice (some ⟨w.heap.size, 0, none⟩) 1 1) 1 (fun _ => l) := Or.inr ⟨w.heap.size, 0, 1, fun _ => v, rfl, by simp, by unfold maxLen; omega, fun i hi => by
    obtain rfl : i = 0 := by omega
    exact ⟨one_cell w _ _, Or.inl (h.is.below hb0 (Nat.le_refl _))⟩⟩
  refine (shaSum_any 1 _ (fun _ => l) _ hp (fun i hi => ?_) (ht.below hb0 ht.1)).mono ?_
  · have : i = 0 ∨ i = 1 := by omega
    rcases this with rfl | rfl
    · simp [flatTo]
    · simp [flatTo]; omega
  · rintro e w' ⟨rfl, hb⟩
    refine ⟨?_, hb0.trans (hb.mono (by simp))⟩
    rw [sumL_row]; rfl
theorem hi32' : (Tryd.prog.info? 30).map (·.size) = some 32 := by kernel_rfl
theorem notesAt.count {w : World} {F : Nat → Prop} {nb : Nat} {N : List Nt} {c : Int} (h : notesAt w F nb N c) (c' : Int) : notesAt (w.setCell ⟨nb, 2, none⟩ (.int .i64 c')) F nb N c' := by
  obtain ⟨lv, mv, h1, h2, h3, h4, h5, h6⟩ := h
  refine ⟨lv, mv, (World.rowIs.set h1 2 _).congr fun i hi => ?_, h2, h3.own fun k cur _ hc => blk_setCell_other _ _ _ _ ?_, h4.own fun k es cl _ hc => blk_setCell_other _ _ _ _ ?_, h5, fun k hk => by rw [nblk_setCell]; exact h6 k hk⟩
  · simp only [notesV]
    have : i = 0 ∨ i = 1 ∨ i = 2 := by omega
    rcases this with rfl | rfl | rfl <;> simp
  · rintro rfl
    have := rowIs_block h1
    rw [hc] at this
    injection this with this
    injection this with _ h2
    exact absurd h2 (by decide)
  · rintro rfl
    have := rowIs_block h1
    rw [hc] at this; cases this
set_option maxHeartbeats 1000000 in
set_option maxRecDepth 100000 in
theorem of_any (F : Nat → Prop) (k : Nat) (N : List Nt) (c kind : Int) (n : Nat) (v : Value) (ps : Nat → List Int) (w : World) (h : bookAt w F k N c) (hp : anyParts w v n ps) (hs : ∀ i, i ≤ n → 1 + (flatTo (blobsB ps) i).length ≤ 100000000) (ht : tabIs w) (hF0 : ¬ F 0) (hN : N.length < 1000000) (hc : 0 ≤ c ∧ c < 1000000000) :
    Calls Tryd.prog 26 #[.pointer (some ⟨k, 0, none⟩), .int .i64 kind, v] w fun e w' => e = .returned (sumV (sumL (preB kind n ps))) ∧ bookAt w' (Gr F w w') k (addN N (sumL (preB kind n ps), strOf (preB kind n ps))) (c + 1) ∧ Fr F w w' := by
  have hlt := h.2.1
  have HLT : Hid _ := hlt
  have HBK : Hid _ := h
  have hk0 := hlt k h.1
  have ht0 := ht.1
  obtain ⟨pl, hpl⟩ : ∃ pl, pl = preB kind n ps := ⟨_, rfl⟩
  have hpll : pl.length ≤ 100000000 := by
    rw [hpl, preB, List.length_append]; have := hs n (Nat.le_refl _); simp; omega
  have r0 := rowIs_zero w (Array.replicate 32 (.int .u8 0)) 30 32 (.int .u8 0) rfl
  have hb0 : Below w.heap.size w (w.alloc (.cells (Array.replicate 32 (.int .u8 0)) 30)) := (Below.refl w.heap.size w).alloc (Nat.le_refl _) _
  have hs0 : (w.alloc (.cells (Array.replicate 32 (.int .u8 0)) 30)).heap.size = w.heap.size + 1 := by simp
  have X := pre_any kind n v ps _ (hp.below hb0 (Nat.le_refl _)) (fun i hi => by have := hs i hi; omega)
  rw [← hpl] at X ⊢
  clear hpl
  obtain ⟨a, cap, rfl, _, _⟩ := hp.open
  clear h hlt hp hs
  go_enter Tryd.func26, Tryd.ntmps26
  go_wp2_with fail
  refine X.mono ?_
  rintro e w1 ⟨v1, rfl, hn1, hb1⟩
  have hb1' : Below (w.alloc (.cells (Array.replicate 32 (.int .u8 0)) 30)).heap.size (w.alloc (.cells (Array.replicate 32 (.int .u8 0)) 30)) w1 := hb1
  have hn1' : newBytes w1 (w.alloc (.cells (Array.replicate 32 (.int .u8 0)) 30)).heap.size v1 pl := hn1
  rw [hs0] at hb1' hn1'
  have hB1 : Below w.heap.size w w1 := hb0.trans (hb1'.mono (by omega))
  have r1 : w1.rowIs w.heap.size 30 32 (fun _ => .int .u8 0) := hb1'.row r0 (by omega)
  have hs1 : w.heap.size + 1 ≤ w1.heap.size := by have := hb1'.size; omega
  obtain ⟨va, vc, rfl, _⟩ := hn1'.is.slice
  have Y := sum_one pl _ _ w1 hn1' (by omega) (ht.below hB1 ht0)
  clear X hb1 hn1 hb0 r0 hs0 hb1'
  go_wp2_with fail
  refine Y.mono ?_
  rintro e w3 ⟨rfl, hb3⟩
  have hs3 := hb3.size
  have r3 := hb3.row r1 (by omega)
  have hB3 : Below w.heap.size w w3 := hB1.trans (hb3.mono (by omega))
  have hn3 := hn1'.below hb3 (Nat.le_refl _)
  have r4 := rowIs_zero w3 (Array.replicate 32 (.int .u8 0)) 30 32 (.int .u8 0) rfl
  have hs4 : (w3.alloc (.cells (Array.replicate 32 (.int .u8 0)) 30)).heap.size = w3.heap.size + 1 := by simp
  have hb4 : Below w3.heap.size w3 (w3.alloc (.cells (Array.replicate 32 (.int .u8 0)) 30)) := (Below.refl _ _).alloc (Nat.le_refl _) _
  clear Y hb3 r1 hB1 hn1'
  go_upto_if 16 with (first | (refine wpList_store_row rfl 30 (.tmp 8) (.tmp 14) rfl rfl w3.heap.size 0 32 (arrV (sumL pl)) rfl rfl hi32' (fun _ _ => rfl) _ _ _ r4 (by omega) ?_; intro w5 r5 hz5 hb5))
  have hz5' : w5.heap.size = w3.heap.size + 1 := hz5.trans hs4
  have hb5' : But (w3.heap.size + 1) w3.heap.size (w3.alloc (.cells (Array.replicate 32 (.int .u8 0)) 30)) w5 := hs4 ▸ hb5
  have hB35 : Below w3.heap.size w3 w5 := hb4.trans ((hb5'.mono (by omega)).below (Nat.le_refl _))
  have hB5 : Below w.heap.size w w5 := hB3.trans (hB35.mono (by omega))
  have r5' : w5.rowIs w3.heap.size 30 32 (arrV (sumL pl)) := r5.congr fun i hi => by rw [if_pos (by omega), Nat.sub_zero]
  have r5w := hB35.row r3 (by omega)
  have hv5 := hn3.below hB35 (Nat.le_refl _)
  have Z := note_any F k N c (sumL pl) pl (.slice va pl.length vc) w5 (bookAt.below HBK.out hB5 (Nat.le_refl _)) (sumL_is pl) (Or.inl hv5.is) (fun j hj hf => by
    have h1 := HLT.out j hf
    have h2 := hv5.block j hj
    omega) hN
  unfold sumV at Z
  have R5 : Hid _ := r5'
  have ld5 : ∀ i, i < 32 → w5.cell? ⟨w3.heap.size, 0 + i, none⟩ = some (arrV (sumL pl) i) := fun i hi => by rw [Nat.zero_add]; exact r5'.cell hi
  have LD5 : Hid _ := ld5
  clear ld5
  have R5W : Hid _ := r5w
  have HB5 : Hid _ := hB5
  clear r5 r5' r5w hB35 hb5 hb5' hz5 hb4 hs4 r4 r3 hn3 hv5 hB5 hB3
  go_wp2_with (first | (refine wpList_load_seg rfl 30 (.tmp 8) rfl w3.heap.size 0 32 (arrV (sumL pl)) rfl _ Tryd.underlying30 rfl hi32' LD5.out ?_))
  refine Z.mono ?_
  rintro e w6 ⟨rfl, hbk6, hf6⟩
  clear Z
  have hs6 := hf6.size
  have hbk6' := hbk6
  obtain ⟨hF6, hlt6, pv, hpv6, ⟨_, hnil, _⟩ | ⟨nb, rfl, hnk, hnn⟩⟩ := hbk6
  · exact absurd hnil (addN_ne _ _)
  obtain ⟨lv, mv, rn, hFn, _⟩ := hnn
  have hnbw : nb < w.heap.size ∨ w5.heap.size ≤ nb := by
    rcases hFn.1 with h | h
    · exact Or.inl (HLT.out nb h)
    · exact Or.inr h.1
  have hF3 : ¬ F w3.heap.size := fun f => by have := HLT.out _ f; omega
  have hFw : ¬ F w.heap.size := fun f => by have := HLT.out _ f; omega
  have c0 : w6.cell? ⟨k, 0, none⟩ = some (.pointer (some ⟨nb, 0, none⟩)) := hpv6.cell (i := 0) (by omega)
  have c2 : w6.cell? ⟨nb, 2, none⟩ = some (.int .i64 c) := rn.cell (i := 2) (by omega)
  have z2 := World.rowIs.frozen rn 2
  have q1 : (0 : Int) ≤ c := hc.1
  have q2 : c < 1000000000 := hc.2
  have rs6 : w6.rowIs w3.heap.size 30 32 (arrV (sumL pl)) := World.rowIs.of_block R5.out (hf6.block _ (by omega) hF3)
  have rw6 : w6.rowIs w.heap.size 30 32 (fun _ => .int .u8 0) := World.rowIs.of_block R5W.out (hf6.block _ (by omega) hFw)
  have rs7 : (w6.setCell ⟨nb, 2, none⟩ (.int .i64 (c + 1))).rowIs w3.heap.size 30 32 (arrV (sumL pl)) := World.rowIs.setOther rs6 (show w3.heap.size ≠ nb by omega) _
  have rw7 : (w6.setCell ⟨nb, 2, none⟩ (.int .i64 (c + 1))).rowIs w.heap.size 30 32 (fun _ => .int .u8 0) := World.rowIs.setOther rw6 (show w.heap.size ≠ nb by omega) _
  have BK7 : Hid (bookAt (w6.setCell ⟨nb, 2, none⟩ (.int .i64 (c + 1))) (Gr F w5 w6) k (addN N (sumL pl, strOf pl)) (c + 1)) := (show bookAt (w6.setCell ⟨nb, 2, none⟩ (.int .i64 (c + 1))) (Gr F w5 w6) k (addN N (sumL pl, strOf pl)) (c + 1) from by
    obtain ⟨_, _, pv', hpv', h4⟩ := hbk6'
    have hpe : pv' = .pointer (some ⟨nb, 0, none⟩) := by
      have a := hpv'.cell (i := 0) (by omega)
      rw [c0] at a; exact (Option.some.inj a).symm
    subst hpe
    refine ⟨hF6, fun j hj => by rw [nblk_setCell]; exact hlt6 j hj, _, World.rowIs.setOther hpv' hnk.symm _, Or.inr ⟨nb, rfl, hnk, ?_⟩⟩
    rcases h4 with ⟨h, _⟩ | ⟨nb', h, _, hnn'⟩
    · cases h
    · obtain rfl : nb = nb' := by injection h with h; injection h with h; injection h
      exact hnn'.count (c + 1))
  have FR7 : Hid (Fr (Gr F w5 w6) w6 (w6.setCell ⟨nb, 2, none⟩ (.int .i64 (c + 1)))) := (show Fr (Gr F w5 w6) w6 (w6.setCell ⟨nb, 2, none⟩ (.int .i64 (c + 1))) from (Fr.refl _ _).setCell (Or.inl hFn.1) _)
  have ld7 : ∀ i, i < 32 → (w6.setCell ⟨nb, 2, none⟩ (.int .i64 (c + 1))).cell? ⟨w3.heap.size, 0 + i, none⟩ = some (arrV (sumL pl) i) := fun i hi => by rw [Nat.zero_add]; exact rs7.cell hi
  have RS7 : Hid _ := ld7
  clear ld7
  have F6 : Hid _ := hf6
  have HL6 : Hid _ := hlt6
  clear hbk6' hpv6 rn rs6 rw6 rs7 hf6 hlt6
  go_wp2_with (first | (refine wpList_load_seg rfl 30 (.tmp 8) rfl w3.heap.size 0 32 (arrV (sumL pl)) rfl _ Tryd.underlying30 rfl hi32' RS7.out ?_) | (refine wpList_store_row rfl 30 (.tmp 6) (.tmp 31) rfl rfl w.heap.size 0 32 (arrV (sumL pl)) rfl rfl hi32' (fun _ _ => rfl) _ _ _ rw7 (by omega) ?_; intro w8 r8 hz8 hb8))
  have hz8' : w8.heap.size = w6.heap.size := by rw [hz8, nblk_setCell]
  have hb8' : But w6.heap.size w.heap.size (w6.setCell ⟨nb, 2, none⟩ (.int .i64 (c + 1))) w8 := by
    have : (w6.setCell ⟨nb, 2, none⟩ (.int .i64 (c + 1))).heap.size = w6.heap.size := nblk_setCell _ _ _
    rw [← this]; exact hb8
  refine bodyPost_ret (results_cell_seg rfl _ _ w.heap.size 30 32 (arrV (sumL pl)) _ rfl Tryd.underlying30 rfl hi32' (r8.congr fun i hi => ?_)) rfl ⟨rfl, ?_, ?_⟩
  · rw [if_pos (by omega), Nat.sub_zero]
  · refine bookAt.grow (bookAt.far BK7.out (fun j hj hl => hb8'.block j (HL6.out j hj) ?_) (by rw [nblk_setCell]; omega)) (fun j hj => ?_) (fun j hj => ?_)
    · rintro rfl
      rcases hj with h | h
      · exact hFw h
      · omega
    · rcases hj with h | h
      · exact Or.inl h
      · exact Or.inr ⟨by omega, by rw [hz8']; exact h.2⟩
    · rcases hj with h | h
      · have := HLT.out j h; omega
      · exact h.2
  · have f1 : Fr F w w5 := Fr.of_below F HB5.out
    have f2 : Fr F w w6 := f1.trans F6.out (fun _ _ h => h)
    have f3 : Fr F w (w6.setCell ⟨nb, 2, none⟩ (.int .i64 (c + 1))) := f2.trans FR7.out (fun j hj h => by
      rcases h with h | h
      · exact h
      · omega)
    refine f3.trans (G := fun j => j = w.heap.size) ⟨hb8.os, hb8.tape, hb8.output, hb8.size, fun j hj hne => hb8.block j hj hne⟩ (fun j hj e => ?_)
    omega
end Go.Proofs.YtmfgfcknhjblgaaDoor

/- Bytes that may be written over: what clear leaves. -/
namespace Go.Proofs.YtmfgfcknhjblgaaDoor
set_option linter.unusedSimpArgs false
set_option linter.unusedVariables false
open Go.RowKit Go.Deep

def softE (w : World) (u : Value) : Prop := ∀ pb o n c, u = .slice (some ⟨pb, o, none⟩) n c → w.there pb o n
def softB (w : World) (u : Value) (l : List Int) : Prop := isBytes w u l ∧ softE w u
theorem there_of_block {w w' : World} {b o n : Nat} (h : w.there b o n) (hb : w'.heap[b]? = w.heap[b]?) : w'.there b o n := fun j hj => by
  rw [World.cell?_of_block (w' := w') (w := w) (a := ⟨b, o + j, none⟩) hb, World.frozen?_of_block (w' := w') (w := w) (a := ⟨b, o + j, none⟩) hb]; exact h j hj
theorem softE.far {w w' : World} {u : Value} (h : softE w u) (hb : ∀ k, u.ownBlock = some k → w'.heap[k]? = w.heap[k]?) : softE w' u := fun pb o n c e =>
  there_of_block (h pb o n c e) (hb pb (by rw [e]; rfl))
theorem softB.block {w : World} {u : Value} {l : List Int} (h : softB w u l) (k : Nat) (hk : u.ownBlock = some k) : k < w.heap.size := h.1.block k hk
theorem softB.far {w w' : World} {u : Value} {l : List Int} (h : softB w u l) (hb : ∀ k, u.ownBlock = some k → w'.heap[k]? = w.heap[k]?) (hs : w.heap.size ≤ w'.heap.size) : softB w' u l := ⟨h.1.far hb hs, h.2.far hb⟩
theorem softB.below {w w' : World} {B : Nat} {u : Value} {l : List Int} (h : softB w u l) (hb : Below B w w') (hB : w.heap.size ≤ B) : softB w' u l :=
  h.far (fun k hk => hb.block k (Nat.lt_of_lt_of_le (h.block k hk) hB)) hb.size
theorem newBytes.softE {w : World} {B : Nat} {v : Value} {l : List Int} (h : newBytes w B v l) : softE w v := fun pb o n c e => by
  obtain ⟨⟨_, h | ⟨g, cap, cur, he, hB, hg, hc, hm, hs, ht⟩⟩, hb⟩ := h
  · rw [h.1] at e; cases e
  · rw [he] at e
    have e' : (g = pb ∧ 0 = o) ∧ (l.map (Value.int .u8)).length = n ∧ cap = c := by simpa using e
    obtain ⟨⟨rfl, rfl⟩, rfl, rfl⟩ := e'
    have hrow : w.rowIs g 5 cap (fun j => cur.getD j undef) := ⟨cur, hg, by omega, fun j hj => by rw [Array.getElem?_eq_getElem (by omega)]; simp [Array.getD, hs, hj]⟩
    exact there_of_row hrow (by omega)
theorem newBytes.soft {w : World} {B : Nat} {v : Value} {l : List Int} (h : newBytes w B v l) : softB w v l := ⟨h.is, h.softE⟩
/-- nothing has turned but in [B, C). -/
structure Mid (B C : Nat) (w w' : World) : Prop where
  os : w'.os = w.os
  tape : w'.tape = w.tape
  output : w'.output = w.output
  size : w'.heap.size = w.heap.size
  block : ∀ k, (k < B ∨ C ≤ k) → w'.heap[k]? = w.heap[k]?
theorem Mid.refl (B C : Nat) (w : World) : Mid B C w w := ⟨rfl, rfl, rfl, rfl, fun _ _ => rfl⟩
theorem Mid.trans {B C : Nat} {a b c : World} (h : Mid B C a b) (g : Mid B C b c) : Mid B C a c := ⟨g.os.trans h.os, g.tape.trans h.tape, g.output.trans h.output, g.size.trans h.size, fun k hk => (g.block k hk).trans (h.block k hk)⟩
theorem Mid.below {B C : Nat} {w w' : World} (h : Mid B C w w') : Below B w w' := ⟨h.os, h.tape, h.output, Nat.le_of_eq h.size.symm, fun k hk => h.block k (Or.inl hk)⟩
theorem zero8s : ∀ w, (zeroValue 5).run Tryd.prog w = .ok (.int .u8 0) w := fun w => by kernel_rfl
/-- clear(u). -/
theorem soft_clear (w : World) (u : Value) (x : Option Addr) (k y : Nat) (hu : u = .slice x k y) (hx : 0 < k → ∃ pb po, x = some ⟨pb, po, none⟩) (hs : softE w u) :
    ∃ w', (Builtin.clear_ #[34] 0 #[u]).run Tryd.prog w = .ok (.tuple #[]) w' ∧ w'.heap.size = w.heap.size ∧ w'.os = w.os ∧ w'.tape = w.tape ∧ w'.output = w.output ∧
      (∀ j, u.ownBlock ≠ some j → w'.heap[j]? = w.heap[j]?) ∧ ∀ b o n, w.there b o n → w'.there b o n := by
  by_cases h0 : 0 < k
  · obtain ⟨pb, po, rfl⟩ := hx h0
    have ht := hs pb po k y hu
    subst hu
    have hb : But w.heap.size pb w (w.setCells pb po (List.replicate k (.int .u8 0))) := but_setCells _ _ (But.refl _ _ _)
    refine ⟨_, Go.Lib.run_clear_slice w 34 5 0 (.int .u8 0) Tryd.underlying34 zero8s rfl rfl pb po k y h0 (fun j hj => (ht j hj).1) (fun j hj => (ht j hj).2), size_setCells _ _ _ _, hb.os, hb.tape, hb.output, fun j hj => ?_, fun b o n h => World.there_setCells h _ _ _⟩
    by_cases hl : j < w.heap.size
    · exact hb.block j hl (fun e => hj (by rw [e]; rfl))
    · rw [Array.getElem?_eq_none (by rw [size_setCells]; omega), Array.getElem?_eq_none (by omega)]
  · obtain rfl : k = 0 := by omega
    subst hu
    exact ⟨w, by cases x <;> simp [Builtin.clear_, run_underlying Tryd.underlying34], rfl, rfl, rfl, rfl, fun _ _ => rfl, fun _ _ _ h => h⟩
/-- v is a slice of slices of bytes that may be written over; all their memory lies in [B, C). -/
def softParts (w : World) (B C : Nat) (v : Value) (n : Nat) : Prop :=
  ∃ a c, v = .slice a n c ∧ n ≤ maxLen ∧ ∀ i, i < n → ∃ qb qo x k y, a = some ⟨qb, qo, none⟩ ∧ (B ≤ qb ∧ qb < C) ∧ w.cell? ⟨qb, qo + i, none⟩ = some (.slice x k y) ∧ (0 < k → ∃ pb po, x = some ⟨pb, po, none⟩) ∧ softE w (.slice x k y) ∧
    ∀ j, (Value.slice x k y).ownBlock = some j → B ≤ j ∧ j < C ∧ j ≠ qb
theorem softParts.clear {w : World} {B C : Nat} {v : Value} {n : Nat} (h : softParts w B C v n) (i : Nat) (hi : i < n) :
    ∃ qb qo cap x k y w', v = .slice (some ⟨qb, qo, none⟩) n cap ∧ w.cell? ⟨qb, qo + i, none⟩ = some (.slice x k y) ∧ (Builtin.clear_ #[34] 0 #[.slice x k y]).run Tryd.prog w = .ok (.tuple #[]) w' ∧ softParts w' B C v n ∧ Mid B C w w' := by
  obtain ⟨a, c, rfl, hm, he⟩ := h
  obtain ⟨qb, qo, x, k, y, rfl, hq, hc, hx, hs, ho⟩ := he i hi
  obtain ⟨w', hr, hz, h1, h2, h3, hb, ht⟩ := soft_clear w _ x k y rfl hx hs
  refine ⟨qb, qo, c, x, k, y, w', rfl, hc, hr, ⟨_, _, rfl, hm, fun i' hi' => ?_⟩, h1, h2, h3, hz, fun j hj => hb j fun e => by have := ho j e; omega⟩
  obtain ⟨qb', qo', x', k', y', e', _, hc', hx', hs', ho'⟩ := he i' hi'
  have e2 : qb = qb' ∧ qo = qo' := by simpa using e'
  obtain ⟨rfl, rfl⟩ := e2
  exact ⟨qb, qo, x', k', y', rfl, hq, by rw [World.cell?_of_block (w' := w') (w := w) (a := ⟨qb, qo + i', none⟩) (hb qb fun e => (ho qb e).2.2 rfl)]; exact hc', hx', fun pb o m c e => ht _ _ _ (hs' pb o m c e), ho'⟩
theorem softParts.far {w w' : World} {B C : Nat} {v : Value} {n : Nat} (h : softParts w B C v n) (hb : ∀ j, B ≤ j → j < C → w'.heap[j]? = w.heap[j]?) : softParts w' B C v n := by
  obtain ⟨a, c, e, hm, he⟩ := h
  refine ⟨a, c, e, hm, fun i hi => ?_⟩
  obtain ⟨qb, qo, x, k, y, e1, hq, hc, hx, hs, ho⟩ := he i hi
  exact ⟨qb, qo, x, k, y, e1, hq, by rw [World.cell?_of_block (w' := w') (w := w) (a := ⟨qb, qo + i, none⟩) (hb qb hq.1 hq.2)]; exact hc, hx, hs.far (fun j hj => hb j (ho j hj).1 (ho j hj).2.1), ho⟩
theorem softParts.open {w : World} {B C : Nat} {v : Value} {n : Nat} (h : softParts w B C v n) : ∃ a c, v = .slice a n c := by
  obtain ⟨a, c, e, _⟩ := h; exact ⟨a, c, e⟩
end Go.Proofs.YtmfgfcknhjblgaaDoor

/- Books: Find. -/
namespace Go.Proofs.YtmfgfcknhjblgaaDoor
set_option linter.unusedSimpArgs false
set_option linter.unusedVariables false
open Go.RowKit Go.Deep

/-- []byte(s). -/
theorem str_bytes (w : World) (s : ByteArray) (hs : s.size ≤ 1000000000000) :
    ∃ v' w', (convert 9 34 (.string s)).run Tryd.prog w = .ok v' w' ∧ isBytes w' v' (sBytes s) ∧ (∀ k, v'.ownBlock = some k → k = w.heap.size) ∧ Below w.heap.size w w' ∧ w'.heap.size = w.heap.size + 1 ∧ softE w' v' := by
  have hge := grownCap_ge w s.size 0 5
  have hcm : grownCap w s.size 0 5 ≤ maxLen := grownCap_le_maxLen w s.size 0 5 (by unfold maxLen; omega)
  refine ⟨_, _, Go.Lib.run_convert_string_bytes w 9 34 5 s Tryd.underlying9 Tryd.underlying34 Tryd.underlying5, Or.inr ⟨w.heap.size, 0, _, by rw [sBytes_length], by rw [sBytes_length]; exact hge, hcm, by rw [Go.Lib.bytesWorld_size]; omega, fun i hi => ?_, sBytes_byte s⟩, fun k hk => by simpa [Value.ownBlock] using hk.symm, ⟨rfl, rfl, rfl, by rw [Go.Lib.bytesWorld_size]; omega, fun k hk => Go.Lib.bytesWorld_at_old w _ s k hk⟩, Go.Lib.bytesWorld_size _ _ _, fun pb o n c e => ?_⟩
  case refine_2 =>
    have e' : (w.heap.size = pb ∧ 0 = o) ∧ s.size = n ∧ grownCap w s.size 0 5 = c := by simpa using e
    obtain ⟨⟨rfl, rfl⟩, rfl, rfl⟩ := e'
    intro j hj
    rw [Nat.zero_add]
    refine ⟨by rw [Go.Lib.bytesWorld_cell w _ s j hj]; rfl, ?_⟩
    have hsz : s.size ≤ (Go.Lib.bytesCells w 5 s).size := by simp [Go.Lib.bytesCells]
    simp [World.frozen?, Go.Lib.bytesWorld_at_new]
    omega
  rw [sBytes_length] at hi
  rw [Nat.zero_add, Go.Lib.bytesWorld_cell w _ s i hi]
  congr 2
  have hi' : i < s.data.toList.length := by rw [Array.length_toList]; exact hi
  rw [sBytes, List.getD_eq_getElem?_getD, List.getD_eq_getElem?_getD, List.getElem?_map, List.getElem?_eq_getElem hi']
  rfl
theorem note33 : (Tryd.prog.info? 92).map (·.size) = some 33 := by kernel_rfl
/-- a note stored into a note. -/
theorem stow_run (w : World) (b : Nat) (x : Nt) {t : Nat} {f : Nat → Value} (hr : w.rowIs b t 33 f) : (storeVar 92 ⟨b, 0, none⟩ (.agg (rowV 33 (noteV x)))).run Tryd.prog w = .ok () (w.setCells b 0 (rowV 33 (noteV x)).toList) :=
  run_storeVar_mid (P := Tryd.prog) w b 0 92 (rowV 33 (noteV x)) (by rw [rowV_size]; exact there_of_row hr (by omega)) (by rw [note33, rowV_size]) (by
    rw [Array.all_eq_true_iff_forall_mem]
    intro v hv
    obtain ⟨i, hi', rfl⟩ := Array.mem_iff_getElem.1 hv
    have hlt : i < 33 := by rw [rowV_size] at hi'; exact hi'
    have := rowV_get 33 (noteV x) i hlt
    rw [Array.getElem?_eq_getElem hi'] at this
    rw [Option.some.inj this]; exact noteV_one x i)
theorem stow_row (w : World) (b : Nat) (x : Nt) {t : Nat} {f : Nat → Value} (hr : w.rowIs b t 33 f) : (w.setCells b 0 (rowV 33 (noteV x)).toList).rowIs b t 33 (noteV x) ∧ (w.setCells b 0 (rowV 33 (noteV x)).toList).heap.size = w.heap.size ∧ But w.heap.size b w (w.setCells b 0 (rowV 33 (noteV x)).toList) :=
  ⟨(rowIs_splice hr).congr fun i hi => by rw [if_pos (by omega), Nat.sub_zero], size_setCells _ _ _ _, but_setCells _ _ (But.refl _ _ _)⟩
/-- the bytes that were noted first. -/
def foundB (N : List Nt) (q : List Int) : List Int := match firstAt N q with
  | some i => sBytes (N.getD i zeroN).2
  | none => []
theorem foundN_sum {N : List Nt} (h : ∀ x ∈ N, isSum x.1) (q : List Int) : isSum (foundN N q).1 := by
  unfold foundN
  cases hf : firstAt N q with
  | none => exact zeroN_sum
  | some i =>
    have := firstAt_lt hf
    refine h _ ?_
    simp only
    rw [List.getD_eq_getElem?_getD, List.getElem?_eq_getElem this]; exact List.getElem_mem _
set_option maxHeartbeats 1000000 in
set_option maxRecDepth 100000 in
theorem findB_nil (q : List Int) (w : World) : Calls Tryd.prog 24 #[.pointer none, sumV q] w fun e w' => e = .returned (.tuple #[.slice none 0 0, .bool false]) ∧ Below w.heap.size w w' := by
  have hb0 : Below w.heap.size w (w.alloc (.cells (rowV 32 (arrV q)) 30)) := (Below.refl _ _).alloc (Nat.le_refl _) _
  unfold sumV
  go_enter Tryd.func24, Tryd.ntmps24
  go_wp2_with fail
  refine (empty_none _).mono ?_
  rintro e w' ⟨rfl, rfl⟩
  go_wp2
  exact bodyPost_ret (results_tmp2 rfl _ _ _) rfl ⟨rfl, hb0⟩
set_option maxHeartbeats 1000000 in
set_option maxRecDepth 100000 in
theorem findB_any (F : Nat → Prop) (k : Nat) (N : List Nt) (c : Int) (q : List Int) (w : World) (h : bookAt w F k N c) (hq : isSum q) (hts : ∀ x ∈ N, x.2.size ≤ 1000000000) :
    Calls Tryd.prog 24 #[.pointer (some ⟨k, 0, none⟩), sumV q] w fun e w' => ∃ v', e = .returned (.tuple #[v', .bool (firstAt N q).isSome]) ∧ isBytes w' v' (foundB N q) ∧ (∀ j, v'.ownBlock = some j → w.heap.size ≤ j) ∧ Below w.heap.size w w' := by
  obtain ⟨hF, hlt, pv, hpv, hcase⟩ := h
  have hk := hlt k hF
  have hb0 : Below w.heap.size w (w.alloc (.cells (rowV 32 (arrV q)) 30)) := (Below.refl _ _).alloc (Nat.le_refl _) _
  have r1 : (w.alloc (.cells (rowV 32 (arrV q)) 30)).rowIs k 64 1 (fun _ => pv) := hb0.row hpv hk
  have rq : (w.alloc (.cells (rowV 32 (arrV q)) 30)).rowIs w.heap.size 30 32 (arrV q) := rowIs_box w _ _ _
  have s0 : (w.alloc (.cells (rowV 32 (arrV q)) 30)).heap.size = w.heap.size + 1 := by simp
  unfold sumV
  rcases hcase with ⟨rfl, rfl, rfl⟩ | ⟨nb, rfl, hnk, hnn⟩
  · go_enter Tryd.func24, Tryd.ntmps24
    go_wp2_with fail
    refine (empty_zero k _ r1).mono ?_
    rintro e w' ⟨rfl, rfl⟩
    go_wp2
    exact bodyPost_ret (results_tmp2 rfl _ _ _) rfl ⟨_, rfl, Or.inl ⟨rfl, rfl⟩, fun j hj => absurd hj (by simp [Value.ownBlock]), hb0⟩
  · have hsz : (foundN N q).2.size ≤ 1000000000 := by
      unfold foundN
      cases hf : firstAt N q with
      | none => simp [zeroN]
      | some i =>
        have := firstAt_lt hf
        refine hts _ ?_
        simp only
        rw [List.getD_eq_getElem?_getD, List.getElem?_eq_getElem this]; exact List.getElem_mem _
    have hN1 := hnn.below hb0 (Nat.le_refl _)
    have hz := zero_note
    generalize hfx : foundN N q = fx at *
    go_enter Tryd.func24, Tryd.ntmps24
    go_wp2_with fail
    refine (empty_some k nb _ r1).mono ?_
    rintro e w' ⟨rfl, hw'⟩
    obtain rfl := hw'.symm
    clear hw'
    generalize hW1 : w.alloc (.cells (rowV 32 (arrV q)) 30) = w1 at *
    clear hW1
    have k0 : ∀ wz, Below w1.heap.size w1 wz → wz.cell? ⟨k, 0, none⟩ = some (.pointer (some ⟨nb, 0, none⟩)) := fun wz hz => (hz.cell (p := ⟨k, 0, none⟩) (show k < w1.heap.size by omega)).trans (r1.cell (i := 0) (by omega))
    have k1 : ∀ wz, Below w1.heap.size w1 wz → ∀ i, i < 32 → wz.cell? ⟨w.heap.size, 0 + i, none⟩ = some (arrV q i) := fun wz hz i hi => by rw [Nat.zero_add]; exact (hz.cell (p := ⟨w.heap.size, i, none⟩) (show w.heap.size < w1.heap.size by omega)).trans (rq.cell hi)
    have fa : ∀ wz, Below w1.heap.size w1 wz → Calls Tryd.prog 46 #[.pointer (some ⟨nb, 0, none⟩), .agg (rowV 32 (arrV q))] wz fun e w' => e = .returned (.tuple #[.agg (rowV 33 (noteV fx)), .bool (firstAt N q).isSome]) ∧ Below wz.heap.size wz w' := fun wz hz => by
      have := find_any _ nb N c q wz (hN1.below hz (Nat.le_refl _)) hq
      rw [hfx] at this
      unfold noteA sumV at this
      exact this
    have K0 : Hid _ := k0
    have K1 : Hid _ := k1
    have FA : Hid _ := fa
    clear k0 k1 fa r1 rq hnn hN1
    go_upto_region 3 with fail
    go_cut [6, 7] (fun p t wx => ∃ g, p = .pointer (some ⟨g, 0, none⟩) ∧ wx.rowIs g 92 33 (noteV fx) ∧ t = .bool (firstAt N q).isSome ∧ Below w1.heap.size w1 wx)
    case first =>
      refine wp_region_noPanic ?_
      refine wp_region_held_drew (S := fun w' => Below w1.heap.size w1 w') (by kernel_rfl) ((Below.refl _ _).drew) (fun hHeld => ?_)
      refine take_op (i := 0) (v := ?vf0) rfl (by kernel_rfl) (by kernel_rfl) (by kernel_rfl) (fun _ _ _ h => h) rfl hHeld ?yf0 ?rf0
      case yf0 => (intro wz hz; go_simp; first | done | with_reducible rfl)
      try simp only [Act.put, List.setIfInBounds_toArray, List.set_cons_zero, List.set_cons_succ]
      refine take_op (i := 1) (v := ?vf1) rfl (by kernel_rfl) (by kernel_rfl) (by kernel_rfl) (fun _ _ _ h => h) rfl hHeld ?yf1 ?rf1
      case yf1 => (intro wz hz; go_simp; first | done | with_reducible rfl)
      try simp only [Act.put, List.setIfInBounds_toArray, List.set_cons_zero, List.set_cons_succ]
      refine take_op (i := 2) (v := ?vf2) rfl (by kernel_rfl) (by kernel_rfl) (by kernel_rfl) (fun _ _ _ h => h) rfl hHeld ?yf2 ?rf2
      case yf2 => (intro wz hz; go_simp; first | done | with_reducible rfl)
      try simp only [Act.put, List.setIfInBounds_toArray, List.set_cons_zero, List.set_cons_succ]
      refine take_op (i := 3) (v := ?vf3) rfl (by kernel_rfl) (by kernel_rfl) (by kernel_rfl) (fun _ _ _ h => h) rfl hHeld ?yf3 ?rf3
      case yf3 => (intro wz hz; have hcz := K0.out wz hz; go_simp; first | done | with_reducible rfl)
      try simp only [Act.put, List.setIfInBounds_toArray, List.set_cons_zero, List.set_cons_succ]
      refine take_load (i := 4) rfl (by kernel_rfl) (by kernel_rfl) (by kernel_rfl) 30 _ rfl w.heap.size 0 32 (arrV q) rfl _ Tryd.underlying30 rfl (by kernel_rfl) (fun _ _ _ h => h) rfl hHeld (fun wz hz => K1.out wz hz) ?_
      try simp only [Act.put, List.setIfInBounds_toArray, List.set_cons_zero, List.set_cons_succ]
      refine take_pair (i := 5) (j := 9) rfl rfl (by kernel_rfl) rfl rfl (fun K hK => ?_) (fun K hK => ?_)
      · go_simp
        refine Calls.mono (FA.out _ hHeld) ?_
        rintro e w8 ⟨rfl, hbw8⟩
        refine hK.out _ _ (hHeld.trans (hbw8.mono hHeld.size)) (fun hHeld => ?_)
        clear hK K
        try simp only [Act.put, List.setIfInBounds_toArray, List.set_cons_zero, List.set_cons_succ]
        refine take_op (i := 6) (v := ?vfa6) rfl (by kernel_rfl) (by kernel_rfl) (by kernel_rfl) (fun _ _ _ h => h) rfl hHeld ?yfa6 ?rfa6
        case yfa6 => (intro wz hz; go_simp; first | done | with_reducible rfl)
        try simp only [Act.put, List.setIfInBounds_toArray, List.set_cons_zero, List.set_cons_succ]
        refine take_op (i := 7) (v := ?vfa7) rfl (by kernel_rfl) (by kernel_rfl) (by kernel_rfl) (fun _ _ _ h => h) rfl hHeld ?yfa7 ?rfa7
        case yfa7 => (intro wz hz; go_simp; first | done | with_reducible rfl)
        try simp only [Act.put, List.setIfInBounds_toArray, List.set_cons_zero, List.set_cons_succ]
        refine take_op (i := 8) (v := ?vfa8) rfl (by kernel_rfl) (by kernel_rfl) (by kernel_rfl) (fun _ _ _ h => h) rfl hHeld ?yfa8 ?rfa8
        case yfa8 => (intro wz hz; go_simp; first | done | with_reducible rfl)
        try simp only [Act.put, List.setIfInBounds_toArray, List.set_cons_zero, List.set_cons_succ]
        refine take_one (i := 9) rfl (by kernel_rfl) rfl (fun K hK => ?_)
        go_simp
        refine hK.out _ _ (hHeld.alloc hHeld.size _) (fun hHeld => ?_)
        clear hK K
        try simp only [Act.put, List.setIfInBounds_toArray, List.set_cons_zero, List.set_cons_succ]
        have ra : (w8.alloc (.cells (rowV 33 (noteV zeroN)) 92)).rowIs w8.heap.size 92 33 (noteV zeroN) := rowIs_box w8 _ _ _
        have hs8 := hbw8.size
        refine take_one (i := 10) rfl (by kernel_rfl) rfl (fun K hK => ?_)
        have hst := stow_run (w8.alloc (.cells (rowV 33 (noteV zeroN)) 92)) w8.heap.size fx ra
        have h9 := stow_row (w8.alloc (.cells (rowV 33 (noteV zeroN)) 92)) w8.heap.size fx ra
        have r9 := h9.1
        have hz9 := h9.2.1
        have hb9 := h9.2.2
        clear h9
        unfold Oper.wp execOp
        simp only [Instr.storeAt, Instr.sureAddr, Sem.run_bind, Sem.run_pure, Result.andThen_ok]
        simp [Act.eval, hst, Oper.upon]
        clear hst
        generalize (w8.alloc (.cells (rowV 33 (noteV zeroN)) 92)).setCells w8.heap.size 0 (rowV 33 (noteV fx)).toList = w9 at r9 hz9 hb9 ⊢
        have hbz : Below w1.heap.size (w8.alloc (.cells (rowV 33 (noteV zeroN)) 92)) w9 := (But.mono hb9 (show w1.heap.size ≤ (w8.alloc (.cells (rowV 33 (noteV zeroN)) 92)).heap.size by have := hbw8.size; have h2 : w1.heap.size ≤ w8.heap.size := this; simp; omega)).below (show w1.heap.size ≤ w8.heap.size by have := hbw8.size; have h2 : w1.heap.size ≤ w8.heap.size := this; omega)
        have hHeld9 : Below w1.heap.size w1 w9 := Below.trans hHeld hbz
        clear hbz hb9 hz9
        refine hK.out _ _ hHeld9 (fun hHeld => ?_)
        clear hHeld9
        clear hK K
        try simp only [Act.put, List.setIfInBounds_toArray, List.set_cons_zero, List.set_cons_succ]
        refine take_op (i := 11) (v := ?vfa11) rfl (by kernel_rfl) (by kernel_rfl) (by kernel_rfl) (fun _ _ _ h => h) rfl hHeld ?yfa11 ?rfa11
        case yfa11 => (intro wz hz; go_simp; first | done | with_reducible rfl)
        try simp only [Act.put, List.setIfInBounds_toArray, List.set_cons_zero, List.set_cons_succ]
        refine wpAnyH_done (by kernel_rfl) ?_ _
        refine NoPanic.normal ?_
        have HB9 : Hid _ := hHeld
        have R9 : Hid _ := r9
        clear hHeld
        go_wp2_with fail
        go_meet
        case rel => exact ⟨_, rfl, R9.out, rfl, HB9.out⟩
      · go_simp
        refine hK.out _ _ (hHeld.alloc hHeld.size _) (fun hHeld => ?_)
        clear hK K
        try simp only [Act.put, List.setIfInBounds_toArray, List.set_cons_zero, List.set_cons_succ]
        have ra : (w1.drew.alloc (.cells (rowV 33 (noteV zeroN)) 92)).rowIs w1.heap.size 92 33 (noteV zeroN) := rowIs_box w1.drew _ _ _
        refine take_one (i := 5) rfl (by kernel_rfl) rfl (fun K hK => ?_)
        go_simp
        refine Calls.mono (FA.out _ hHeld) ?_
        rintro e w8 ⟨rfl, hbw8⟩
        refine hK.out _ _ (hHeld.trans (hbw8.mono hHeld.size)) (fun hHeld => ?_)
        clear hK K
        try simp only [Act.put, List.setIfInBounds_toArray, List.set_cons_zero, List.set_cons_succ]
        have hs8' : w1.heap.size + 1 ≤ w8.heap.size := by have := hbw8.size; simpa using this
        have rb : w8.rowIs (w.heap.size + 1) 92 33 (noteV zeroN) := by rw [← s0]; exact hbw8.row ra (by simp)
        refine take_op (i := 6) (v := ?vfb6) rfl (by kernel_rfl) (by kernel_rfl) (by kernel_rfl) (fun _ _ _ h => h) rfl hHeld ?yfb6 ?rfb6
        case yfb6 => (intro wz hz; go_simp; first | done | with_reducible rfl)
        try simp only [Act.put, List.setIfInBounds_toArray, List.set_cons_zero, List.set_cons_succ]
        refine take_op (i := 7) (v := ?vfb7) rfl (by kernel_rfl) (by kernel_rfl) (by kernel_rfl) (fun _ _ _ h => h) rfl hHeld ?yfb7 ?rfb7
        case yfb7 => (intro wz hz; go_simp; first | done | with_reducible rfl)
        try simp only [Act.put, List.setIfInBounds_toArray, List.set_cons_zero, List.set_cons_succ]
        refine take_op (i := 8) (v := ?vfb8) rfl (by kernel_rfl) (by kernel_rfl) (by kernel_rfl) (fun _ _ _ h => h) rfl hHeld ?yfb8 ?rfb8
        case yfb8 => (intro wz hz; go_simp; first | done | with_reducible rfl)
        try simp only [Act.put, List.setIfInBounds_toArray, List.set_cons_zero, List.set_cons_succ]
        refine take_one (i := 10) rfl (by kernel_rfl) rfl (fun K hK => ?_)
        have hst := stow_run (w8) (w.heap.size + 1) fx rb
        have h9 := stow_row (w8) (w.heap.size + 1) fx rb
        have r9 := h9.1
        have hz9 := h9.2.1
        have hb9 := h9.2.2
        clear h9
        unfold Oper.wp execOp
        simp only [Instr.storeAt, Instr.sureAddr, Sem.run_bind, Sem.run_pure, Result.andThen_ok]
        simp [Act.eval, hst, Oper.upon]
        clear hst
        generalize (w8).setCells (w.heap.size + 1) 0 (rowV 33 (noteV fx)).toList = w9 at r9 hz9 hb9 ⊢
        have hbz : Below w1.heap.size (w8) w9 := (But.mono hb9 (show w1.heap.size ≤ (w8).heap.size by omega)).below (show w1.heap.size ≤ (w.heap.size + 1) by omega)
        have hHeld9 : Below w1.heap.size w1 w9 := Below.trans hHeld hbz
        clear hbz hb9 hz9
        refine hK.out _ _ hHeld9 (fun hHeld => ?_)
        clear hHeld9
        clear hK K
        try simp only [Act.put, List.setIfInBounds_toArray, List.set_cons_zero, List.set_cons_succ]
        refine take_op (i := 11) (v := ?vfb11) rfl (by kernel_rfl) (by kernel_rfl) (by kernel_rfl) (fun _ _ _ h => h) rfl hHeld ?yfb11 ?rfb11
        case yfb11 => (intro wz hz; go_simp; first | done | with_reducible rfl)
        try simp only [Act.put, List.setIfInBounds_toArray, List.set_cons_zero, List.set_cons_succ]
        refine wpAnyH_done (by kernel_rfl) ?_ _
        refine NoPanic.normal ?_
        have HB9 : Hid _ := hHeld
        have R9 : Hid _ := r9
        clear hHeld
        go_wp2_with fail
        go_meet
        case rel => exact ⟨_, rfl, R9.out, rfl, HB9.out⟩
    case rest =>
      obtain ⟨g, rfl, rg, rfl, hbc⟩ := hcut
      have c32 : wc.cell? ⟨g, 32, none⟩ = some (.string fx.2) := by
        have := rg.cell (i := 32) (by omega)
        rw [noteV, if_neg (by omega)] at this; exact this
      have hsc := hbc.size
      obtain ⟨v9, w9, hr9, hi9, ho9, hb9, hs9, hf9⟩ := str_bytes wc fx.2 (by omega)
      have HB : Hid _ := hb0.trans (hbc.mono (by omega))
      have H9 : Hid _ := hi9
      have B9 : Hid _ := hb9
      have O9 : Hid _ := ho9
      obtain ⟨va, vc, rfl, _⟩ := hi9.slice
      clear rg hbc hi9 hb9 K0 K1 FA ho9
      cases hf : firstAt N q with
      | none =>
        simp only [Option.isSome_none]
        go_wp2
        exact bodyPost_ret (results_tmp2 rfl _ _ _) rfl ⟨_, by rw [hf]; rfl, Or.inl ⟨rfl, by unfold foundB; rw [hf]⟩, fun j hj => absurd hj (by simp [Value.ownBlock]), HB.out⟩
      | some i =>
        have hfb : foundB N q = sBytes fx.2 := by unfold foundB; rw [hf, ← hfx]; unfold foundN; rw [hf]
        simp only [Option.isSome_some]
        go_wp2
        exact bodyPost_ret (results_tmp2 rfl _ _ _) rfl ⟨_, by rw [hf]; rfl, by rw [hfb]; exact H9.out, fun j hj => by
          have := O9.out j hj; omega, HB.out.trans (B9.out.mono (by omega))⟩
end Go.Proofs.YtmfgfcknhjblgaaDoor

/- Books: All. -/
namespace Go.Proofs.YtmfgfcknhjblgaaDoor
set_option linter.unusedSimpArgs false
set_option linter.unusedVariables false
open Go.RowKit Go.Deep

theorem hiB : (Tryd.prog.info? 34).map (fun i => (i.zero, i.size, i.bytes)) = some (some (.slice none 0 0), 1, 24) := by kernel_rfl
/-- a slice of slices of bytes, all of the call's own. -/
def mineParts (w : World) (B : Nat) (v : Value) (L : List (List Int)) : Prop :=
  ∃ svs : List Value, owns w B 34 v svs ∧ svs.length = L.length ∧ ∀ (i : Nat) (l : List Int), L[i]? = some l → ∃ u, svs[i]? = some u ∧ softB w u l ∧ ∀ j, u.ownBlock = some j → B ≤ j ∧ v.ownBlock ≠ some j
theorem mineParts.nil (w : World) (B : Nat) : mineParts w B (.slice none 0 0) [] := ⟨[], owns_nil _ _ _, rfl, fun i l h => by simp at h⟩
theorem mineParts.below {w w' : World} {B C : Nat} {v : Value} {L : List (List Int)} (h : mineParts w B v L) (hb : Below C w w') (hC : w.heap.size ≤ C) : mineParts w' B v L := by
  obtain ⟨svs, h1, h2, h3⟩ := h
  refine ⟨svs, h1.below hb hC, h2, fun i l hl => ?_⟩
  obtain ⟨u, a1, a2, a3⟩ := h3 i l hl
  exact ⟨u, a1, a2.below hb hC, a3⟩
theorem mineParts.parts {w : World} {B : Nat} {v : Value} {L : List (List Int)} (h : mineParts w B v L) : isParts w v L.length (fun i => L.getD i []) := by
  obtain ⟨svs, h1, h2, h3⟩ := h
  by_cases h0 : L.length = 0
  · obtain ⟨_, h | ⟨g, cap, cur, rfl, hB, hb, hc, hm, hs, ht⟩⟩ := h1
    · exact Or.inl ⟨h.1, h0⟩
    · refine Or.inr ⟨g, 0, cap, fun _ => undef, by rw [h2], (Array.getElem?_eq_some_iff.1 hb).1, by rw [h0]; exact Nat.zero_le _, fun i hi => by omega⟩
  · obtain ⟨g, cap, rfl, hB, hg, hcap, hmx, hcell, _⟩ := h1.shape (by omega)
    refine Or.inr ⟨g, 0, cap, fun i => svs.getD i undef, by rw [h2], hg, by omega, fun i hi => ?_⟩
    obtain ⟨u, a1, a2, a3⟩ := h3 i _ (List.getElem?_eq_getElem hi)
    have e1 : svs.getD i undef = u := by rw [List.getD_eq_getElem?_getD, a1]; rfl
    have e2 : L.getD i [] = L[i] := by rw [List.getD_eq_getElem?_getD, List.getElem?_eq_getElem hi]; rfl
    show w.cell? ⟨g, 0 + i, none⟩ = some (svs.getD i undef) ∧ anyBytes w (svs.getD i undef) (L.getD i [])
    rw [e1, e2, Nat.zero_add]
    exact ⟨hcell i u a1, Or.inl a2.1⟩
/-- append(v, u), u bytes. -/
theorem part_append_run (w : World) (B : Nat) (v u : Value) (L : List (List Int)) (l : List Int) (hv : mineParts w B v L) (hu : softB w u l) (hub : ∀ j, u.ownBlock = some j → B ≤ j ∧ v.ownBlock ≠ some j) (hs : L.length < 1000000) (hB : B ≤ w.heap.size) :
    ∃ v' w', (Builtin.append_ #[22, 22] 22 #[v, .slice (some ⟨w.heap.size, 0, none⟩) 1 1]).run Tryd.prog (w.alloc (.cells #[u] 34)) = .ok v' w' ∧ mineParts w' B v' (L ++ [l]) ∧ Below B w w' := by
  obtain ⟨svs, h1, h2, h3⟩ := hv
  have hbl := fun k hk => h1.block k hk
  have h1' := h1.alloc (.cells #[u] 34)
  have hoc : u.oneCell' = true := by
    rcases hu.1 with ⟨rfl, _⟩ | ⟨pb, po, cap, rfl, _⟩ <;> rfl
  obtain ⟨g, cap, w', hr, ho, hg, hat, hlt⟩ := run_append (P := Tryd.prog) (w.alloc (.cells #[u] 34)) 22 22 B 34 (.slice none 0 0) 24 Tryd.underlying22 hiB rfl v svs h1' w.heap.size 0 1 1 [u] rfl
    (fun j x hx => by
      match j with
      | 0 =>
        have : u = x := by simpa using hx
        subst this; exact one_cell w _ _
      | j + 1 => simp at hx)
    (fun x hx => by
      have : x = u := by simpa using hx
      subst this; exact hoc) (by omega) (by unfold maxLen; omega) (by omega) (by simp; omega)
  have hkeep : ∀ j, j < w.heap.size → v.ownBlock ≠ some j → w'.heap[j]? = w.heap[j]? := fun j hj hne =>
    (hg.block j (by simp; omega) (fun e => hne e.symm)).trans (blk_alloc_lt _ _ _ hj)
  have hsz : w.heap.size ≤ w'.heap.size := by have := hg.size; simp at this; omega
  have hown : ∀ j, j < w.heap.size → v.ownBlock ≠ some j → (Value.slice (some ⟨g, 0, none⟩) (svs.length + 1) cap).ownBlock ≠ some j := fun j hj hne e => by
    have : g = j := by simpa [Value.ownBlock] using e
    subst this
    rcases hat with h | h
    · exact hne h
    · simp at h; omega
  refine ⟨_, w', hr, ⟨svs ++ [u], ho, by simp [h2], fun i q hq => ?_⟩, ⟨hg.os, hg.tape, hg.output, hsz, fun k hk => ?_⟩⟩
  · by_cases hi : i < L.length
    · rw [List.getElem?_append_left hi] at hq
      obtain ⟨x, a1, a2, a3⟩ := h3 i q hq
      refine ⟨x, by rw [List.getElem?_append_left (by omega)]; exact a1, a2.far (fun j hj => hkeep j (a2.block j hj) (a3 j hj).2) hsz, fun j hj => ⟨(a3 j hj).1, hown j (a2.block j hj) (a3 j hj).2⟩⟩
    · have hi2 : i = L.length := by
        have := (List.getElem?_eq_some_iff.1 hq).1
        simp at this; omega
      subst hi2
      have : l = q := by simpa using hq
      subst this
      refine ⟨u, by rw [List.getElem?_append_right (by omega), h2]; simp, hu.far (fun j hj => hkeep j (hu.block j hj) (hub j hj).2) hsz, fun j hj => ⟨(hub j hj).1, hown j (hu.block j hj) (hub j hj).2⟩⟩
  · exact hkeep k (by omega) (fun e => by have := (hbl k e).1; omega)
/-- what is of the call's own may be written over. -/
theorem mineParts.softP {w : World} {B : Nat} {v : Value} {L : List (List Int)} (h : mineParts w B v L) : softParts w B w.heap.size v L.length := by
  have hp := h.parts
  obtain ⟨svs, h1, h2, h3⟩ := h
  by_cases h0 : L.length = 0
  · obtain ⟨_, h | ⟨g, cap, cur, rfl, hB, hb, hc, hm, hs, ht⟩⟩ := h1
    · exact ⟨none, 0, by rw [h.1, h0], by rw [h0]; exact Nat.zero_le _, fun i hi => by omega⟩
    · exact ⟨_, _, by rw [h2], by rw [h0]; exact Nat.zero_le _, fun i hi => by omega⟩
  · obtain ⟨g, cap, rfl, hB, hg, hcap, hmx, hcell, _⟩ := h1.shape (by omega)
    refine ⟨_, _, by rw [h2], by omega, fun i hi => ?_⟩
    obtain ⟨u, a1, a2, a3⟩ := h3 i _ (List.getElem?_eq_getElem hi)
    have hsh : ∃ x k y, u = .slice x k y ∧ (0 < k → ∃ pb po, x = some ⟨pb, po, none⟩) := by
      rcases a2.1 with ⟨e, _⟩ | ⟨pb, po, cap, e, _⟩
      · exact ⟨_, _, _, e, fun h => by omega⟩
      · exact ⟨_, _, _, e, fun _ => ⟨_, _, rfl⟩⟩
    obtain ⟨x, k, y, rfl, hx⟩ := hsh
    exact ⟨g, 0, x, k, y, rfl, ⟨hB, hg⟩, by rw [Nat.zero_add]; exact hcell i _ a1, hx, a2.2, fun j hj => ⟨(a3 j hj).1, a2.block j hj, fun e => (a3 j hj).2 (by rw [e]; rfl)⟩⟩
theorem mineParts.far {w w' : World} {B : Nat} {v : Value} {L : List (List Int)} (h : mineParts w B v L) (hb : ∀ k, B ≤ k → k < w.heap.size → w'.heap[k]? = w.heap[k]?) (hs : w.heap.size ≤ w'.heap.size) : mineParts w' B v L := by
  obtain ⟨svs, h1, h2, h3⟩ := h
  refine ⟨svs, h1.far (fun k hk => hb k (h1.block k hk).1 (h1.block k hk).2), h2, fun i l hl => ?_⟩
  obtain ⟨u, a1, a2, a3⟩ := h3 i l hl
  exact ⟨u, a1, a2.far (fun k hk => hb k (a3 k hk).1 (a2.block k hk)) hs, a3⟩
def textL (N : List Nt) : List (List Int) := N.map fun x => sBytes x.2
set_option maxHeartbeats 1000000 in
theorem all_nil (w : World) : Calls Tryd.prog 29 #[.pointer none] w fun e w' => e = .returned (.slice none 0 0) ∧ w' = w := by
  go_enter Tryd.func29, Tryd.ntmps29
  go_wp2_with fail
  refine (empty_none w).mono ?_
  rintro e w' ⟨rfl, rfl⟩
  go_wp2
  go_ret
  exact ⟨rfl, rfl⟩
set_option maxHeartbeats 1000000 in
set_option maxRecDepth 100000 in
theorem all_any (F : Nat → Prop) (k : Nat) (N : List Nt) (c : Int) (w : World) (h : bookAt w F k N c) (hN : N.length < 1000000) (hts : ∀ x ∈ N, x.2.size ≤ 1000000000) :
    Calls Tryd.prog 29 #[.pointer (some ⟨k, 0, none⟩)] w fun e w' => ∃ v', e = .returned v' ∧ mineParts w' w.heap.size v' (textL N) ∧ Below w.heap.size w w' := by
  obtain ⟨hF, hlt, pv, hpv, hcase⟩ := h
  have hk := hlt k hF
  rcases hcase with ⟨rfl, rfl, rfl⟩ | ⟨nb, rfl, hnk, hnn⟩
  · go_enter Tryd.func29, Tryd.ntmps29
    go_wp2_with fail
    refine (empty_zero k _ hpv).mono ?_
    rintro e w' ⟨rfl, rfl⟩
    go_wp2
    go_ret
    exact ⟨_, rfl, mineParts.nil _ _, Below.refl _ _⟩
  · obtain ⟨lv, mv, h1, h2, h3, h4, h5, h6⟩ := hnn
    have hnb := h6 nb h2
    obtain ⟨la, lc, rfl, hlc, hlm, hcell⟩ := h3.shape
    have c0 : w.cell? ⟨k, 0, none⟩ = some (.pointer (some ⟨nb, 0, none⟩)) := hpv.cell (i := 0) (by omega)
    have c1 : w.cell? ⟨nb, 0, none⟩ = some (.slice la N.length lc) := h1.cell (i := 0) (by omega)
    have hmk := run_make_room (P := Tryd.prog) 22 34 (.slice none 0 0) 24 Tryd.underlying22 hiB rfl .i64 .i64 N.length (by omega) (by omega) w
    obtain ⟨w1, hw1⟩ : ∃ w1, w1 = w.alloc (.cells (madeCells #[Value.slice none 0 0] N.length) 34) := ⟨_, rfl⟩
    rw [← hw1] at hmk
    have b1 : Below w.heap.size w w1 := by rw [hw1]; exact (Below.refl _ _).alloc (Nat.le_refl _) _
    have d0 : w1.cell? ⟨k, 0, none⟩ = some (.pointer (some ⟨nb, 0, none⟩)) := (b1.cell (p := ⟨k, 0, none⟩) hk).trans c0
    have d1 : w1.cell? ⟨nb, 0, none⟩ = some (.slice la N.length lc) := (b1.cell (p := ⟨nb, 0, none⟩) hnb).trans c1
    have hO : mineParts w1 w.heap.size (.slice (some ⟨w.heap.size, 0, none⟩) 0 N.length) [] := by
      rw [hw1]
      exact ⟨[], ⟨rfl, Or.inr ⟨w.heap.size, N.length, _, rfl, Nat.le_refl _, blk_alloc_new _ _, Nat.zero_le _, by unfold maxLen; omega, by rw [size_madeCells]; simp, by simp⟩⟩, rfl, fun i l h => by simp at h⟩
    have HO : Hid _ := hO
    have B1 : Hid _ := b1
    have q0 : (N.length : Int) ≤ 1000000 := by omega
    have hz := zero_note
    clear hw1 hO b1 h1 h3 h4
    go_enter Tryd.func29, Tryd.ntmps29
    go_wp2_with fail
    refine (empty_some k nb w hpv).mono ?_
    rintro e w' ⟨rfl, hw⟩
    obtain rfl := hw.symm
    clear hw
    go_wp2_with (first | (refine wpList_make_run rfl _ _ _ rfl rfl rfl hmk ?_))
    go_loopw [3, 25] (fun v i wr => ∃ j : Nat, j ≤ N.length ∧ i = .int .i64 j ∧ mineParts wr w.heap.size v (textL (N.take j)) ∧ Below w.heap.size w wr) (fun _ i _ => N.length - (intOf i).toNat)
    case atStart => exact ⟨0, by omega, rfl, by rw [List.take_zero]; exact HO.out, B1.out⟩
    case round =>
      obtain ⟨j, hj, rfl, hm, hb⟩ := hrel
      clear hmk HO B1 c0 c1 d0 d1
      by_cases hlt2 : j < N.length
      · obtain ⟨g, rfl, hFg, hgw, hcl⟩ := hcell j _ (List.getElem?_eq_getElem hlt2)
        have p0 : (0 : Int) ≤ (j : Int) := by omega
        have p1 : (j : Int) < (N.length : Int) := by omega
        have ldc : ∀ i, i < 33 → wr.cell? ⟨g, j * 33 + i, none⟩ = some (noteV N[j] i) := fun i hi => by
          rw [hb.cell (p := ⟨g, j * 33 + i, none⟩) hgw]; exact hcl i hi
        have ra := rowIs_box wr 92 33 (noteV zeroN)
        have hbs := hb.size
        have HM : Hid _ := hm
        have HB : Hid _ := hb
        clear hm hb hcl
        go_upto_region 7 with (first | (refine wpList_load_seg rfl 92 _ rfl g (j * 33) 33 (noteV N[j]) rfl _ Tryd.underlying92 rfl note33 ldc ?_) | (refine wpList_store_row rfl 92 (.tmp 5) (.tmp 28) rfl rfl wr.heap.size 0 33 (noteV N[j]) rfl rfl note33 (fun i _ => noteV_one _ i) _ _ _ ra (by omega) ?_; intro w5 r5 hz5 hb5))
        have hs5 : w5.heap.size = wr.heap.size + 1 := by rw [hz5]; simp
        have hb5' : Below wr.heap.size wr w5 := ((Below.refl wr.heap.size wr).alloc (Nat.le_refl _) _).trans ((hb5.mono (by simp)).below (Nat.le_refl _))
        have c32 : w5.cell? ⟨wr.heap.size, 32, none⟩ = some (.string N[j].2) := by
          have := r5.cell (i := 32) (by omega)
          rw [if_pos (by omega), Nat.sub_zero, noteV, if_neg (by omega)] at this; exact this
        have hsz : N[j].2.size ≤ 1000000000 := hts _ (List.getElem_mem _)
        obtain ⟨v9, w9, hr9, hi9, ho9, hb9, hs9, hf9⟩ := str_bytes w5 N[j].2 (by omega)
        have hb39 : Below wr.heap.size wr w9 := hb5'.trans (hb9.mono (by omega))
        have hm9 : mineParts w9 w.heap.size u3 (textL (N.take j)) := mineParts.below HM.out hb39 (Nat.le_refl _)
        have hu3 : ∀ q, u3.ownBlock = some q → q < wr.heap.size := fun q hq => by
          obtain ⟨svs, h1, _⟩ := HM.out
          exact (h1.block q hq).2
        obtain ⟨v8, w8, hr8, hm8, hb8⟩ := part_append_run w9 w.heap.size u3 v9 (textL (N.take j)) (sBytes N[j].2) hm9 ⟨hi9, hf9⟩ (fun q hq => by
          have := ho9 q hq
          exact ⟨by omega, fun e => by have := hu3 q e; omega⟩) (by simp [textL]; omega) (by omega)
        have HM8 : Hid _ := hm8
        have HB8 : Hid _ := HB.out.trans ((hb39.mono (by omega)).trans hb8)
        have htk : textL (N.take (j + 1)) = textL (N.take j) ++ [sBytes N[j].2] := by
          unfold textL
          rw [List.take_succ_eq_append_getElem hlt2, List.map_append]; rfl
        have HT : Hid _ := htk
        obtain ⟨va, vc, rfl, _⟩ := hi9.slice
        clear r5 hz5 hb5 hb5' hb39 hm9 hm8 hb8 htk hi9 ho9 hb9 HM HB ra ldc hu3 hs5 hs9 hf9
        go_wp2_with (first | (refine wpList_convert_run rfl _ _ _ rfl rfl hr9 ?_) | (at_builtin; refine wpList_append_run rfl (.tmp 29) (.tmp 33) _ rfl rfl rfl hr8 ?_))
        go_light
        exact ⟨⟨j + 1, by omega, by go_num, by rw [HT.out]; exact HM8.out, HB8.out⟩, by simp [intOf]; omega⟩
      · obtain rfl : j = N.length := by omega
        have HM : Hid _ := hm
        go_wp2
        go_ret
        exact ⟨_, rfl, by rw [List.take_length] at HM; exact HM.out, hb⟩
end Go.Proofs.YtmfgfcknhjblgaaDoor

/- The laws' own helper: parts in memory of their own. -/
namespace Go.Proofs.YtmfgfcknhjblgaaDoor
set_option linter.unusedSimpArgs false
set_option linter.unusedVariables false
open Go.RowKit Go.Deep

/-- append([]byte{}, u...), u any bytes, or none: new bytes, the same. -/
theorem any_copy_run (w : World) (u : Value) (l : List Int) (hu : anyBytes w u l) (hl : l.length ≤ 1099511627776) :
    ∃ v' w', (Builtin.append_ #[34, 34] 34 #[.slice (some ⟨w.heap.size, 0, none⟩) 0 0, u]).run Tryd.prog (w.alloc (.cells #[] 5)) = .ok v' w' ∧ newBytes w' w.heap.size v' l ∧ Below w.heap.size w w' := by
  have hb1 : Below w.heap.size w (w.alloc (.cells #[] 5)) := (Below.refl _ _).alloc (Nat.le_refl _) _
  have hO : newBytes (w.alloc (.cells #[] 5)) w.heap.size (.slice (some ⟨w.heap.size, 0, none⟩) 0 0) [] :=
    ⟨⟨rfl, Or.inr ⟨w.heap.size, 0, #[], rfl, Nat.le_refl _, blk_alloc_new _ _, Nat.le_refl _, by unfold maxLen; omega, rfl, rfl⟩⟩, fun i => by simp⟩
  obtain ⟨v', w', hr, hn, hg, _⟩ := any_append_run _ w.heap.size _ u [] l hO (hu.below hb1 (Nat.le_refl _)) (by simp; omega) (by simp)
  exact ⟨v', w', hr, hn, hb1.trans (below_grown hg (fun k hk => (hO.block k hk).1) (by simp))⟩
def partL (ps : Nat → List Int) (n : Nat) : List (List Int) := (List.range n).map ps
theorem partL_succ (ps : Nat → List Int) (n : Nat) : partL ps (n + 1) = partL ps n ++ [ps n] := by simp [partL, List.range_succ]
theorem partL_length (ps : Nat → List Int) (n : Nat) : (partL ps n).length = n := by simp [partL]
theorem partL_getD (ps : Nat → List Int) (n i : Nat) (h : i < n) : (partL ps n).getD i [] = ps i := by
  rw [List.getD_eq_getElem?_getD, partL, List.getElem?_map, List.getElem?_range h]; rfl
theorem mineParts.slice {w : World} {B : Nat} {v : Value} {L : List (List Int)} (h : mineParts w B v L) : ∃ a c, v = .slice a L.length c := by
  obtain ⟨a, c, h, _⟩ := h.parts.open; exact ⟨a, c, h⟩
theorem mineParts.owned {w : World} {B : Nat} {v : Value} {L : List (List Int)} (h : mineParts w B v L) (k : Nat) (hk : v.ownBlock = some k) : B ≤ k ∧ k < w.heap.size := by
  obtain ⟨sv, h1, _⟩ := h; exact h1.block k hk
theorem isParts.ext {w : World} {v : Value} {n : Nat} {ps qs : Nat → List Int} (h : isParts w v n ps) (he : ∀ i, i < n → ps i = qs i) : isParts w v n qs := by
  rcases h with h | ⟨qb, qo, cap, sv, h1, h2, h3, h4⟩
  · exact Or.inl h
  · exact Or.inr ⟨qb, qo, cap, sv, h1, h2, h3, fun i hi => ⟨(h4 i hi).1, by rw [← he i hi]; exact (h4 i hi).2⟩⟩
theorem mineParts.isP {w : World} {B : Nat} {v : Value} {ps : Nat → List Int} {n : Nat} (h : mineParts w B v (partL ps n)) : isParts w v n ps := by
  have := h.parts
  rw [partL_length] at this
  exact this.ext (fun i hi => partL_getD ps n i hi)
set_option maxHeartbeats 1000000 in
set_option maxRecDepth 100000 in
theorem copied_any (n : Nat) (v : Value) (ps : Nat → List Int) (w : World) (hp : anyParts w v n ps) (hn : n ≤ 300) (hl : ∀ i, i ≤ n → (flatTo ps i).length ≤ 20000) :
    Calls Tryd.prog 12 #[v] w fun e w' => ∃ v', e = .returned v' ∧ mineParts w' w.heap.size v' (partL ps n) ∧ Below w.heap.size w w' := by
  obtain ⟨a, cap, rfl, hnm, hcell⟩ := hp.open
  clear hp
  go_enter Tryd.func12, Tryd.ntmps12
  go_wp2
  go_loopw [3, 4] (fun v i wr => ∃ k : Nat, k ≤ n ∧ i = .int .i64 k ∧ mineParts wr w.heap.size v (partL ps k) ∧ Below w.heap.size w wr) (fun _ i _ => n - (intOf i).toNat)
  case atStart => exact ⟨0, by omega, rfl, mineParts.nil _ _, Below.refl _ _⟩
  case round =>
    obtain ⟨k, hk, rfl, hm, hb⟩ := hrel
    by_cases hlt : k < n
    · obtain ⟨qb, qo, u, rfl, hq, hc, hu⟩ := hcell k hlt
      have b0 : (0 : Int) ≤ (k : Int) := by omega
      have b1 : (k : Int) < (n : Int) := by omega
      have hlk : (ps k).length ≤ 20000 := by
        have := hl (k + 1) (by omega)
        rw [flatTo, List.length_append] at this; omega
      rw [← hb.cell (p := ⟨qb, qo + k, none⟩) hq] at hc
      have hsz := hb.size
      obtain ⟨v2, w2, hr, n2, b2⟩ := any_copy_run wr u (ps k) (hu.below hb (Nat.le_refl _)) (by omega)
      have s2 := b2.size
      obtain ⟨v3, w3, hr3, m3, b3⟩ := part_append_run w2 w.heap.size _ v2 _ (ps k) (hm.below b2 (Nat.le_refl _)) n2.soft (fun j hj => by
        have h1 := n2.block j hj
        exact ⟨by omega, fun e => by have := hm.owned j e; omega⟩) (by rw [partL_length]; omega) (by omega)
      obtain ⟨ua, uc, rfl, hum⟩ := hu.slice
      obtain ⟨a2, c2, rfl, _⟩ := n2.is.slice
      obtain ⟨a3, c3, rfl⟩ := hm.slice
      have hcA := hc
      rw [← World.cell?_of_block (w' := wr.alloc (.cells #[] 5)) (w := wr) (blk_alloc_lt _ _ _ (World.block_lt_of_cell? _ _ hc))] at hcA
      have M3 : Hid (mineParts w3 w.heap.size v3 (partL ps (k + 1)) ∧ Below w.heap.size w w3) := (show mineParts w3 w.heap.size v3 (partL ps (k + 1)) ∧ Below w.heap.size w w3 from ⟨by rw [partL_succ]; exact m3, (hb.trans (b2.mono hsz)).trans b3⟩)
      clear hu hm n2 b2 m3 b3 hl hcell
      go_wp2_with (first | (at_builtin; refine wpList_append_run rfl _ _ _ rfl rfl rfl hr ?_) | (at_builtin; refine wpList_append_run rfl _ _ _ rfl rfl rfl hr3 ?_))
      go_light
      exact ⟨⟨k + 1, by omega, by go_num, M3.out.1, M3.out.2⟩, by simp [intOf]; omega⟩
    · obtain rfl : k = n := by omega
      have HR : Hid _ := hm
      clear hm hl hcell
      go_wp2
      go_ret
      exact ⟨_, rfl, HR.out, hb⟩
end Go.Proofs.YtmfgfcknhjblgaaDoor

/- The document's answer: the message of some bytes. -/
namespace Go.Proofs.YtmfgfcknhjblgaaDoor
set_option linter.unusedSimpArgs false
set_option linter.unusedVariables false
open Go.RowKit Go.Deep

/-- the bytes of a number, the lowest k of them, the highest first. -/
def lastI (N : Int) : Nat → List Int
  | 0 => []
  | k + 1 => (N / 256 ^ k % 256) :: lastI N k
theorem lastI_length (N : Int) : ∀ k, (lastI N k).length = k
  | 0 => rfl
  | k + 1 => by rw [lastI, List.length_cons, lastI_length N k]
theorem lastI_len (n : Nat) : lastI (8 * (n : Int)) 8 = lenBytes n := by
  simp [lastI, lenBytes, List.range, List.range.loop]
def slen : Value → Nat
  | .slice _ n _ => n
  | _ => 0
theorem newBytes.slen {w : World} {B : Nat} {v : Value} {l : List Int} (h : newBytes w B v l) : ∃ a c, v = .slice a l.length c := by
  obtain ⟨a, c, h, _⟩ := h.is.slice; exact ⟨a, c, h⟩
theorem newBytes.fresh1 (w : World) (B : Nat) (x : Int) (h0 : 0 ≤ x) (h1 : x ≤ 255) (hB : B ≤ w.heap.size) : newBytes (w.alloc (.cells #[.int .u8 x] 5)) B (.slice (some ⟨w.heap.size, 0, none⟩) 1 1) [x] :=
  ⟨⟨rfl, Or.inr ⟨w.heap.size, 1, #[.int .u8 x], rfl, hB, blk_alloc_new _ _, Nat.le_refl _, by unfold maxLen; omega, rfl, rfl⟩⟩, fun i => by cases i <;> simp <;> omega⟩
theorem pad_rem (L j : Nat) (h : j < (119 - L % 64) % 64) : (L + 1 + j) % 64 ≠ 56 := by omega
theorem pad_end (L : Nat) : (L + 1 + (119 - L % 64) % 64) % 64 = 56 := by omega
def padTo (l : List Int) (j : Nat) : List Int := l ++ [128] ++ List.replicate j 0
theorem padTo_length (l : List Int) (j : Nat) : (padTo l j).length = l.length + 1 + j := by simp [padTo]; omega
theorem padTo_succ (l : List Int) (j : Nat) : padTo l (j + 1) = padTo l j ++ [0] := by rw [padTo, padTo, List.replicate_succ', ← List.append_assoc]
set_option maxHeartbeats 1000000 in
set_option maxRecDepth 100000 in
theorem rmsg_any (u : Value) (l : List Int) (w : World) (hu : isBytes w u l) (hl : l.length ≤ 1000000000) :
    Calls Tryd.prog 40 #[u] w fun e w' => ∃ v', e = .returned v' ∧ newBytes w' w.heap.size v' (msg l) ∧ Below w.heap.size w w' := by
  obtain ⟨r, w2, hr, ho2, hb2⟩ := bytes_copy_run w u l hu (by omega)
  have hs2 := hb2.size
  obtain ⟨v3, w3, hr3, ho3, hb3⟩ := byte_append_run w2 w.heap.size r l 128 (by omega) (by omega) ho2 (by omega) hs2
  obtain ⟨ua, uc, rfl, hum⟩ := hu.slice
  have HO3 : Hid (newBytes w3 w.heap.size v3 (padTo l 0)) := (show newBytes w3 w.heap.size v3 (padTo l 0) from by rw [padTo, List.replicate_zero, List.append_nil]; exact ho3)
  have HB3 : Hid (Below w.heap.size w w3) := (show Below w.heap.size w w3 from hb2.trans hb3)
  clear ho3 hb3 hb2 ho2 hu hs2
  have hl' : (l.length : Int) ≤ 1000000000 := by omega
  go_enter Tryd.func40, Tryd.ntmps40
  go_wp2_with (first | (at_builtin; refine wpList_append_run rfl _ _ _ rfl rfl rfl hr ?_) | (at_builtin; refine wpList_append_run rfl _ _ _ rfl rfl rfl hr3 ?_))
  clear hr hr3
  go_loopw [3] (fun v wr => ∃ j : Nat, j ≤ (119 - l.length % 64) % 64 ∧ newBytes wr w.heap.size v (padTo l j) ∧ Below w.heap.size w wr) (fun v _ => l.length + 1 + (119 - l.length % 64) % 64 - slen v)
  case atStart => exact ⟨0, by omega, HO3.out, HB3.out⟩
  case round =>
    obtain ⟨j, hj, hown, hb⟩ := hrel
    have hs := hb.size
    have hj2 : (j : Int) ≤ 64 := by omega
    by_cases hlt : j < (119 - l.length % 64) % 64
    · have hne := pad_rem l.length j hlt
      have hne' : ((l.length : Int) + 1 + (j : Int)) % 64 ≠ 56 := by omega
      obtain ⟨v4, w4, hr4, ho4, hb4⟩ := byte_append_run wr w.heap.size _ _ 0 (by omega) (by omega) hown (by rw [padTo_length]; omega) hs
      rw [← padTo_succ] at ho4
      obtain ⟨a3, c3, rfl⟩ := hown.slen
      obtain ⟨a4, c4, rfl⟩ := ho4.slen
      have HO4 : Hid _ := ho4
      clear ho4 hown hne
      rw [padTo_length] at hr4 ⊢
      go_wp2_with (first | (at_builtin; refine wpList_append_run rfl _ _ _ rfl rfl rfl hr4 ?_))
      exact ⟨⟨j + 1, by omega, HO4.out, hb.trans hb4⟩, by simp only [slen, padTo_length]; omega⟩
    · have hje : j = (119 - l.length % 64) % 64 := by omega
      have hne : ((l.length : Int) + 1 + (j : Int)) % 64 = 56 := by omega
      have HJ : Hid (j = (119 - l.length % 64) % 64) := hje
      clear hje hlt hj
      obtain ⟨a3, c3, rfl⟩ := hown.slen
      have HM : Hid _ := hown
      clear hown HO3 HB3
      rw [padTo_length] at HM ⊢
      go_wp2
      clear hne
      go_loopw [4, 5, 6] (fun nv lv i wq => ∃ k : Nat, k ≤ 8 ∧ i = .int .i64 k ∧ nv = .int .u64 (8 * (l.length : Int) / 256 ^ k) ∧ isBytes wq lv (lastI (8 * (l.length : Int)) k) ∧ newBytes wq w.heap.size (.slice a3 (l.length + 1 + j) c3) (padTo l j) ∧ Below w.heap.size w wq) (fun _ _ i _ => 8 - (intOf i).toNat)
      case atStart => exact ⟨0, by omega, rfl, by simp, Or.inl ⟨rfl, rfl⟩, HM.out, hb⟩
      case round =>
        clear hb hs HM
        obtain ⟨k, hk, rfl, rfl, hlast, hown, hb⟩ := hrel
        have hs := hb.size
        by_cases hltk : k < 8
        · have hL1 : lastI (8 * (l.length : Int)) (k + 1) = [8 * (l.length : Int) / 256 ^ k % 256] ++ lastI (8 * (l.length : Int)) k := rfl
          have hN1 : 8 * (l.length : Int) / 256 ^ (k + 1) = 8 * (l.length : Int) / 256 ^ k / 256 := by
            rw [Int.pow_succ, Int.ediv_ediv_of_nonneg (Int.pow_nonneg (by omega))]
          have hN0 : 0 ≤ 8 * (l.length : Int) / 256 ^ k := Int.ediv_nonneg (by omega) (Int.pow_nonneg (by omega))
          have hN2 : 8 * (l.length : Int) / 256 ^ k ≤ 8000000000 := Int.le_trans (Int.ediv_le_self _ (by omega)) (by omega)
          have HL1 : Hid _ := hL1
          have HN1 : Hid _ := hN1
          clear hL1 hN1
          generalize 8 * (l.length : Int) / 256 ^ k = N at *
          have hba : Below wr.heap.size wr (wr.alloc (.cells #[.int .u8 (N % 256)] 5)) := (Below.refl _ _).alloc (Nat.le_refl _) _
          obtain ⟨q, w5, hr5, ho5, hg5, _⟩ := bytes_append_run (wr.alloc (.cells #[.int .u8 (N % 256)] 5)) wr.heap.size _ u5 [N % 256] _ (newBytes.fresh1 wr wr.heap.size (N % 256) (by omega) (by omega) (Nat.le_refl _)) (hlast.below hba (Nat.le_refl _)) (by rw [lastI_length]; simp; omega) (by simp)
          have hb5 : Below wr.heap.size wr w5 := hba.trans (below_grown hg5 (fun j hj => by have : wr.heap.size = j := by simpa [Value.ownBlock] using hj
                                                                                            omega) (by simp))
          have HO5 : Hid (isBytes w5 q (lastI (8 * (l.length : Int)) (k + 1))) := by
            rw [HL1.out]
            exact ho5.is
          have HM5 : Hid (newBytes w5 w.heap.size (.slice a3 (l.length + 1 + j) c3) (padTo l j)) := hown.below hb5 (Nat.le_refl _)
          have HB5 : Hid (Below w.heap.size w w5) := hb.trans (hb5.mono hs)
          obtain ⟨la, lc, rfl, _⟩ := hlast.slice
          clear ho5 hg5 hlast hown hb hba hb5
          go_wp2_with (first | (at_builtin; refine wpList_append_run rfl _ _ _ rfl rfl rfl hr5 ?_))
          exact ⟨⟨k + 1, by omega, by simp, by rw [HN1.out], HO5.out, HM5.out, HB5.out⟩, by simp only [intOf]; omega⟩
        · obtain rfl : k = 8 := by omega
          obtain ⟨q, w5, hr5, ho5, hg5, _⟩ := bytes_append_run wr w.heap.size _ u5 _ _ hown hlast (by rw [lastI_length, padTo_length]; have := HJ.out; omega) hs
          have HB5 : Hid (Below w.heap.size w w5) := hb.trans (below_grown hg5 (fun j hj => (hown.block j hj).1) hs)
          have HO5 : Hid (newBytes w5 w.heap.size q (msg l)) := by
            rw [lastI_len] at ho5
            have e : msg l = padTo l j ++ lenBytes l.length := by
              rw [msg, ← HJ.out, padTo]; simp
            rw [e]; exact ho5
          obtain ⟨la, lc, rfl, _⟩ := hlast.slice
          clear ho5 hg5 hlast hown hb
          go_wp2_with (first | (at_builtin; refine wpList_append_run rfl _ _ _ rfl rfl rfl hr5 ?_))
          go_ret
          exact ⟨_, rfl, HO5.out, HB5.out⟩
end Go.Proofs.YtmfgfcknhjblgaaDoor

/- The document's answer: All parts, one behind the other. -/
namespace Go.Proofs.YtmfgfcknhjblgaaDoor
set_option linter.unusedSimpArgs false
set_option linter.unusedVariables false
open Go.RowKit Go.Deep

set_option maxHeartbeats 1000000 in
theorem rall_any (n : Nat) (v : Value) (ps : Nat → List Int) (w : World) (hp : anyParts w v n ps) (hl : ∀ i, i ≤ n → (flatTo ps i).length ≤ 1000000000) :
    Calls Tryd.prog 18 #[v] w fun e w' => ∃ v', e = .returned v' ∧ newBytes w' w.heap.size v' (flatTo ps n) ∧ Below w.heap.size w w' := by
  obtain ⟨a, cap, rfl, hnm, hcell⟩ := hp.open
  clear hp
  have hn' : (n : Int) ≤ 9223372036854775807 := by unfold maxLen at hnm; omega
  go_enter Tryd.func18, Tryd.ntmps18
  go_wp2
  go_loopw [3, 4] (fun v i wr => ∃ k : Nat, k ≤ n ∧ i = .int .i64 k ∧ newBytes wr w.heap.size v (flatTo ps k) ∧ Below w.heap.size w wr) (fun _ i _ => n - (intOf i).toNat)
  case atStart => exact ⟨0, by omega, rfl, newBytes.nil _ _, Below.refl _ _⟩
  case round =>
    obtain ⟨k, hk, rfl, hown, hb⟩ := hrel
    have hsz := hb.size
    by_cases hlt : k < n
    · obtain ⟨qb, qo, u, rfl, hq, hc, hu⟩ := hcell k hlt
      have b0 : (0 : Int) ≤ (k : Int) := by omega
      have b1 : (k : Int) < (n : Int) := by omega
      have hlk := hl (k + 1) (by omega)
      rw [flatTo, List.length_append] at hlk
      rw [← hb.cell (p := ⟨qb, qo + k, none⟩) hq] at hc
      obtain ⟨r, w2, hr, ho2, hg2, _⟩ := any_append_run wr w.heap.size u3 u _ (ps k) hown (hu.below hb (Nat.le_refl _)) (by omega) hsz
      have hB2 : Below w.heap.size w w2 := hb.trans (below_grown hg2 (fun j hj => (hown.block j hj).1) hsz)
      obtain ⟨ua, uc, rfl, hum⟩ := hu.slice
      have HO : Hid _ := ho2
      clear hu hown ho2 hl hg2 hcell
      go_wp2_with (first | (at_builtin; refine wpList_append_run rfl _ _ _ rfl rfl rfl hr ?_))
      exact ⟨⟨k + 1, by omega, by simp, by rw [flatTo]; exact HO.out, hB2⟩, by simp only [intOf]; omega⟩
    · obtain rfl : k = n := by omega
      clear hl hcell
      have HO : Hid _ := hown
      clear hown
      go_wp2
      go_ret
      exact ⟨_, rfl, HO.out, hb⟩
end Go.Proofs.YtmfgfcknhjblgaaDoor

/- What comes to a hash, call by call; is it more than is summed? -/
namespace Go.Proofs.YtmfgfcknhjblgaaDoor
set_option linter.unusedSimpArgs false
set_option linter.unusedVariables false
open Go.RowKit Go.Deep

/-- a call: its parts, and what is asked behind it. -/
structure WR where
  what : Int
  n : Nat
  ps : Nat → List Int
def writeAt (w : World) (b o : Nat) (x : WR) : Prop :=
  ∃ pv, w.cell? ⟨b, o, none⟩ = some pv ∧ w.cell? ⟨b, o + 1, none⟩ = some (.int .i64 x.what) ∧ anyParts w pv x.n x.ps
/-- v is a slice of calls. -/
def isWrites (w : World) (v : Value) (n : Nat) (ws : Nat → WR) : Prop :=
  (v = .slice none 0 0 ∧ n = 0) ∨ ∃ qb qo cap : Nat, v = .slice (some ⟨qb, qo, none⟩) n cap ∧ qb < w.heap.size ∧ n ≤ maxLen ∧ ∀ i, i < n → writeAt w qb (qo + i * 2) (ws i)
theorem isWrites.open {w : World} {v : Value} {n : Nat} {ws : Nat → WR} (h : isWrites w v n ws) :
    ∃ a cap, v = .slice a n cap ∧ n ≤ maxLen ∧ ∀ i, i < n → ∃ qb qo pv, a = some ⟨qb, qo, none⟩ ∧ qb < w.heap.size ∧ w.cell? ⟨qb, qo + i * 2, none⟩ = some pv ∧ w.cell? ⟨qb, qo + i * 2 + 1, none⟩ = some (.int .i64 (ws i).what) ∧ anyParts w pv (ws i).n (ws i).ps := by
  rcases h with ⟨rfl, rfl⟩ | ⟨qb, qo, cap, rfl, h2, h3, h4⟩
  · exact ⟨_, _, rfl, Nat.zero_le _, fun k hk => by omega⟩
  · refine ⟨_, _, rfl, h3, fun k hk => ?_⟩
    obtain ⟨pv, a1, a2, a3⟩ := h4 k hk
    exact ⟨qb, qo, pv, rfl, h2, a1, a2, a3⟩
/-- all that came by k calls. -/
def wAll (ws : Nat → WR) (k : Nat) : List Int := flatTo (fun i => flatTo (ws i).ps (ws i).n) k
theorem wAll_succ (ws : Nat → WR) (k : Nat) : wAll ws (k + 1) = wAll ws k ++ flatTo (ws k).ps (ws k).n := rfl
def lightOne (x : WR) : Prop := x.n ≤ 300 ∧ ∀ i, i ≤ x.n → (flatTo x.ps i).length ≤ 20000
def lightW (n : Nat) (ws : Nat → WR) : Prop := n ≤ 100 ∧ (∀ i, i < n → lightOne (ws i)) ∧ (wAll ws n).length ≤ 20000
def lheavyIs (w : World) (n : Nat) (ws : Nat → WR) (e : Ending) (w' : World) : Prop := ∃ r : Bool, e = .returned (.bool r) ∧ Below w.heap.size w w' ∧ (r = false → lightW n ws)
theorem lheavyIs_true {w w' : World} {n : Nat} {ws : Nat → WR} (h : Below w.heap.size w w') : lheavyIs w n ws (.returned (.bool true)) w' := ⟨true, rfl, h, fun h => by cases h⟩
set_option maxHeartbeats 1000000 in
set_option maxRecDepth 100000 in
theorem lheavy_any (n : Nat) (v : Value) (ws : Nat → WR) (w : World) (h : isWrites w v n ws) :
    Calls Tryd.prog 19 #[v] w fun e w' => lheavyIs w n ws e w' := by
  obtain ⟨a, cap, rfl, hnm, hop⟩ := h.open
  clear h
  have hn' : (n : Int) ≤ 9223372036854775807 := by unfold maxLen at hnm; omega
  have HOP : Hid _ := hop
  clear hop
  go_enter Tryd.func19, Tryd.ntmps19
  go_wp2
  go_loopw [3, 4] (fun z i wr => ∃ k : Nat, k ≤ n ∧ i = .int .i64 k ∧ z = .int .i64 (20000 - ((wAll ws k).length : Int)) ∧ (∀ j, j < k → lightOne (ws j)) ∧ Below w.heap.size w wr) (fun _ i _ => n - (intOf i).toNat)
  case atStart => exact ⟨0, by omega, rfl, rfl, fun j hj => by omega, Below.refl _ _⟩
  case round =>
    obtain ⟨k, hk, rfl, rfl, hlk, hb⟩ := hrel
    have HLK : Hid _ := hlk
    have HB : Hid _ := hb
    clear hlk hb
    by_cases hlt : k < n
    · obtain ⟨qb, qo, pv, rfl, hqb, hc, _, hpv⟩ := HOP.out k hlt
      have hlen : (wAll ws (k + 1)).length = (wAll ws k).length + (flatTo (ws k).ps (ws k).n).length := by rw [wAll_succ, List.length_append]
      have b0 : (0 : Int) ≤ (k : Int) := by omega
      have b1 : (k : Int) < (n : Int) := by omega
      have HL : Hid _ := hlen
      clear hlen
      generalize hLL : (wAll ws k).length = L at *
      by_cases h2 : L ≤ 20000
      · have q0 : (0 : Int) ≤ 20000 - (L : Int) := by omega
        rw [← Below.cell HB.out (p := ⟨qb, qo + k * 2, none⟩) hqb] at hc
        have PV : Hid _ := hpv.below HB.out (Nat.le_refl _)
        obtain ⟨pa, pc, rfl, _, _⟩ := hpv.open
        have MU := much_any (ws k).n _ (ws k).ps wr PV.out
        clear hpv
        go_wp2_with fail
        refine MU.mono ?_
        rintro e w' ⟨⟨b, rfl, hm⟩, hw⟩
        obtain rfl := hw.symm
        clear MU hw
        cases b with
        | true =>
          go_wp2
          go_ret
          exact lheavyIs_true HB.out
        | false =>
          obtain ⟨m1, m2⟩ := hm rfl
          have AL := rall_any (ws k).n _ (ws k).ps wr PV.out (fun i hi => Nat.le_trans (m2 i hi) (by omega))
          have HM : Hid (lightOne (ws k)) := (show lightOne (ws k) from ⟨m1, m2⟩)
          have hM := m2 (ws k).n (Nat.le_refl _)
          clear hm m2
          go_wp2_with fail
          refine AL.mono ?_
          rintro e w2 ⟨v2, rfl, n2, b2⟩
          obtain ⟨a2, c2, rfl⟩ := n2.slen
          have B2 : Hid _ := HB.out.trans (b2.mono HB.out.size)
          clear AL n2 b2 HB PV
          generalize hMM : (flatTo (ws k).ps (ws k).n).length = M at *
          have hM2 : (M : Int) ≤ 20000 := by omega
          go_wp2
          go_light
          exact ⟨⟨k + 1, by omega, by go_num, by rw [HL.out]; congr 1; omega, fun j hj => by
            by_cases e : j < k
            · exact HLK.out j e
            · obtain rfl : j = k := by omega
              exact HM.out, B2.out⟩, by simp [intOf]; omega⟩
      · have q0 : 20000 - (L : Int) < 0 := by omega
        by_cases h3 : 100 < n
        · have q1 : (100 : Int) < (n : Int) := by omega
          go_wp2
          go_ret
          exact lheavyIs_true HB.out
        · have q1 : (n : Int) ≤ 100 := by omega
          go_wp2
          go_ret
          exact lheavyIs_true HB.out
    · obtain rfl : k = n := by omega
      have HM : Hid (k ≤ 100 → (wAll ws k).length ≤ 20000 → lightW k ws) := (show k ≤ 100 → (wAll ws k).length ≤ 20000 → lightW k ws from fun h1 h2 => ⟨h1, HLK.out, h2⟩)
      generalize hLL : (wAll ws k).length = L at *
      by_cases h3 : 100 < k
      · have q1 : (100 : Int) < (k : Int) := by omega
        go_wp2
        go_ret
        exact lheavyIs_true HB.out
      · have q1 : (k : Int) ≤ 100 := by omega
        by_cases h2 : L ≤ 20000
        · have q0 : (0 : Int) ≤ 20000 - (L : Int) := by omega
          go_wp2
          go_ret
          have e1 : (decide (100 < (k : Int)) || decide (20000 - (L : Int) < 0)) = false := by rw [decide_eq_false (by omega), decide_eq_false (by omega)]; rfl
          show lheavyIs w k ws (.returned (.bool (decide (100 < (k : Int)) || decide (20000 - (L : Int) < 0)))) wr
          rw [e1]; exact ⟨false, rfl, HB.out, fun _ => HM.out (by omega) h2⟩
        · have q0 : 20000 - (L : Int) < 0 := by omega
          go_wp2
          go_ret
          exact lheavyIs_true HB.out
/-- Write, of parts of the law's own, newer than the hash. -/
theorem write_mine (b : Nat) (l : List Int) (n : Nat) (v : Value) (ps : Nat → List Int) (w : World) (B : Nat) (h : hashAny w b l) (hm : mineParts w B v (partL ps n)) (hbB : b < B)
    (hbig : ∀ i, i ≤ n → l.length + (flatTo ps i).length < 1099511627776) (ht : tabIs w) (hb0 : b ≠ 0) :
    Calls Tryd.prog 11 #[.pointer (some ⟨b, 0, none⟩), v] w fun e w' => e = .returned (.tuple #[]) ∧ But w.heap.size b w w' ∧ hashOf w' b (l ++ flatTo ps n) := by
  obtain ⟨svs, h1, h2, h3⟩ := hm
  rw [partL_length] at h2
  by_cases h0 : n = 0
  · subst h0
    obtain ⟨_, h4 | ⟨g, cap, cur, rfl, hB, hb, hc, hmx, hs, hT⟩⟩ := h1
    · rw [h4.1]
      refine (write_none b l w h).mono ?_
      rintro e w' ⟨rfl, h1, h2⟩
      exact ⟨rfl, h1, by rw [flatTo, List.append_nil]; exact h2⟩
    · rw [h2]
      exact write_any b l 0 g 0 cap (fun _ => undef) ps w h (by omega) (Array.getElem?_eq_some_iff.1 hb).1 (fun i hi => by omega) (fun i hi => by omega) hbig (Nat.zero_le _) ht.2 hb0
  · obtain ⟨g, cap, rfl, hB, hg, hcap, hmx, hcell, _⟩ := h1.shape (by omega)
    rw [h2]
    have hu : ∀ i, i < n → ∃ u, svs[i]? = some u ∧ svs.getD i undef = u ∧ softB w u (ps i) ∧ ∀ j, u.ownBlock = some j → B ≤ j := fun i hi => by
      obtain ⟨u, a1, a2, a3⟩ := h3 i (ps i) (by rw [partL, List.getElem?_map, List.getElem?_range hi]; rfl)
      exact ⟨u, a1, by rw [List.getD_eq_getElem?_getD, a1]; rfl, a2, fun j hj => (a3 j hj).1⟩
    refine write_any b l n g 0 cap (fun i => svs.getD i undef) ps w h (by omega) hg (fun i hi => ?_) (fun i hi => ?_) hbig (by omega) ht.2 hb0
    · obtain ⟨u, a1, a2, _⟩ := hu i hi
      rw [Nat.zero_add, a2]; exact hcell i u a1
    · obtain ⟨u, a1, a2, a3, a4⟩ := hu i hi
      rw [a2]
      rcases a3.1 with h | ⟨pb, po, cap, h1, h2, h3, h4, h6, h7⟩
      · exact Or.inl h
      · exact Or.inr (Or.inl ⟨pb, po, cap, h1, h2, h3, h4, by have := a4 pb (by rw [h1]; rfl); omega, h6, h7⟩)
theorem i64_and3 (n : Int) : bits .and .i64 n 3 = n % 4 := by
  have h1 : (BitVec.ofInt 64 3).toNat = 2 ^ 2 - 1 := by decide
  have key : (BitVec.ofInt 64 n &&& BitVec.ofInt 64 3).toNat = (n % ((2 ^ 64 : Nat) : Int)).toNat % 2 ^ 2 := by
    rw [BitVec.toNat_and, BitVec.toNat_ofInt, h1, Nat.and_two_pow_sub_one_eq_mod]
  show IntKind.i64.wrap ((BitVec.ofInt 64 n &&& BitVec.ofInt 64 3).toNat : Nat) = n % 4
  rw [key, IntKind.wrap_i64]
  omega
end Go.Proofs.YtmfgfcknhjblgaaDoor

namespace Go.Proofs.YtmfgfcknhjblgaaDoor
open Go.RowKit Go.Deep

/-- a half byte's digit. -/
def hexI (x : Int) : Int := if x < 10 then 48 + x else 87 + x
/-- the digit j of 32 bytes. -/
def printI (f : Nat → Int) (j : Nat) : Int := if j % 2 = 0 then hexI (f (j / 2) / 16) else hexI (f (j / 2) % 16)
theorem digit_run (k : Int) (h0 : 0 ≤ k) (h1 : k < 16) (w : World) : (Instr.index 9 (.string { data := #[48, 49, 50, 51, 52, 53, 54, 55, 56, 57, 97, 98, 99, 100, 101, 102] }) (.int .u8 k)).run Tryd.prog w = .ok (.int .u8 (hexI k)) w := by
  obtain ⟨m, rfl⟩ := Int.eq_ofNat_of_zero_le h0
  have hm : m = 0 ∨ m = 1 ∨ m = 2 ∨ m = 3 ∨ m = 4 ∨ m = 5 ∨ m = 6 ∨ m = 7 ∨ m = 8 ∨ m = 9 ∨ m = 10 ∨ m = 11 ∨ m = 12 ∨ m = 13 ∨ m = 14 ∨ m = 15 := by omega
  rcases hm with rfl | rfl | rfl | rfl | rfl | rfl | rfl | rfl | rfl | rfl | rfl | rfl | rfl | rfl | rfl | rfl <;> (show (_ : Result Value) = _; kernel_rfl)

set_option maxHeartbeats 1000000 in
set_option maxRecDepth 100000 in
theorem print_any (f : Nat → Int) (hf : ∀ i, 0 ≤ f i ∧ f i ≤ 255) (w : World) :
    Calls Tryd.prog 35 #[.agg (rowV 32 fun i => .int .u8 (f i))] w fun e w' => e = .returned (.string (strOf ((List.range 64).map (printI f)))) ∧ Below w.heap.size w w' := by
  have hi32 : (Tryd.prog.info? 30).map (·.size) = some 32 := by kernel_rfl
  have hcv := fun (wx : World) (hc : ∀ i, i < 64 → wx.cell? ⟨w.heap.size + 1, 0 + i, none⟩ = some (.int .u8 (printI f i))) => run_convert_row_string (P := Tryd.prog) wx 34 9 5 (w.heap.size + 1) 0 64 64 (printI f) Tryd.underlying34 Tryd.underlying5 Tryd.underlying9 hc
  have HC : Hid _ := hcv
  clear hcv
  go_enter Tryd.func35, Tryd.ntmps35
  go_wp2_with (first | (refine wpList_load_seg rfl 30 _ rfl w.heap.size 0 32 _ rfl _ Tryd.underlying30 rfl hi32 (fun i hi => by rw [Nat.zero_add]; exact ((rowIs_box w 30 32 _).alloc _).cell hi) ?_))
  go_loopw [7] (fun i wr => ∃ k : Nat, k ≤ 32 ∧ i = .int .i64 k ∧ Below w.heap.size w wr ∧ wr.rowIs (w.heap.size + 1) 41 64 (fun j => .int .u8 (if j < 2 * k then printI f j else 0))) (fun i _ => 32 - (intOf i).toNat)
  case atStart =>
    refine ⟨0, by omega, rfl, ((Below.refl _ _).alloc (Nat.le_refl _) _).alloc (by simp) _, ?_⟩
    have := rowIs_zero (w.alloc (.cells (rowV 32 fun i => .int .u8 (f i)) 30)) (Array.replicate 64 (.int .u8 0)) 41 64 (.int .u8 0) rfl
    simp only [nblk_alloc] at this
    exact this
  case round =>
    obtain ⟨k, hk, rfl, hb, r⟩ := hrel
    by_cases hlt : k < 32
    · have b0 : (0 : Int) ≤ (k : Int) := by omega
      have b1 : (k : Int) < 32 := by omega
      have b2 : 2 * (k : Int) < 64 := by omega
      have b3 : 2 * (k : Int) + 1 < 64 := by omega
      have hix := fun wx => run_index_agg (P := Tryd.prog) wx 30 5 32 _ k _ Tryd.underlying30 (by kernel_rfl) (by kernel_rfl) hlt (rowV_get 32 (fun i => .int .u8 (f i)) k hlt)
      have hfk := hf k
      have h16 : f k / 16 < 16 := by omega
      have h160 : 0 ≤ f k / 16 := by omega
      have hand : bits .and .u8 (f k) 15 = f k % 16 := by
        rw [u8_and _ _ (by omega) (by omega) (by omega) (by omega)]; show (((f k).toNat &&& 15 : Nat) : Int) = _; rw [nat_mask4]; omega
      have d1 := digit_run (f k / 16) h160 h16
      have d2 := digit_run (f k % 16) (by omega) (by omega)
      have c1 := r.cell (i := 2 * k) (by omega)
      have c2 := r.cell (i := 2 * k + 1) (by omega)
      have z1 := r.frozen (2 * k)
      have z2 := r.frozen (2 * k + 1)
      go_wp2
      go_light
      refine ⟨⟨k + 1, by omega, by go_num, (hb.setCell (by simp) _).setCell (by simp) _, ((r.set (2 * k) _).set (2 * k + 1) _).congr fun i _ => ?_⟩, by simp [intOf]; omega⟩
      by_cases e : i = 2 * k + 1
      · subst e; rw [if_pos rfl, if_pos (by omega), printI, if_neg (by omega), show (2 * k + 1) / 2 = k by omega]
      · rw [if_neg e]
        by_cases e1 : i = 2 * k
        · subst e1; rw [if_pos rfl, if_pos (by omega), printI, if_pos (by omega), show 2 * k / 2 = k by omega]
        · rw [if_neg e1]
          by_cases e2 : i < 2 * k
          · rw [if_pos e2, if_pos (by omega)]
          · rw [if_neg e2, if_neg (by omega)]
    · obtain rfl : k = 32 := by omega
      have hcv := HC.out wr (fun i hi => by rw [Nat.zero_add, r.cell hi, if_pos (by omega)])
      go_wp2
      go_ret
      exact ⟨rfl, hb⟩
end Go.Proofs.YtmfgfcknhjblgaaDoor

namespace Go.Proofs.YtmfgfcknhjblgaaDoor
open Go.RowKit Go.Deep

/-- the digits. -/
def digitsS : ByteArray := { data := #[48, 49, 50, 51, 52, 53, 54, 55, 56, 57, 97, 98, 99, 100, 101, 102] }
/-- which half byte a digit is; -1: none. -/
def halfI (c : Int) : Int := if 48 ≤ c ∧ c ≤ 57 then c - 48 else if 97 ≤ c ∧ c ≤ 102 then c - 87 else -1
theorem firstIdx_digits (c : Int) (h0 : 0 ≤ c) (h1 : c ≤ 255) : firstIdx { data := #[48, 49, 50, 51, 52, 53, 54, 55, 56, 57, 97, 98, 99, 100, 101, 102] } c.toNat.toUInt8 = halfI c := by
  have h : ∀ m : Fin 256, firstIdx { data := #[48, 49, 50, 51, 52, 53, 54, 55, 56, 57, 97, 98, 99, 100, 101, 102] } m.val.toUInt8 = halfI m.val := by decide +kernel
  obtain ⟨m, rfl⟩ := Int.eq_ofNat_of_zero_le h0
  exact h ⟨m, by omega⟩
theorem idx_run (c : Int) (h0 : 0 ≤ c) (h1 : c ≤ 255) (w : World) : (callFunc 69 #[.string { data := #[48, 49, 50, 51, 52, 53, 54, 55, 56, 57, 97, 98, 99, 100, 101, 102] }, .int .u8 c]).run Tryd.prog w = .ok (.value (.int .i64 (halfI c))) w := by
  rw [run_callFunc_extern Tryd.func69 (by kernel_rfl) (by kernel_rfl) (by kernel_rfl) (e := Extern.BytealgIndexByte.indexByte) (by kernel_rfl), run_indexByte_string, firstIdx_digits c h0 h1]
  rfl
set_option maxHeartbeats 1000000 in
theorem hexIndex_any (c : Int) (h0 : 0 ≤ c) (h1 : c ≤ 255) (w : World) :
    Calls Tryd.prog 50 #[.string { data := #[48, 49, 50, 51, 52, 53, 54, 55, 56, 57, 97, 98, 99, 100, 101, 102] }, .int .u8 c] w fun e w' => e = .returned (.int .i64 (halfI c)) ∧ w' = w := by
  have hr := idx_run c h0 h1
  go_enter Tryd.func50, Tryd.ntmps50
  go_wp2
  go_ret
  exact ⟨rfl, rfl⟩

section
variable {P : Program}
/-- TWO RESULTS: one that lies in memory, one in a slot. -/
theorem results_cell_tmp {fn : Func} {p q : Tmp} {ty : TypeId} (h : fn.results = #[.cell p ty, .tmp q]) (tmps : Array Value) (w : World) (g : Nat) (t : TypeId) (n : Nat) (f : Nat → Value) (d : TypeDesc) (v : Value)
    (hp : tmps.getD p undef = .pointer (some ⟨g, 0, none⟩)) (hq : tmps.getD q undef = v) (hu : P.underlying ty = some d) (hd : (match d with | .struct _ | .array _ _ => true | _ => false) = true) (hi : (P.info? ty).map (·.size) = some n)
    (hg : w.rowIs g t n f) : (results fn tmps).run P w = .ok (.tuple #[.agg (rowV n f), v]) w := by
  have hl := run_loadVar_row (P := P) w g t ty (rowV n f) (0, 0) d (rowIs_block hg) hu hd (by rw [hi, rowV_size])
  have hp' : tmps[p]?.getD undef = .pointer (some ⟨g, 0, none⟩) := by simpa using hp
  have hq' : tmps[q]?.getD undef = v := by simpa using hq
  simp [results, h, hp', hq', asAddr, hl]
end
/-- a string's byte. -/
def sB (s : ByteArray) (i : Nat) : Int := (s.data.toList.getD i 0).toNat
theorem sB_byte (s : ByteArray) (i : Nat) : 0 ≤ sB s i ∧ sB s i ≤ 255 := by
  unfold sB; have := (s.data.toList.getD i 0).toNat_lt; omega
theorem sB_run (s : ByteArray) (i : Nat) (x : Int) (hx : x = i) (h : i < s.size) (w : World) : (Instr.index 9 (.string s) (.int .i64 x)).run Tryd.prog w = .ok (.int .u8 (sB s i)) w := by
  subst hx
  rw [run_index_string (P := Tryd.prog) (w := w) 9 s .i64 i Tryd.underlying9, dif_pos (by omega)]
  have h2 : i < s.data.size := h
  have e : s.data[i]? = some (s[i]'h) := by rw [Array.getElem?_eq_getElem h2]; rfl
  rw [sB, List.getD_eq_getElem?_getD, Array.getElem?_toList, e]
  rfl
/-- the bytes that 64 digits are; and whether all of them are digits. -/
def readI (s : ByteArray) (i : Nat) : Int := halfI (sB s (2 * i)) * 16 + halfI (sB s (2 * i + 1))
def readTo (s : ByteArray) : Nat → Bool
  | 0 => true
  | k + 1 => readTo s k && decide (0 ≤ halfI (sB s (2 * k))) && decide (0 ≤ halfI (sB s (2 * k + 1)))
def readOk (s : ByteArray) : Bool := decide (s.size = 64) && readTo s 32
/-- what is read. -/
def readV (s : ByteArray) (i : Nat) : Int := if readTo s 32 = true then readI s i else 0
theorem readTo_no (s : ByteArray) (k : Nat) : ∀ n, k ≤ n → readTo s k = false → readTo s n = false
  | 0, h, e => by obtain rfl : k = 0 := by omega
                  exact e
  | n + 1, h, e => by
    by_cases hk : k = n + 1
    · subst hk; exact e
    · rw [readTo, readTo_no s k n (by omega) e]; rfl
theorem join_half (x y : Int) (h0 : 0 ≤ x) (h1 : x ≤ 15) (h2 : 0 ≤ y) (h3 : y ≤ 15) : bits .or .i64 (x * 16) y % 256 = x * 16 + y := by
  have h : ∀ a b : Fin 16, bits .or .i64 ((a.val : Int) * 16) (b.val : Int) % 256 = (a.val : Int) * 16 + (b.val : Int) := by decide +kernel
  obtain ⟨m, rfl⟩ := Int.eq_ofNat_of_zero_le h0
  obtain ⟨n, rfl⟩ := Int.eq_ofNat_of_zero_le h2
  exact h ⟨m, by omega⟩ ⟨n, by omega⟩
theorem halfI_range (c : Int) : -1 ≤ halfI c ∧ halfI c ≤ 15 := by unfold halfI; split <;> (try split) <;> omega

set_option maxHeartbeats 1000000 in
set_option maxRecDepth 100000 in
theorem read_short (s : ByteArray) (w : World) (hs : s.size ≤ maxLen) (h : s.size ≠ 64) :
    Calls Tryd.prog 34 #[.string s] w fun e w' => e = .returned (.tuple #[.agg (rowV 32 fun _ => .int .u8 0), .bool false]) ∧ Below w.heap.size w w' := by
  have hs2 := hs
  unfold maxLen at hs2
  have hi32 : (Tryd.prog.info? 30).map (·.size) = some 32 := by kernel_rfl
  have hne : ((s.size : Int) != 64) = true := by rw [bne_iff_ne]; omega
  have hz : ∀ w : World, (zeroValue 30).run Tryd.prog w = .ok (.agg (rowV 32 (fun _ => .int .u8 0))) w := fun w => by kernel_rfl
  have r0 := rowIs_box w 30 32 (fun _ => .int .u8 0)
  have r1 := r0.alloc (.cells (rowV 32 fun _ => .int .u8 0) 30)
  go_enter Tryd.func34, Tryd.ntmps34
  go_wp2_with (first | (refine wpList_store_row rfl 30 _ _ rfl rfl w.heap.size 0 32 _ rfl rfl hi32 (fun _ _ => rfl) _ _ _ r1 (by omega) ?_; intro W4 r4 hz4 hb4))
  refine bodyPost_ret (results_cell_tmp rfl _ _ w.heap.size 30 32 (fun _ => .int .u8 0) _ _ rfl rfl Tryd.underlying30 rfl hi32 (r4.congr fun i hi => ?_)) rfl ⟨rfl, (((Below.refl _ _).alloc (Nat.le_refl _) _).alloc (by simp) _).trans ((hb4.mono (by simp; omega)).below (Nat.le_refl _))⟩
  rw [if_pos (by omega)]

set_option maxHeartbeats 1000000 in
set_option maxRecDepth 100000 in
theorem read_long (s : ByteArray) (w : World) (h : s.size = 64) :
    Calls Tryd.prog 34 #[.string s] w fun e w' => e = .returned (.tuple #[.agg (rowV 32 fun i => .int .u8 (readV s i)), .bool (readTo s 32)]) ∧ Below w.heap.size w w' := by
  have hi32 : (Tryd.prog.info? 30).map (·.size) = some 32 := by kernel_rfl
  have hne : ((s.size : Int) != 64) = false := by simp; omega
  have hz : ∀ w : World, (zeroValue 30).run Tryd.prog w = .ok (.agg (rowV 32 (fun _ => .int .u8 0))) w := fun w => by kernel_rfl
  have hs1 : s.size ≤ 64 := by omega
  have hs2 : 64 ≤ s.size := by omega
  clear h
  go_enter Tryd.func34, Tryd.ntmps34
  go_wp2
  go_loopw [12] (fun i wr => ∃ k : Nat, k ≤ 32 ∧ i = .int .i64 k ∧ Below w.heap.size w wr ∧ wr.heap.size = w.heap.size + 2 ∧ readTo s k = true ∧ wr.rowIs w.heap.size 30 32 (fun _ => .int .u8 0) ∧ wr.rowIs (w.heap.size + 1) 30 32 (fun j => .int .u8 (if j < k then readI s j else 0))) (fun i _ => 32 - (intOf i).toNat)
  case atStart =>
    refine ⟨0, by omega, rfl, ((Below.refl _ _).alloc (Nat.le_refl _) _).alloc (by simp) _, by simp, rfl, (rowIs_box w _ 32 _).alloc _, ?_⟩
    have := rowIs_box (w.alloc (.cells (rowV 32 fun _ => .int .u8 0) 30)) 30 32 (fun _ => .int .u8 0)
    simp only [nblk_alloc] at this
    exact this
  case round =>
    obtain ⟨k, hk, rfl, hb, hsz, hr, r0, r1⟩ := hrel
    have HR : Hid (readTo s k = true) := hr
    clear hr
    by_cases hlt : k < 32
    · have b0 : (0 : Int) ≤ (k : Int) := by omega
      have b1 : (k : Int) < 32 := by omega
      have hx1 := sB_run s (2 * k) (2 * (k : Int)) (by omega) (by omega)
      have hx2 := sB_run s (2 * k + 1) (2 * (k : Int) + 1) (by omega) (by omega)
      have y1 := sB_byte s (2 * k)
      have y2 := sB_byte s (2 * k + 1)
      have g1 := halfI_range (sB s (2 * k))
      have g2 := halfI_range (sB s (2 * k + 1))
      have HX : Hid (readTo s (k + 1) = (decide (0 ≤ halfI (sB s (2 * k))) && decide (0 ≤ halfI (sB s (2 * k + 1))))) := by show readTo s (k + 1) = _; rw [readTo, HR.out]; rfl
      have HI : Hid (readI s k = halfI (sB s (2 * k)) * 16 + halfI (sB s (2 * k + 1))) := rfl
      revert g1 g2 HX HI y1 y2
      generalize hsa : sB s (2 * k) = ca at *
      generalize hsb : sB s (2 * k + 1) = cb at *
      clear hsa hsb
      intro y1 y2 g1 g2 HX HI
      by_cases hA : halfI ca < 0
      · go_wp2_with (first | (go_at_call 50; refine (hexIndex_any _ ?_ ?_ _).mono ?_; (omega); (omega); rintro e w' ⟨rfl, hww⟩; obtain rfl := hww.symm; clear hww) | (refine wpList_store_row rfl 30 _ _ rfl rfl w.heap.size 0 32 _ rfl rfl hi32 (fun _ _ => rfl) _ _ _ r0 (by omega) ?_; intro W4 r4 hz4 hb4))
        have hno : readTo s 32 = false := readTo_no s (k + 1) 32 (by omega) (by rw [HX.out]; simp; omega)
        refine bodyPost_ret (results_cell_tmp rfl _ _ w.heap.size 30 32 (fun i => .int .u8 (readV s i)) _ _ rfl rfl Tryd.underlying30 rfl hi32 (r4.congr fun i hi => ?_)) rfl ⟨by rw [hno]; rfl, hb.trans ((hb4.mono (by omega)).below (Nat.le_refl _))⟩
        rw [if_pos (by omega), readV, hno, if_neg (by decide)]
      · by_cases hB : halfI cb < 0
        · go_wp2_with (first | (go_at_call 50; refine (hexIndex_any _ ?_ ?_ _).mono ?_; (omega); (omega); rintro e w' ⟨rfl, hww⟩; obtain rfl := hww.symm; clear hww) | (refine wpList_store_row rfl 30 _ _ rfl rfl w.heap.size 0 32 _ rfl rfl hi32 (fun _ _ => rfl) _ _ _ r0 (by omega) ?_; intro W4 r4 hz4 hb4))
          have hno : readTo s 32 = false := readTo_no s (k + 1) 32 (by omega) (by rw [HX.out]; simp; omega)
          refine bodyPost_ret (results_cell_tmp rfl _ _ w.heap.size 30 32 (fun i => .int .u8 (readV s i)) _ _ rfl rfl Tryd.underlying30 rfl hi32 (r4.congr fun i hi => ?_)) rfl ⟨by rw [hno]; rfl, hb.trans ((hb4.mono (by omega)).below (Nat.le_refl _))⟩
          rw [if_pos (by omega), readV, hno, if_neg (by decide)]
        · have c1 := r1.cell (i := k) (by omega)
          have z1 := r1.frozen k
          go_wp2_with (first | (go_at_call 50; refine (hexIndex_any _ ?_ ?_ _).mono ?_; (omega); (omega); rintro e w' ⟨rfl, hww⟩; obtain rfl := hww.symm; clear hww))
          go_light
          refine ⟨⟨k + 1, by omega, by go_num, hb.setCell (by simp) _, by simpa using hsz, by rw [HX.out]; simp; omega, r0.setOther (by simp) _, (r1.set k _).congr fun i _ => ?_⟩, by simp [intOf]; omega⟩
          by_cases e : i = k
          · subst e; rw [if_pos rfl, if_pos (by omega), HI.out, join_half _ _ (by omega) (by omega) (by omega) (by omega)]
          · rw [if_neg e]
            by_cases e2 : i < k
            · rw [if_pos e2, if_pos (by omega)]
            · rw [if_neg e2, if_neg (by omega)]
    · obtain rfl : k = 32 := by omega
      have hyes := HR.out
      clear hlt hk
      go_wp2_with (first | (refine wpList_load_seg rfl 30 _ rfl (w.heap.size + 1) 0 32 _ rfl _ Tryd.underlying30 rfl hi32 (fun i hi => by rw [Nat.zero_add]; exact r1.cell hi) ?_) | (refine wpList_store_row rfl 30 _ _ rfl rfl w.heap.size 0 32 _ rfl rfl hi32 (fun _ _ => rfl) _ _ _ r0 (by omega) ?_; intro W4 r4 hz4 hb4))
      refine bodyPost_ret (results_cell_tmp rfl _ _ w.heap.size 30 32 (fun i => .int .u8 (readV s i)) _ _ rfl rfl Tryd.underlying30 rfl hi32 (r4.congr fun i hi => ?_)) rfl ⟨by rw [HR.out]; rfl, hb.trans ((hb4.mono (by omega)).below (Nat.le_refl _))⟩
      rw [if_pos (by omega), readV, if_pos HR.out, Nat.sub_zero, if_pos (by omega)]
/-- sha.Read, OF ANY TEXT. -/
theorem read_any (s : ByteArray) (w : World) (hs : s.size ≤ maxLen) :
    Calls Tryd.prog 34 #[.string s] w fun e w' => e = .returned (.tuple #[.agg (rowV 32 fun i => .int .u8 (if readOk s = true then readI s i else 0)), .bool (readOk s)]) ∧ Below w.heap.size w w' := by
  by_cases h : s.size = 64
  · have e : readOk s = readTo s 32 := by rw [readOk, h]; rfl
    rw [e]
    exact read_long s w h
  · have e : readOk s = false := by rw [readOk]; simp [h]
    rw [e]
    exact read_short s w hs h
end Go.Proofs.YtmfgfcknhjblgaaDoor

namespace Go.Proofs.YtmfgfcknhjblgaaDoor
open Go.RowKit Go.Deep
set_option maxRecDepth 1000000
theorem sumI_byte {l : List Int} (i : Nat) : 0 ≤ sumI l i ∧ sumI l i ≤ 255 := by unfold sumI sumByte; omega
/-- the published sum of no bytes, and of abc. -/
theorem known_none : strOf ((List.range 64).map (printI (sumI []))) = { data := #[101, 51, 98, 48, 99, 52, 52, 50, 57, 56, 102, 99, 49, 99, 49, 52, 57, 97, 102, 98, 102, 52, 99, 56, 57, 57, 54, 102, 98, 57, 50, 52, 50, 55, 97, 101, 52, 49, 101, 52, 54, 52, 57, 98, 57, 51, 52, 99, 97, 52, 57, 53, 57, 57, 49, 98, 55, 56, 53, 50, 98, 56, 53, 53] } := by kernel_rfl
theorem known_abc : strOf ((List.range 64).map (printI (sumI [97, 98, 99]))) = { data := #[98, 97, 55, 56, 49, 54, 98, 102, 56, 102, 48, 49, 99, 102, 101, 97, 52, 49, 52, 49, 52, 48, 100, 101, 53, 100, 97, 101, 50, 50, 50, 51, 98, 48, 48, 51, 54, 49, 97, 51, 57, 54, 49, 55, 55, 97, 57, 99, 98, 52, 49, 48, 102, 102, 54, 49, 102, 50, 48, 48, 49, 53, 97, 100] } := by kernel_rfl
end Go.Proofs.YtmfgfcknhjblgaaDoor
