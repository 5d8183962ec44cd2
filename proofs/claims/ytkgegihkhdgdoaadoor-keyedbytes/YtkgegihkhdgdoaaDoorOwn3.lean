import Derived.Lib.SliceRun
import Derived.Test.YtkgegihkhdgdoaaDoorRows
import Derived.WalkLawsBesides
import Derived.RegionTactic
import Derived.BigRegion
import Derived.Deep.QuietTactic
import Derived.BigQuiet
import Derived.Deep.Light
import Derived.Deep.Cut
import Derived.Deep.CutRange
import Derived.Deep.AppendLies
import Derived.Deep.MidRow
import Derived.Lib.ConvBytes
import Derived.IntWalk
import Derived.Test.YtkgegihkhdgdoaaDoorOwn1
import Derived.Test.YtkgegihkhdgdoaaDoorOwn2
set_option linter.unusedVariables false
set_option linter.unusedSimpArgs false
namespace Go.Proofs.YtkgegihkhdgdoaaDoor
open Go.RowKit Go.Deep

section
variable {P : Program}
/-- a[m:] of an array behind a pointer, its elements of one cell. -/
theorem run_sliceAt_arr (t e : TypeId) (b o len m : Nat) (x : Int) (hx : x = m) (hu : P.underlying t = some (.array len e)) (hs : (P.info? e).map (·.size) = some 1) (hm : m ≤ len) :
    ∃ o', (m < len → o' = o + m) ∧ ∀ w : World, (Instr.sliceAt t (.pointer (some ⟨b, o, none⟩)) (some (.int .i64 x)) none none).run P w = .ok (.slice (some ⟨b, o', none⟩) (len - m) (len - m)) w := by
  subst hx
  cases hq : P.info? e with
  | none => simp [hq] at hs
  | some i =>
    have hi : i.size = 1 := by simpa [hq] using hs
    have h0 : (0 : Int) ≤ (m : Int) ∧ (m : Int) ≤ (len : Int) := by omega
    by_cases hc : len = m
    · refine ⟨o, fun h => by omega, fun w => ?_⟩
      simp [Instr.sliceAt, Instr.sliceBounds, Instr.sliceBound, asIntOf, Instr.sureAddr, run_underlying hu, sizeOf, typeInfo, hq, h0, hc]
    · refine ⟨o + m, fun _ => rfl, fun w => ?_⟩
      simp [Instr.sliceAt, Instr.sliceBounds, Instr.sliceBound, asIntOf, Instr.sureAddr, run_underlying hu, sizeOf, typeInfo, hq, hi, h0, hc, hm, Addr.add_mid]
/-- clear, of any number of elements of one cell each in a row. -/
theorem run_clear_seg (w : World) (t e ty : TypeId) (z : Value) (ht : P.underlying t = some (.slice e)) (hv : ∀ w, (zeroValue e).run P w = .ok z w) (hz : z.cells = #[z]) (h1 : z.oneCell' = true) (b o n c T N : Nat) (F : Nat → Value)
    (hr : w.rowIs b T N F) (hn : 0 < n → o + n ≤ N) :
    (Builtin.clear_ #[t] ty #[.slice (some ⟨b, o, none⟩) n c]).run P w = .ok (.tuple #[]) (w.setCells b o (List.replicate n z)) := by
  by_cases h : 0 < n
  · exact Lib.run_clear_slice w t e ty z ht hv hz h1 b o n c h (fun j hj => by rw [hr.cell (by omega)]; rfl) (fun j _ => hr.frozen _)
  · obtain rfl : n = 0 := by omega
    simp [Builtin.clear_, run_underlying ht, World.setCells]
end

/-- a block's bytes behind the message's end. -/
def padF (f : Nat → Int) (q i : Nat) : Int := if i < q then f i else if i = q then 128 else 0
/-- the length's bytes at a block's end. -/
def lenF (f : Nat → Int) (n i : Nat) : Int := if i < 56 then f i else (8 * (n : Int)) / 2 ^ (56 - 8 * (i - 56)) % 256
/-- the words of a whole message. -/
def padW (v f : Nat → Int) (n : Nat) : Nat → Int :=
  if n % 64 < 56 then takeI v (lenF (padF f (n % 64)) n) else takeI (takeI v (padF f (n % 64))) (lenF (fun _ => 0) n)
theorem hashV_set_byte (v f : Nat → Int) (c : Int) (q : Nat) (x : Int) (hq : q < 64) (j : Nat) : (if j = 8 + q then Value.int .u8 x else hashV v f c j) = hashV v (fun i => if i = q then x else f i) c j := by
  unfold hashV
  dsimp only
  by_cases e : j = 8 + q
  · subst e; rw [if_pos rfl, if_neg (by omega), if_pos (by omega), if_pos (by omega)]
  · rw [if_neg e]
    by_cases e1 : j < 8
    · rw [if_pos e1, if_pos e1]
    · rw [if_neg e1, if_neg e1]
      by_cases e2 : j < 72
      · rw [if_pos e2, if_pos e2, if_neg (by omega)]
      · rw [if_neg e2, if_neg e2]
/-- one byte of a hash's block is stored. -/
theorem hash_set {w : World} {b : Nat} {v f : Nat → Int} {c : Int} (h : hashIs w b v f c) (q : Nat) (hq : q < 64) (x : Int) : hashIs (w.setCell ⟨b, 8 + q, none⟩ (.int .u8 x)) b v (fun i => if i = q then x else f i) c :=
  (h.set (8 + q) (.int .u8 x)).congr fun j _ => hashV_set_byte v f c q x hq j
theorem hash_congr {w : World} {b : Nat} {v f g : Nat → Int} {c : Int} (h : hashIs w b v f c) (e : ∀ i, i < 64 → f i = g i) : hashIs w b v g c :=
  h.congr fun j _ => by
    unfold hashV
    by_cases e1 : j < 8
    · rw [if_pos e1, if_pos e1]
    · rw [if_neg e1, if_neg e1]
      by_cases e2 : j < 72
      · rw [if_pos e2, if_pos e2, e _ (by omega)]
      · rw [if_neg e2, if_neg e2]
/-- noughts behind the byte q. -/
theorem hash_clear {w : World} {b o' : Nat} {v f : Nat → Int} {c : Int} (h : hashIs w b v f c) (q : Nat) (hq : q < 64) (ho : q + 1 < 64 → o' = 8 + (q + 1)) :
    hashIs (w.setCells b o' (List.replicate (63 - q) (.int .u8 0))) b v (fun i => if q < i then 0 else f i) c :=
  (rowIs_setCells _ _ h).congr fun j hj => by
    rw [List.length_replicate]
    unfold hashV
    dsimp only
    by_cases e : o' ≤ j ∧ j < o' + (63 - q)
    · have := ho (by omega)
      rw [if_pos e, if_neg (by omega), if_pos (by omega), if_pos (by omega), List.getD_eq_getElem?_getD, List.getElem?_replicate, if_pos (by omega)]; rfl
    · rw [if_neg e]
      by_cases e1 : j < 8
      · rw [if_pos e1, if_pos e1]
      · rw [if_neg e1, if_neg e1]
        by_cases e2 : j < 72
        · have h3 : ¬ q < j - 8 := fun h2 => by have := ho (by omega); omega
          rw [if_pos e2, if_pos e2, if_neg h3]
        · rw [if_neg e2, if_neg e2]
theorem zero_byte : ∀ w : World, (zeroValue 5).run Tryd.prog w = .ok (.int .u8 0) w := fun w => by kernel_rfl

set_option maxHeartbeats 1000000 in
set_option maxRecDepth 100000 in
theorem pad_short (b : Nat) (v f : Nat → Int) (n : Nat) (w : World) (h : hashIs w b v f n) (hn : n < 1099511627776) (hq : n % 64 < 56)
    (hk : ∀ i, i < 64 → w.cell? ⟨1, i, none⟩ = some (.int .u32 (kAt i))) (hb0 : b ≠ 1) :
    Calls Tryd.prog 114 #[.pointer (some ⟨b, 0, none⟩)] w fun e w' => e = .returned (.tuple #[]) ∧ But w.heap.size b w w' ∧ ∃ f', hashIs w' b (padW v f n) f' n := by
  have hlt := h.lt
  obtain ⟨q, hqn⟩ : ∃ q, q = n % 64 := ⟨_, rfl⟩
  have hq56 : q < 56 := by omega
  have q1 : (q : Int) < 56 := by omega
  have q0 : (0 : Int) ≤ (q : Int) := by omega
  have q2 : (q : Int) < 64 := by omega
  have hw := waiting_any b v f n w h
  rw [show (n : Int) % 64 = (q : Int) by omega] at hw
  have cq : w.cell? ⟨b, 8 + q, none⟩ = some (.int .u8 (f q)) := by rw [h.cell (by omega), hashV_byte _ _ _ _ (by omega)]
  have zq := h.frozen (8 + q)
  have HQ : Hid (q = n % 64) := hqn
  clear hqn hq
  have rA := hash_set h q (by omega) 128
  obtain ⟨o', ho', hsl⟩ := run_sliceAt_arr (P := Tryd.prog) 161 5 b 8 64 (q + 1) ((q : Int) + 1) (by omega) Tryd.underlying161 (by kernel_rfl) (by omega)
  have hcl := run_clear_seg (P := Tryd.prog) (w.setCell ⟨b, 8 + q, none⟩ (.int .u8 128)) 23 5 0 (.int .u8 0) Tryd.underlying23 zero_byte rfl rfl b o' (63 - q) (63 - q) _ _ _ rA (fun h => by have := ho' (by omega); omega)
  have rW := hash_clear rA q (by omega) ho'
  have hbW : But w.heap.size b w ((w.setCell ⟨b, 8 + q, none⟩ (.int .u8 128)).setCells b o' (List.replicate (63 - q) (.int .u8 0))) := but_setCells _ _ ((But.refl _ _ _).set _ _)
  revert hcl rW hbW
  generalize (w.setCell ⟨b, 8 + q, none⟩ (.int .u8 128)).setCells b o' (List.replicate (63 - q) (.int .u8 0)) = W
  intro hcl rW hbW
  have rW' : hashIs W b v (padF f q) n := hash_congr rW fun i _ => by
    unfold padF
    by_cases e : q < i
    · rw [if_pos e, if_neg (by omega), if_neg (by omega)]
    · rw [if_neg e]
      by_cases e2 : i = q
      · rw [if_pos e2, if_neg (by omega), if_pos e2]
      · rw [if_neg e2, if_pos (by omega)]
  have cW : W.cell? ⟨b, 72, none⟩ = some (.int .u64 n) := rW.cell (by omega)
  clear rW ho' rA
  go_enter Tryd.func114, Tryd.ntmps114
  go_wp2_with fail
  refine hw.mono ?_
  rintro e w' ⟨rfl, hww⟩
  obtain rfl := hww.symm
  clear hw hww
  go_wp2
  clear hcl hsl cW cq zq
  go_loopw [37] (fun i wr => ∃ k : Nat, k ≤ 8 ∧ i = .int .i64 k ∧ But w.heap.size b w wr ∧ hashIs wr b v (fun j => if j < 56 + k then lenF (padF f q) n j else (padF f q) j) n) (fun i _ => 8 - (intOf i).toNat)
  case atStart => exact ⟨0, by omega, rfl, hbW, hash_congr rW' fun i _ => by
    by_cases e : i < 56
    · rw [if_pos (by omega), lenF, if_pos e]
    · rw [if_neg (by omega)]⟩
  case round =>
    clear hbW rW'
    obtain ⟨k, hk8, rfl, hb, r⟩ := hrel
    by_cases hlt8 : k < 8
    · have b0 : (0 : Int) ≤ (k : Int) := by omega
      have b1 : (k : Int) < 8 := by omega
      have b2 : (0 : Int) ≤ 56 + (k : Int) := by omega
      have b3 : 56 + (k : Int) < 64 := by omega
      have b4 : (0 : Int) ≤ 56 - 8 * (k : Int) := by omega
      have b5 : 56 - 8 * (k : Int) ≤ 64 := by omega
      have e1 : IntKind.i64.wrap (56 + (k : Int)) = 56 + (k : Int) := IntWalk.i64_in _ (by omega)
      have e2 : IntKind.i64.wrap (8 * (k : Int)) = 8 * (k : Int) := IntWalk.i64_in _ (by omega)
      have e3 : IntKind.i64.wrap (56 - 8 * (k : Int)) = 56 - 8 * (k : Int) := IntWalk.i64_in _ (by omega)
      obtain ⟨x, c2⟩ : ∃ x, wr.cell? ⟨b, 8 + (56 + k), none⟩ = some x := ⟨_, r.cell (by omega)⟩
      have c1 : wr.cell? ⟨b, 8 + (56 + (k : Int)).toNat, none⟩ = some x := by
        rw [show (56 + (k : Int)).toNat = 56 + k by omega]; exact c2
      have z1 := r.frozen (8 + (56 + (k : Int)).toNat)
      have z2 := r.frozen (8 + (56 + k))
      go_wp2
      go_region
      go_wp2
      go_light
      refine ⟨⟨k + 1, by omega, by go_num, (hb.set _ _).drew, hash_congr (hash_set r (56 + k) (by omega) _) fun i _ => ?_⟩, by simp [intOf]; omega⟩
      by_cases e : i = 56 + k
      · subst e; rw [if_pos rfl, if_pos (by omega), lenF, if_neg (by omega), show 56 + k - 56 = k by omega]
      · rw [if_neg e]
        by_cases e2 : i < 56 + k
        · rw [if_pos e2, if_pos (by omega)]
        · rw [if_neg e2, if_neg (by omega)]
    · obtain rfl : k = 8 := by omega
      have r2 : hashIs wr b v (lenF (padF f q) n) n := hash_congr r fun i hi => by rw [if_pos (by omega)]
      clear r
      go_wp2
      obtain ⟨cs, hcl, hcr, Hcs⟩ := hash_range r2
      have hu := Tryd.underlying161
      have hi : (Tryd.prog.info? 161).map (·.size) = some cs.length := by rw [hcl]; kernel_rfl
      have hk2 : ∀ i, i < 64 → wr.cell? ⟨1, i, none⟩ = some (.int .u32 (kAt i)) := fun i hi => by rw [hb.cell (by have := cell_block_lt (hk i hi); omega) (Ne.symm hb0)]; exact hk i hi
      go_region_held3 (fun w' => w'.rangeAt b 8 cs) (first | exact hrng | exact hcr) (first | (go_at_call 122; refine (take_hash b v (lenF (padF f q) n) _ cs _ Hcs r2.drew hk2).mono ?_; rintro e w3 ⟨rfl, hb3, r3, hrng⟩))
      go_wp2
      go_end0
      exact ⟨rfl, hb.drew.trans (hb3.mono hb.size), _, by rw [padW, ← HQ.out, if_pos hq56]; exact r3⟩

set_option maxHeartbeats 1000000 in
set_option maxRecDepth 100000 in
theorem pad_long (b : Nat) (v f : Nat → Int) (n : Nat) (w : World) (h : hashIs w b v f n) (hn : n < 1099511627776) (hq : 56 ≤ n % 64)
    (hk : ∀ i, i < 64 → w.cell? ⟨1, i, none⟩ = some (.int .u32 (kAt i))) (hb0 : b ≠ 1) :
    Calls Tryd.prog 114 #[.pointer (some ⟨b, 0, none⟩)] w fun e w' => e = .returned (.tuple #[]) ∧ But w.heap.size b w w' ∧ ∃ f', hashIs w' b (padW v f n) f' n := by
  have hlt := h.lt
  obtain ⟨q, hqn⟩ : ∃ q, q = n % 64 := ⟨_, rfl⟩
  have hq56 : 56 ≤ q := by omega
  have hq64 : q < 64 := by omega
  have q1 : (56 : Int) ≤ (q : Int) := by omega
  have q0 : (0 : Int) ≤ (q : Int) := by omega
  have q2 : (q : Int) < 64 := by omega
  have hw := waiting_any b v f n w h
  rw [show (n : Int) % 64 = (q : Int) by omega] at hw
  have cq : w.cell? ⟨b, 8 + q, none⟩ = some (.int .u8 (f q)) := by rw [h.cell (by omega), hashV_byte _ _ _ _ (by omega)]
  have zq := h.frozen (8 + q)
  have HQ : Hid (q = n % 64) := hqn
  clear hqn hq
  have rA := hash_set h q (by omega) 128
  obtain ⟨o', ho', hsl⟩ := run_sliceAt_arr (P := Tryd.prog) 161 5 b 8 64 (q + 1) ((q : Int) + 1) (by omega) Tryd.underlying161 (by kernel_rfl) (by omega)
  have hcl := run_clear_seg (P := Tryd.prog) (w.setCell ⟨b, 8 + q, none⟩ (.int .u8 128)) 23 5 0 (.int .u8 0) Tryd.underlying23 zero_byte rfl rfl b o' (63 - q) (63 - q) _ _ _ rA (fun h => by have := ho' (by omega); omega)
  have rW := hash_clear rA q (by omega) ho'
  have hbW : But w.heap.size b w ((w.setCell ⟨b, 8 + q, none⟩ (.int .u8 128)).setCells b o' (List.replicate (63 - q) (.int .u8 0))) := but_setCells _ _ ((But.refl _ _ _).set _ _)
  revert hcl rW hbW
  generalize (w.setCell ⟨b, 8 + q, none⟩ (.int .u8 128)).setCells b o' (List.replicate (63 - q) (.int .u8 0)) = W
  intro hcl rW hbW
  have rW' : hashIs W b v (padF f q) n := hash_congr rW fun i _ => by
    unfold padF
    by_cases e : q < i
    · rw [if_pos e, if_neg (by omega), if_neg (by omega)]
    · rw [if_neg e]
      by_cases e2 : i = q
      · rw [if_pos e2, if_neg (by omega), if_pos e2]
      · rw [if_neg e2, if_pos (by omega)]
  have cW : W.cell? ⟨b, 72, none⟩ = some (.int .u64 n) := rW.cell (by omega)
  clear rW ho' rA
  go_enter Tryd.func114, Tryd.ntmps114
  go_wp2_with fail
  refine hw.mono ?_
  rintro e w' ⟨rfl, hww⟩
  obtain rfl := hww.symm
  clear hw hww
  have hz0 := zero_block
  have hi64 : (Tryd.prog.info? 161).map (·.size) = some 64 := by kernel_rfl
  go_wp2
  clear hcl hsl cW cq zq
  obtain ⟨cs, hcl, hcr, Hcs⟩ := hash_range rW'
  have hu := Tryd.underlying161
  have hi : (Tryd.prog.info? 161).map (·.size) = some cs.length := by rw [hcl]; kernel_rfl
  have hk2 : ∀ i, i < 64 → W.cell? ⟨1, i, none⟩ = some (.int .u32 (kAt i)) := fun i hi => by rw [hbW.cell (by have := cell_block_lt (hk i hi); omega) (Ne.symm hb0)]; exact hk i hi
  go_region_held3 (fun w' => w'.rangeAt b 8 cs) (first | exact hrng | exact hcr) (first | (go_at_call 122; refine (take_hash b v (padF f q) _ cs _ Hcs rW'.drew hk2).mono ?_; rintro e w3 ⟨rfl, hb3, r3, hrng⟩))
  have hb3' := hbW.drew.trans (hb3.mono hbW.size)
  clear hb3 hbW rW' hcl hcr Hcs hi hk2 hrng
  go_wp2_with (first | (refine wpList_store_row rfl 161 _ _ rfl rfl b 8 64 _ rfl rfl hi64 (fun _ _ => rfl) _ _ _ r3 (by omega) ?_; intro W4 r4 hz4 hb4; have cW : W4.cell? ⟨b, 72, none⟩ = some (.int .u64 n) := (by rw [r4.cell (by omega), if_neg (by omega), hashV_count])))
  have hb5 := hb3'.trans (hb4.mono hb3'.size)
  have r5 : hashIs W4 b (takeI v (padF f q)) (fun _ => 0) n := r4.congr fun j hj => by
    unfold hashV
    by_cases e1 : j < 8
    · rw [if_neg (by omega), if_pos e1, if_pos e1]
    · by_cases e2 : j < 72
      · rw [if_pos (by omega), if_neg e1, if_pos e2]
      · rw [if_neg (by omega), if_neg e1, if_neg e2, if_neg e1, if_neg e2]
  clear hb3' hb4 r4 r3 hz4 cW
  go_loopw [37] (fun i wr => ∃ k : Nat, k ≤ 8 ∧ i = .int .i64 k ∧ But w.heap.size b w wr ∧ hashIs wr b (takeI v (padF f q)) (fun j => if j < 56 + k then lenF (fun _ => 0) n j else (fun _ => 0) j) n) (fun i _ => 8 - (intOf i).toNat)
  case atStart => exact ⟨0, by omega, rfl, hb5, hash_congr r5 fun i _ => by
    by_cases e : i < 56
    · rw [if_pos (by omega), lenF, if_pos e]
    · rw [if_neg (by omega)]⟩
  case round =>
    clear hb5 r5
    obtain ⟨k, hk8, rfl, hb, r⟩ := hrel
    by_cases hlt8 : k < 8
    · have b0 : (0 : Int) ≤ (k : Int) := by omega
      have b1 : (k : Int) < 8 := by omega
      have b2 : (0 : Int) ≤ 56 + (k : Int) := by omega
      have b3 : 56 + (k : Int) < 64 := by omega
      have b4 : (0 : Int) ≤ 56 - 8 * (k : Int) := by omega
      have b5 : 56 - 8 * (k : Int) ≤ 64 := by omega
      have e1 : IntKind.i64.wrap (56 + (k : Int)) = 56 + (k : Int) := IntWalk.i64_in _ (by omega)
      have e2 : IntKind.i64.wrap (8 * (k : Int)) = 8 * (k : Int) := IntWalk.i64_in _ (by omega)
      have e3 : IntKind.i64.wrap (56 - 8 * (k : Int)) = 56 - 8 * (k : Int) := IntWalk.i64_in _ (by omega)
      obtain ⟨x, c2⟩ : ∃ x, wr.cell? ⟨b, 8 + (56 + k), none⟩ = some x := ⟨_, r.cell (by omega)⟩
      have c1 : wr.cell? ⟨b, 8 + (56 + (k : Int)).toNat, none⟩ = some x := by
        rw [show (56 + (k : Int)).toNat = 56 + k by omega]; exact c2
      have z1 := r.frozen (8 + (56 + (k : Int)).toNat)
      have z2 := r.frozen (8 + (56 + k))
      go_wp2
      go_region
      go_wp2
      go_light
      refine ⟨⟨k + 1, by omega, by go_num, (hb.set _ _).drew, hash_congr (hash_set r (56 + k) (by omega) _) fun i _ => ?_⟩, by simp [intOf]; omega⟩
      by_cases e : i = 56 + k
      · subst e; rw [if_pos rfl, if_pos (by omega), lenF, if_neg (by omega), show 56 + k - 56 = k by omega]
      · rw [if_neg e]
        by_cases e2 : i < 56 + k
        · rw [if_pos e2, if_pos (by omega)]
        · rw [if_neg e2, if_neg (by omega)]
    · obtain rfl : k = 8 := by omega
      have r2 : hashIs wr b (takeI v (padF f q)) (lenF (fun _ => 0) n) n := hash_congr r fun i hi => by rw [if_pos (by omega)]
      clear r
      go_wp2
      obtain ⟨cs, hcl, hcr, Hcs⟩ := hash_range r2
      have hu := Tryd.underlying161
      have hi : (Tryd.prog.info? 161).map (·.size) = some cs.length := by rw [hcl]; kernel_rfl
      have hk2 : ∀ i, i < 64 → wr.cell? ⟨1, i, none⟩ = some (.int .u32 (kAt i)) := fun i hi => by rw [hb.cell (by have := cell_block_lt (hk i hi); omega) (Ne.symm hb0)]; exact hk i hi
      go_region_held3 (fun w' => w'.rangeAt b 8 cs) (first | exact hrng | exact hcr) (first | (go_at_call 122; refine (take_hash b (takeI v (padF f q)) (lenF (fun _ => 0) n) _ cs _ Hcs r2.drew hk2).mono ?_; rintro e w3 ⟨rfl, hb3, r3, hrng⟩))
      go_wp2
      go_end0
      exact ⟨rfl, hb.drew.trans (hb3.mono hb.size), _, by rw [padW, ← HQ.out, if_neg (by omega)]; exact r3⟩

end Go.Proofs.YtkgegihkhdgdoaaDoor

namespace Go.Proofs.YtkgegihkhdgdoaaDoor
open Go.RowKit Go.Deep

/-- eight times a number, in eight bytes. -/
def lenBytes (n : Nat) : List Int := (List.range 8).map fun k => (8 * (n : Int)) / 2 ^ (56 - 8 * k) % 256
/-- the message of some bytes. -/
def msg (l : List Int) : List Int := l ++ ((128 :: List.replicate ((119 - l.length % 64) % 64) 0) ++ lenBytes l.length)
/-- the words behind the whole message, and the sum's bytes. -/
def finalW (l : List Int) : Nat → Int := wordsAt (msg l) ((msg l).length / 64)
def sumI (l : List Int) (i : Nat) : Int := sumByte (finalW l) i

theorem lenBytes_length (n : Nat) : (lenBytes n).length = 8 := by simp [lenBytes]
theorem lenBytes_get (n k : Nat) (h : k < 8) : (lenBytes n).getD k 0 = (8 * (n : Int)) / 2 ^ (56 - 8 * k) % 256 := by
  rw [List.getD_eq_getElem?_getD, lenBytes, List.getElem?_map, List.getElem?_range h]; rfl
theorem msg_length (l : List Int) : (msg l).length = l.length + (1 + (119 - l.length % 64) % 64 + 8) := by
  simp [msg, lenBytes_length]; omega
theorem msg_head (l : List Int) (j : Nat) (h : j < l.length) : (msg l).getD j 0 = l.getD j 0 := by
  rw [List.getD_eq_getElem?_getD, List.getD_eq_getElem?_getD, msg, List.getElem?_append_left h]
theorem msg_one (l : List Int) : (msg l).getD l.length 0 = 128 := by
  rw [List.getD_eq_getElem?_getD, msg, List.getElem?_append_right (Nat.le_refl _), Nat.sub_self]; rfl
theorem msg_zero (l : List Int) (j : Nat) (h0 : l.length < j) (h1 : j < l.length + 1 + (119 - l.length % 64) % 64) : (msg l).getD j 0 = 0 := by
  obtain ⟨m, rfl⟩ : ∃ m, j = l.length + (m + 1) := ⟨j - l.length - 1, by omega⟩
  rw [List.getD_eq_getElem?_getD, msg, List.getElem?_append_right (by omega), show l.length + (m + 1) - l.length = m + 1 by omega, List.getElem?_append_left (by simp; omega), List.getElem?_cons_succ, List.getElem?_replicate, if_pos (by omega)]; rfl
theorem msg_len (l : List Int) (k : Nat) (hk : k < 8) : (msg l).getD (l.length + 1 + (119 - l.length % 64) % 64 + k) 0 = (8 * (l.length : Int)) / 2 ^ (56 - 8 * k) % 256 := by
  rw [← lenBytes_get _ _ hk, List.getD_eq_getElem?_getD, List.getD_eq_getElem?_getD, msg, List.getElem?_append_right (by omega), List.getElem?_append_right (by simp; omega)]
  congr 2
  simp; omega

theorem padW_msg {l : List Int} {v f : Nat → Int} (hv : ∀ i, i < 8 → v i = wordsAt l (l.length / 64) i) (hfl : ∀ i, i < l.length % 64 → f i = l.getD (l.length / 64 * 64 + i) 0) (i : Nat) (hi : i < 8) : padW v f l.length i = finalW l i := by
  have hl := msg_length l
  have hpre : ∀ i, i < 8 → v i = wordsAt (msg l) (l.length / 64) i := fun i hi => by
    rw [hv i hi, msg, wordsAt_append l _ _ (by omega) i hi]
  unfold padW finalW
  by_cases hq : l.length % 64 < 56
  · rw [if_pos hq, show (msg l).length / 64 = l.length / 64 + 1 by omega, wordsAt]
    refine takeI_congr hpre (fun j hj => ?_) i hi
    unfold lenF padF
    by_cases e : j < 56
    · rw [if_pos e]
      by_cases e1 : j < l.length % 64
      · rw [if_pos e1, hfl j e1, msg_head l _ (by omega), Nat.mul_comm]
      · rw [if_neg e1]
        by_cases e2 : j = l.length % 64
        · rw [if_pos e2, show 64 * (l.length / 64) + j = l.length by omega, msg_one]
        · rw [if_neg e2, msg_zero l _ (by omega) (by omega)]
    · rw [if_neg e, show 64 * (l.length / 64) + j = l.length + 1 + (119 - l.length % 64) % 64 + (j - 56) by omega, msg_len l _ (by omega)]
  · rw [if_neg hq, show (msg l).length / 64 = l.length / 64 + 1 + 1 by omega, wordsAt]
    refine takeI_congr (fun j hj => ?_) (fun j hj => ?_) i hi
    · rw [wordsAt]
      refine takeI_congr hpre (fun k hk => ?_) j hj
      unfold padF
      by_cases e1 : k < l.length % 64
      · rw [if_pos e1, hfl k e1, msg_head l _ (by omega), Nat.mul_comm]
      · rw [if_neg e1]
        by_cases e2 : k = l.length % 64
        · rw [if_pos e2, show 64 * (l.length / 64) + k = l.length by omega, msg_one]
        · rw [if_neg e2, msg_zero l _ (by omega) (by omega)]
    · unfold lenF
      by_cases e : j < 56
      · rw [if_pos e, msg_zero l _ (by omega) (by omega)]
      · rw [if_neg e, show 64 * (l.length / 64 + 1) + j = l.length + 1 + (119 - l.length % 64) % 64 + (j - 56) by omega, msg_len l _ (by omega)]
end Go.Proofs.YtkgegihkhdgdoaaDoor

namespace Go.Proofs.YtkgegihkhdgdoaaDoor
open Go.RowKit Go.Deep

/-- A HASH TO WHICH THESE BYTES CAME; its words need not be begun as long as there are none. -/
def hashAny (w : World) (b : Nat) (l : List Int) : Prop :=
  ∃ v f : Nat → Int, hashIs w b v f l.length ∧ (0 < l.length → ∀ i, i < 8 → v i = wordsAt l (l.length / 64) i) ∧ (∀ i, 0 ≤ f i ∧ f i ≤ 255) ∧ ∀ i, i < l.length % 64 → f i = l.getD (l.length / 64 * 64 + i) 0
theorem hashOf.any {w : World} {b : Nat} {l : List Int} (h : hashOf w b l) : hashAny w b l := by
  obtain ⟨v, f, h1, h2, h3, h4⟩ := h; exact ⟨v, f, h1, fun _ => h2, h3, h4⟩
theorem hashAny.lt {w : World} {b : Nat} {l : List Int} (h : hashAny w b l) : b < w.heap.size := by
  obtain ⟨v, f, h1, _⟩ := h; exact World.rowIs.lt h1
theorem hashOf.lt {w : World} {b : Nat} {l : List Int} (h : hashOf w b l) : b < w.heap.size := h.any.lt

theorem begin_any (b : Nat) (l : List Int) (w : World) (h : hashAny w b l) :
    Calls Tryd.prog 112 #[.pointer (some ⟨b, 0, none⟩)] w fun e w' => e = .returned (.tuple #[]) ∧ But w.heap.size b w w' ∧ hashOf w' b l := by
  obtain ⟨v, f, h1, h2, h3, h4⟩ := h
  by_cases e : 0 < l.length
  · refine (begin_some b v f l.length e w h1).mono ?_
    rintro e w' ⟨rfl, rfl⟩
    exact ⟨rfl, But.refl _ _ _, v, f, h1, h2 (by assumption), h3, h4⟩
  · have hl : l = [] := List.eq_nil_of_length_eq_zero (by omega)
    subst hl
    refine (begin_zero b v f w h1).mono ?_
    rintro e w' ⟨rfl, hb, hr⟩
    exact ⟨rfl, hb, _, f, hr, fun _ _ => rfl, h3, fun i hi => by simp at hi⟩
theorem pad_any (b : Nat) (l : List Int) (w : World) (h : hashOf w b l) (hn : l.length < 1099511627776) (hk : ∀ i, i < 64 → w.cell? ⟨1, i, none⟩ = some (.int .u32 (kAt i))) (hb0 : b ≠ 1) :
    Calls Tryd.prog 114 #[.pointer (some ⟨b, 0, none⟩)] w fun e w' => e = .returned (.tuple #[]) ∧ But w.heap.size b w w' ∧ ∃ v' f', hashIs w' b v' f' l.length ∧ ∀ i, i < 8 → v' i = finalW l i := by
  obtain ⟨v, f, h1, h2, h3, h4⟩ := h
  have key : Calls Tryd.prog 114 #[.pointer (some ⟨b, 0, none⟩)] w fun e w' => e = .returned (.tuple #[]) ∧ But w.heap.size b w w' ∧ ∃ f', hashIs w' b (padW v f l.length) f' l.length := by
    by_cases e : l.length % 64 < 56
    · exact pad_short b v f l.length w h1 hn e hk hb0
    · exact pad_long b v f l.length w h1 hn (by omega) hk hb0
  refine key.mono ?_
  rintro e w' ⟨rfl, hb, f', hr⟩
  exact ⟨rfl, hb, _, f', hr, fun i hi => padW_msg h2 h4 i hi⟩

set_option maxHeartbeats 1000000 in
set_option maxRecDepth 100000 in
theorem sum_any (b : Nat) (l : List Int) (w : World) (h : hashAny w b l) (hn : l.length < 1099511627776) (hk : ∀ i, i < 64 → w.cell? ⟨1, i, none⟩ = some (.int .u32 (kAt i))) :
    Calls Tryd.prog 105 #[.pointer (some ⟨b, 0, none⟩)] w fun e w' => e = .returned (.agg (rowV 32 fun i => .int .u8 (sumI l i))) ∧ Below w.heap.size w w' := by
  have hlt := h.lt
  obtain ⟨v, f, h1, h2, h3, h4⟩ := h
  have hi73 : (Tryd.prog.info? 163).map (·.size) = some 73 := by kernel_rfl
  have hi32 : (Tryd.prog.info? 32).map (·.size) = some 32 := by kernel_rfl
  have hz0 := zero_hash
  have r0 := rowIs_zero w (Array.replicate 32 (.int .u8 0)) 32 32 (.int .u8 0) rfl
  have hh : (w.alloc (.cells (Array.replicate 32 (.int .u8 0)) 32)).rowIs b 163 73 (hashV v f l.length) := World.rowIs.alloc h1 _
  have z1 := rowIs_box (w.alloc (.cells (Array.replicate 32 (.int .u8 0)) 32)) 163 73 (hashV (fun _ => 0) (fun _ => 0) 0)
  simp only [nblk_alloc] at z1
  go_enter Tryd.func105, Tryd.ntmps105
  go_wp2_with (first | (refine wpList_load_seg rfl 163 _ rfl b 0 73 _ rfl _ Tryd.underlying163 rfl hi73 (fun i hi => by rw [Nat.zero_add]; exact hh.cell hi) ?_) | (refine wpList_store_row rfl 163 _ _ rfl rfl (w.heap.size + 1) 0 73 _ rfl rfl hi73 (fun i _ => by unfold hashV; split <;> (try split) <;> rfl) _ _ _ z1 (by omega) ?_; intro W rW hzW hbut))
  have hbW : Below w.heap.size w W := (((Below.refl w.heap.size w).alloc (Nat.le_refl _) _).alloc (by simp) _).trans ((hbut.mono (by simp; omega)).below (by omega))
  have r0W : W.rowIs w.heap.size 32 32 (fun _ => .int .u8 0) := hbut.row (r0.alloc _) (by simp; omega) (by omega)
  have hszW : W.heap.size = w.heap.size + 2 := by rw [hzW]; simp
  have hW : hashAny W (w.heap.size + 1) l := ⟨v, f, rW.congr (fun i hi => by rw [if_pos (by omega), Nat.sub_zero]), h2, h3, h4⟩
  clear rW hzW hbut z1 hh r0
  refine (begin_any _ l _ hW).mono ?_
  rintro e w1 ⟨rfl, hb1, ho1⟩
  clear hW
  have hb1' : But (w.heap.size + 1) (w.heap.size + 1) W w1 := hb1.mono (by omega)
  have hB1 : Below w.heap.size w w1 := hbW.trans ((hb1'.mono (by omega)).below (by omega))
  have r01 := hb1'.row r0W (by omega) (by omega)
  have hs1 := hb1.size
  clear hb1 hb1' hbW r0W
  go_wp2_with fail
  refine (pad_any _ l _ ho1 hn (fun i hi => by rw [hB1.cell (p := ⟨1, i, none⟩) (by have := cell_block_lt (hk i hi); show 1 < _; omega)]; exact hk i hi) (by have := cell_block_lt (hk 0 (by omega)); omega)).mono ?_
  rintro e w2 ⟨rfl, hb2, v', f', hr2, hv2⟩
  have hb2' : But (w.heap.size + 1) (w.heap.size + 1) w1 w2 := hb2.mono (by omega)
  have hB2 : Below w.heap.size w w2 := hB1.trans ((hb2'.mono (by omega)).below (by omega))
  have r02 := hb2'.row r01 (by omega) (by omega)
  have hs2 := hb2.size
  clear hb2 hb2' hB1 r01 ho1
  go_wp2_with fail
  refine (bytes_any (w.heap.size + 1) _ 73 _ v' _ (fun i hi => hashV_word _ _ _ _ hi) (by omega) hr2).mono ?_
  rintro e w3 ⟨rfl, hb3⟩
  have hB3 : Below w.heap.size w w3 := hB2.trans (hb3.mono (by omega))
  have r03 := hb3.row r02 (by omega)
  clear hb3 hB2 r02
  go_wp2_with (first | (refine wpList_store_row rfl 32 _ _ rfl rfl w.heap.size 0 32 _ rfl rfl hi32 (fun _ _ => rfl) _ _ _ r03 (by omega) ?_; intro W4 r4 hz4 hb4))
  refine bodyPost_ret (results_cell_seg rfl _ _ w.heap.size 32 32 (fun i => .int .u8 (sumI l i)) _ rfl Tryd.underlying32 rfl hi32 (r4.congr fun i hi => ?_)) rfl ⟨rfl, hB3.trans ((hb4.mono (by have := hB3.size; omega)).below (Nat.le_refl _))⟩
  rw [if_pos (by omega), Nat.sub_zero, sumI, sumByte, sumByte, hv2 _ (by omega)]
end Go.Proofs.YtkgegihkhdgdoaaDoor

namespace Go.Proofs.YtkgegihkhdgdoaaDoor
open Go.RowKit Go.Deep

/-- THE VALUE v IS A SLICE OF THESE BYTES, of which none lies in block b. -/
def bytesAt (w : World) (b : Nat) (v : Value) (l : List Int) : Prop :=
  (v = .slice none 0 0 ∧ l = []) ∨ (∃ pb po cap : Nat, v = .slice (some ⟨pb, po, none⟩) l.length cap ∧ l.length ≤ cap ∧ cap ≤ maxLen ∧ pb < w.heap.size ∧ pb ≠ b ∧
    (∀ i, i < l.length → w.cell? ⟨pb, po + i, none⟩ = some (.int .u8 (l.getD i 0))) ∧ ∀ i, 0 ≤ l.getD i 0 ∧ l.getD i 0 ≤ 255) ∨ ((∃ a, v = .slice a 0 0) ∧ l = [])
theorem bytesAt.but {w w' : World} {b B : Nat} {v : Value} {l : List Int} (h : bytesAt w b v l) (hb : But B b w w') (hB : w.heap.size ≤ B) : bytesAt w' b v l := by
  rcases h with h | ⟨pb, po, cap, h1, h2, h3, h4, h5, h6, h7⟩ | h
  · exact Or.inl h
  · exact Or.inr (Or.inl ⟨pb, po, cap, h1, h2, h3, Nat.lt_of_lt_of_le h4 hb.size, h5, fun i hi => by rw [hb.cell (by omega) h5]; exact h6 i hi, h7⟩)
  · exact Or.inr (Or.inr h)

set_option maxHeartbeats 1000000 in
theorem add_nil (b : Nat) (a : Option Addr) (w : World) :
    Calls Tryd.prog 113 #[.pointer (some ⟨b, 0, none⟩), .slice a 0 0] w fun e w' => e = .returned (.tuple #[]) ∧ w' = w := by
  go_enter Tryd.func113, Tryd.ntmps113
  go_wp2
  go_loop [1] (fun s => s = .slice a 0 0) (fun _ => 0)
  case atStart => rfl
  case round =>
    subst hrel
    go_wp2
    go_end0
    exact ⟨rfl, rfl⟩
theorem add_bytes (b : Nat) (l p : List Int) (v : Value) (w : World) (h : hashOf w b l) (hp : bytesAt w b v p) (hbig : l.length + p.length < 1099511627776)
    (hk : ∀ i, i < 64 → w.cell? ⟨1, i, none⟩ = some (.int .u32 (kAt i))) (hb0 : b ≠ 1) :
    Calls Tryd.prog 113 #[.pointer (some ⟨b, 0, none⟩), v] w fun e w' => e = .returned (.tuple #[]) ∧ But w.heap.size b w w' ∧ hashOf w' b (l ++ p) := by
  rcases hp with ⟨rfl, rfl⟩ | ⟨pb, po, cap, rfl, h2, h3, h4, h5, h6, h7⟩ | ⟨⟨a, rfl⟩, rfl⟩
  · refine (add_nil b none w).mono ?_
    rintro e w' ⟨rfl, rfl⟩
    exact ⟨rfl, But.refl _ _ _, by rw [List.append_nil]; exact h⟩
  · exact add_any b l p pb po cap w h h5 h4 h2 hbig h6 h7 hk hb0 h3
  · refine (add_nil b a w).mono ?_
    rintro e w' ⟨rfl, rfl⟩
    exact ⟨rfl, But.refl _ _ _, by rw [List.append_nil]; exact h⟩

set_option maxHeartbeats 1000000 in
set_option maxRecDepth 100000 in
theorem write_any (b : Nat) (l : List Int) (n qb qo cap : Nat) (sv : Nat → Value) (ps : Nat → List Int) (w : World) (h : hashAny w b l) (hqb : qb ≠ b) (hql : qb < w.heap.size)
    (hcell : ∀ i, i < n → w.cell? ⟨qb, qo + i, none⟩ = some (sv i)) (hps : ∀ i, i < n → bytesAt w b (sv i) (ps i)) (hbig : ∀ i, i ≤ n → l.length + (flatTo ps i).length < 1099511627776) (hn : n ≤ maxLen)
    (hk : ∀ i, i < 64 → w.cell? ⟨1, i, none⟩ = some (.int .u32 (kAt i))) (hb0 : b ≠ 1) :
    Calls Tryd.prog 104 #[.pointer (some ⟨b, 0, none⟩), .slice (some ⟨qb, qo, none⟩) n cap] w fun e w' => e = .returned (.tuple #[]) ∧ But w.heap.size b w w' ∧ hashOf w' b (l ++ flatTo ps n) := by
  unfold maxLen at hn
  have hlt := h.lt
  go_enter Tryd.func104, Tryd.ntmps104
  go_wp2_with fail
  refine (begin_any b l w h).mono ?_
  rintro e w1 ⟨rfl, hb1, ho1⟩
  go_wp2
  go_loopw [12] (fun i wr => ∃ k : Nat, k ≤ n ∧ i = .int .i64 k ∧ But w.heap.size b w wr ∧ hashOf wr b (l ++ flatTo ps k)) (fun i _ => n - (intOf i).toNat)
  case atStart => exact ⟨0, by omega, rfl, hb1, by rw [flatTo, List.append_nil]; exact ho1⟩
  case round =>
    clear hb1 ho1
    obtain ⟨k, hkn, rfl, hb, ho⟩ := hrel
    by_cases hlt2 : k < n
    · have c0 : wr.cell? ⟨qb, qo + k, none⟩ = some (sv k) := by rw [hb.cell hql hqb]; exact hcell k hlt2
      have b0 : (0 : Int) ≤ (k : Int) := by omega
      have b1 : (k : Int) < (n : Int) := by omega
      have hbk := hbig (k + 1) (by omega)
      have HB : Hid (l.length + (flatTo ps (k + 1)).length < 1099511627776) := hbk
      clear hbk
      go_wp2_with fail
      refine (add_bytes b (l ++ flatTo ps k) (ps k) (sv k) _ ho ((hps k hlt2).but hb (Nat.le_refl _)) ?_ ?_ hb0).mono ?_
      · have := HB.out; rw [flatTo, List.length_append] at this; rw [List.length_append]; omega
      · intro i hi; rw [hb.cell (by have := cell_block_lt (hk i hi); omega) (Ne.symm hb0)]; exact hk i hi
      rintro e w2 ⟨rfl, hb2, ho2⟩
      go_wp2
      go_light
      exact ⟨⟨k + 1, by omega, by go_num, hb.trans (hb2.mono hb.size), by rw [flatTo, ← List.append_assoc]; exact ho2⟩, by simp [intOf]; omega⟩
    · obtain rfl : k = n := by omega
      go_wp2
      go_end0
      exact ⟨rfl, hb, ho⟩

set_option maxHeartbeats 1000000 in
theorem write_none (b : Nat) (l : List Int) (w : World) (h : hashAny w b l) :
    Calls Tryd.prog 104 #[.pointer (some ⟨b, 0, none⟩), .slice none 0 0] w fun e w' => e = .returned (.tuple #[]) ∧ But w.heap.size b w w' ∧ hashOf w' b l := by
  go_enter Tryd.func104, Tryd.ntmps104
  go_wp2_with fail
  refine (begin_any b l w h).mono ?_
  rintro e w1 ⟨rfl, hb1, ho1⟩
  go_wp2
  go_loop [12] (fun i => i = .int .i64 0) (fun _ => 0)
  case atStart => rfl
  case round =>
    subst hrel
    go_wp2
    go_end0
    exact ⟨rfl, hb1, ho1⟩
end Go.Proofs.YtkgegihkhdgdoaaDoor

namespace Go.Proofs.YtkgegihkhdgdoaaDoor
open Go.RowKit Go.Deep

theorem isBytes.at {w : World} {v : Value} {l : List Int} (h : isBytes w v l) {b : Nat} (hb : w.heap.size ≤ b) : bytesAt w b v l := by
  rcases h with h | ⟨pb, po, cap, h1, h2, h3, h4, h6, h7⟩
  · exact Or.inl h
  · exact Or.inr (Or.inl ⟨pb, po, cap, h1, h2, h3, h4, by omega, h6, h7⟩)
theorem anyBytes.at {w : World} {v : Value} {l : List Int} (h : anyBytes w v l) {b : Nat} (hb : w.heap.size ≤ b) : bytesAt w b v l := by
  rcases h with h | h
  · exact h.at hb
  · exact Or.inr (Or.inr h)
/-- the table of the rounds' constants lies in block 0. -/
def tabIs (w : World) : Prop := 1 < w.heap.size ∧ ∀ i, i < 64 → w.cell? ⟨1, i, none⟩ = some (.int .u32 (kAt i))
theorem tabIs.below {w w' : World} {B : Nat} (h : tabIs w) (hb : Below B w w') (hB : 1 < B) : tabIs w' := ⟨Nat.lt_of_lt_of_le h.1 hb.size, fun i hi => by rw [hb.cell (p := ⟨1, i, none⟩) hB]; exact h.2 i hi⟩
theorem tabIs.but {w w' : World} {B b : Nat} (h : tabIs w) (hb : But B b w w') (hB : 1 < B) (hb0 : b ≠ 1) : tabIs w' := ⟨Nat.lt_of_lt_of_le h.1 hb.size, fun i hi => by rw [hb.cell hB (Ne.symm hb0)]; exact h.2 i hi⟩

/-- Write, whatever the parts, if they lie below the hash's block, or elsewhere. -/
theorem write_parts (b : Nat) (l : List Int) (n : Nat) (v : Value) (ps : Nat → List Int) (w w0 : World) (h : hashAny w b l) (hp : isParts w0 v n ps) (hw : Below w0.heap.size w0 w) (hb : w0.heap.size ≤ b)
    (hbig : ∀ i, i ≤ n → l.length + (flatTo ps i).length < 1099511627776) (ht : tabIs w) (hb0 : b ≠ 1) :
    Calls Tryd.prog 104 #[.pointer (some ⟨b, 0, none⟩), v] w fun e w' => e = .returned (.tuple #[]) ∧ But w.heap.size b w w' ∧ hashOf w' b (l ++ flatTo ps n) := by
  rcases hp with ⟨rfl, rfl⟩ | ⟨qb, qo, cap, sv, rfl, h2, h3, h4⟩
  · refine (write_none b l w h).mono ?_
    rintro e w' ⟨rfl, h1, h2⟩
    exact ⟨rfl, h1, by rw [flatTo, List.append_nil]; exact h2⟩
  · refine write_any b l n qb qo cap sv ps w h (by omega) (Nat.lt_of_lt_of_le h2 hw.size) (fun i hi => by rw [hw.cell (p := ⟨qb, qo + i, none⟩) h2]; exact (h4 i hi).1) (fun i hi => ?_) hbig h3 ht.2 hb0
    rcases (h4 i hi).2 with (h | ⟨pb, po, cap, h1, h2, h3, h4, h6, h7⟩) | h
    · exact Or.inl h
    · exact Or.inr (Or.inl ⟨pb, po, cap, h1, h2, h3, Nat.lt_of_lt_of_le h4 hw.size, by omega, fun i hi => by rw [hw.cell (p := ⟨pb, po + i, none⟩) h4]; exact h6 i hi, h7⟩)
    · exact Or.inr (Or.inr h)

theorem hashAny_zero {w : World} {b : Nat} (h : hashIs w b (fun _ => 0) (fun _ => 0) 0) : hashAny w b [] :=
  ⟨_, _, h, fun h => by simp at h, fun _ => ⟨by omega, by omega⟩, fun i hi => by simp at hi⟩

set_option maxHeartbeats 1000000 in
set_option maxRecDepth 100000 in
/-- sha.Sum, OF ANY PARTS. -/
theorem shaSum_any (n : Nat) (v : Value) (ps : Nat → List Int) (w : World) (hp : isParts w v n ps) (hbig : ∀ i, i ≤ n → (flatTo ps i).length < 1099511627776) (ht : tabIs w) :
    Calls Tryd.prog 89 #[v] w fun e w' => e = .returned (.agg (rowV 32 fun i => .int .u8 (sumI (flatTo ps n) i))) ∧ Below w.heap.size w w' := by
  have hi32 : (Tryd.prog.info? 32).map (·.size) = some 32 := by kernel_rfl
  have r0 := rowIs_zero w (Array.replicate 32 (.int .u8 0)) 32 32 (.int .u8 0) rfl
  have hb0 : Below w.heap.size w (w.alloc (.cells (Array.replicate 32 (.int .u8 0)) 32)) := (Below.refl w.heap.size w).alloc (Nat.le_refl _) _
  have hs0 : (w.alloc (.cells (Array.replicate 32 (.int .u8 0)) 32)).heap.size = w.heap.size + 1 := by simp
  have ht0 := ht.1
  go_enter Tryd.func89, Tryd.ntmps89
  go_wp2_with fail
  refine (new_any _).mono ?_
  rintro e w1 ⟨rfl, hb1, hs1, hh1⟩
  change w1.heap.size = (w.alloc (.cells (Array.replicate 32 (.int .u8 0)) 32)).heap.size + 1 at hs1
  change Below (w.alloc (.cells (Array.replicate 32 (.int .u8 0)) 32)).heap.size (w.alloc (.cells (Array.replicate 32 (.int .u8 0)) 32)) w1 at hb1
  change hashIs w1 (w.alloc (.cells (Array.replicate 32 (.int .u8 0)) 32)).heap.size (fun _ => 0) (fun _ => 0) 0 at hh1
  rw [hs0] at hs1 hb1 hh1
  have hB1 : Below w.heap.size w w1 := hb0.trans (hb1.mono (by omega))
  have r1 : w1.rowIs w.heap.size 32 32 (fun _ => .int .u8 0) := hb1.row r0 (by omega)
  clear hb0 hb1 r0 hs0
  go_wp2_with fail
  refine (write_parts (w.heap.size + 1) [] n v ps w1 w (hashAny_zero hh1) hp hB1 (by omega) (fun i hi => by rw [List.length_nil, Nat.zero_add]; exact hbig i hi) (ht.below hB1 ht0) (by omega)).mono ?_
  rintro e w2 ⟨rfl, hb2, ho2⟩
  rw [List.nil_append] at ho2
  have hB2 : Below w.heap.size w w2 := hB1.trans ((hb2.mono (by omega)).below (by omega))
  have r2 := hb2.row r1 (by omega) (by omega)
  have hs2 := hb2.size
  clear hb2 r1 hB1 hh1
  go_wp2_with fail
  refine (sum_any (w.heap.size + 1) (flatTo ps n) w2 ho2.any (hbig n (Nat.le_refl _)) (ht.below hB2 ht0).2).mono ?_
  rintro e w3 ⟨rfl, hb3⟩
  have hB3 : Below w.heap.size w w3 := hB2.trans (hb3.mono (by omega))
  have r3 := hb3.row r2 (by omega)
  clear hb3 r2 hB2 ho2
  go_wp2_with (first | (refine wpList_store_row rfl 32 _ _ rfl rfl w.heap.size 0 32 _ rfl rfl hi32 (fun _ _ => rfl) _ _ _ r3 (by omega) ?_; intro W4 r4 hz4 hb4))
  refine bodyPost_ret (results_cell_seg rfl _ _ w.heap.size 32 32 (fun i => .int .u8 (sumI (flatTo ps n) i)) _ rfl Tryd.underlying32 rfl hi32 (r4.congr fun i hi => ?_)) rfl ⟨rfl, hB3.trans ((hb4.mono (by have := hB3.size; omega)).below (Nat.le_refl _))⟩
  rw [if_pos (by omega), Nat.sub_zero]

end Go.Proofs.YtkgegihkhdgdoaaDoor

/- Books: empty, Note, Of, Calls; Preimage. -/
namespace Go.Proofs.YtkgegihkhdgdoaaDoor
set_option linter.unusedSimpArgs false
set_option linter.unusedVariables false
open Go.RowKit Go.Deep

/-- what is hashed. -/
def preB (kind : Int) (n : Nat) (ps : Nat → List Int) : List Int := [kind % 256] ++ flatTo (blobsB ps) n
theorem convA (w : World) (v : Value) (l : List Int) (h : anyBytes w v l) : (convert 23 9 v).run Tryd.prog w = .ok (.string (strOf l)) w :=
  run_convert_any (P := Tryd.prog) w 23 9 5 v l Tryd.underlying23 Tryd.underlying5 Tryd.underlying9 h
set_option maxRecDepth 100000 in
theorem pre_any (kind : Int) (n : Nat) (v : Value) (ps : Nat → List Int) (w : World) (hp : anyParts w v n ps) (hs : ∀ i, i ≤ n → 1 + (flatTo (blobsB ps) i).length ≤ 1000000000000) :
    Calls Tryd.prog 88 #[.int .i64 kind, v] w fun e w' => ∃ v', e = .returned v' ∧ newBytes w' w.heap.size v' (preB kind n ps) ∧ Below w.heap.size w w' := by
  have hb0 : Below w.heap.size w (w.alloc (.cells #[.int .u8 (kind % 256)] 5)) := (Below.refl _ _).alloc (Nat.le_refl _) _
  have hk : 0 ≤ kind % 256 ∧ kind % 256 ≤ 255 := by omega
  have h1 : isBytes (w.alloc (.cells #[.int .u8 (kind % 256)] 5)) (.slice (some ⟨w.heap.size, 0, none⟩) 1 1) [kind % 256] :=
    Or.inr ⟨w.heap.size, 0, 1, rfl, by simp, by unfold maxLen; omega, by simp, fun i hi => by
      obtain rfl : i = 0 := by simpa using hi
      exact one_cell w _ _, fun i => by
      match i with
      | 0 => exact hk
      | _ + 1 => exact ⟨by simp, by simp⟩⟩
  have X := blob_any' [kind % 256] _ v n ps _ h1 (hp.below hb0 (Nat.le_refl _)) (fun i hi => by have := hs i hi; simp; omega)
  obtain ⟨a, cap, rfl, _, _⟩ := hp.open
  go_enter Tryd.func88, Tryd.ntmps88
  go_wp2_with fail
  refine X.mono ?_
  rintro e w1 ⟨v1, rfl, hn1, hb1⟩
  go_wp2
  go_ret
  exact ⟨_, rfl, hn1.mono (by simp), hb0.trans (hb1.mono (by simp))⟩

/-- A BOOK in block k, all its memory in F. -/
def bookAt (w : World) (F : Nat → Prop) (k : Nat) (N : List Nt) (c : Int) : Prop :=
  F k ∧ (∀ j, F j → j < w.heap.size) ∧ ∃ pv, w.rowIs k 65 1 (fun _ => pv) ∧
    ((pv = .pointer none ∧ N = [] ∧ c = 0) ∨ ∃ nb, pv = .pointer (some ⟨nb, 0, none⟩) ∧ nb ≠ k ∧ notesAt w (fun j => F j ∧ j ≠ k) nb N c)
theorem bookAt.far {w w' : World} {F : Nat → Prop} {k : Nat} {N : List Nt} {c : Int} (h : bookAt w F k N c) (hb : ∀ j, F j → j < w.heap.size → w'.heap[j]? = w.heap[j]?) (hs : w.heap.size ≤ w'.heap.size) : bookAt w' F k N c := by
  obtain ⟨h1, h2, pv, h3, h4⟩ := h
  refine ⟨h1, fun j hj => Nat.lt_of_lt_of_le (h2 j hj) hs, pv, h3.of_block (hb k h1 (h2 k h1)), ?_⟩
  rcases h4 with h4 | ⟨nb, a1, a2, a3⟩
  · exact Or.inl h4
  · exact Or.inr ⟨nb, a1, a2, a3.far (fun j hj hl => hb j hj.1 hl) hs⟩
theorem bookAt.below {w w' : World} {F : Nat → Prop} {k B : Nat} {N : List Nt} {c : Int} (h : bookAt w F k N c) (hb : Below B w w') (hB : w.heap.size ≤ B) : bookAt w' F k N c :=
  h.far (fun j _ hj => hb.block j (Nat.lt_of_lt_of_le hj hB)) hb.size
theorem notesAt.grow {w : World} {F G : Nat → Prop} {nb : Nat} {N : List Nt} {c : Int} (h : notesAt w F nb N c) (hG : ∀ k, F k → G k) (hl : ∀ k, G k → k < w.heap.size) : notesAt w G nb N c := by
  obtain ⟨lv, mv, h1, h2, h3, h4, h5, h6⟩ := h
  exact ⟨lv, mv, h1, hG _ h2, h3.far (fun _ _ _ => rfl) hG, h4.far (fun _ _ _ => rfl) hG, h5, hl⟩
theorem bookAt.grow {w : World} {F G : Nat → Prop} {k : Nat} {N : List Nt} {c : Int} (h : bookAt w F k N c) (hG : ∀ k, F k → G k) (hl : ∀ k, G k → k < w.heap.size) : bookAt w G k N c := by
  obtain ⟨h1, h2, pv, h3, h4⟩ := h
  refine ⟨hG _ h1, hl, pv, h3, ?_⟩
  rcases h4 with h4 | ⟨nb, a1, a2, a3⟩
  · exact Or.inl h4
  · exact Or.inr ⟨nb, a1, a2, a3.grow (fun j hj => ⟨hG j hj.1, hj.2⟩) (fun j hj => hl j hj.1)⟩
/-- a new book. -/
theorem bookAt.new (w : World) (W : World) (k : Nat) (hW : W.rowIs k 65 1 (fun _ => .pointer none)) : bookAt W (fun j => j = k) k [] 0 :=
  ⟨rfl, fun j hj => hj ▸ hW.lt, .pointer none, hW, Or.inl ⟨rfl, rfl, rfl⟩⟩

theorem zero_notes : ∀ w : World, (Instr.build 105 #[]).run Tryd.prog w = .ok (.agg (rowV 3 (notesV (.slice none 0 0) (.map none) 0))) w := fun w => by kernel_rfl

theorem exec_build2 {P : Program} {o : Oper} {ev : Operand → Value} {w : World} {v : Value} (t : TypeId) (i j : Nat) (x y : Operand) (a b : Value) (ho : o.op = .build t #[(i, x), (j, y)]) (hx : ev x = a) (hy : ev y = b)
    (hr : (Instr.build t #[(i, a), (j, b)]).run P w = .ok v w) : (execOp ev o).run P w = .ok (.value v) w := by
  unfold execOp
  simp only [ho, List.map_toArray, List.map_cons, List.map_nil, hx, hy, Sem.run_bind, hr, Result.andThen_ok, Sem.run_pure]
theorem isBytes.far' {w w' : World} {v : Value} {l : List Int} (h : isBytes w v l) (hb : 0 < l.length → ∀ k, v.ownBlock = some k → w'.heap[k]? = w.heap[k]?) (hs : w.heap.size ≤ w'.heap.size) : isBytes w' v l := by
  rcases h with h | ⟨pb, po, cap, rfl, h2, h3, h4, h6, h7⟩
  · exact Or.inl h
  · exact Or.inr ⟨pb, po, cap, rfl, h2, h3, by omega, fun i hi => by rw [World.cell?_of_block (w := w) (hb (by omega) pb rfl)]; exact h6 i hi, h7⟩
/-- behind the test of the notes. -/
def midN (w : World) (F : Nat → Prop) (k : Nat) (N : List Nt) (c : Int) (q : List Int) (wx : World) : Prop :=
  ∃ (nb : Nat) (G : Nat → Prop), wx.rowIs k 65 1 (fun _ => .pointer (some ⟨nb, 0, none⟩)) ∧ notesAt wx G nb N c ∧ (∀ j, G j → (F j ∧ j ≠ k) ∨ (w.heap.size < j ∧ j < wx.heap.size)) ∧ Fr F w wx ∧ wx.rowIs w.heap.size 32 32 (arrV q)
theorem build_note2 (q : List Int) (t : ByteArray) (w : World) : (Instr.build 107 #[(0, .agg (rowV 32 (arrV q))), (1, .string t)]).run Tryd.prog w = .ok (.agg (rowV 33 (noteV (q, t)))) w := by
  show (_ : Result Value) = _
  kernel_rfl
set_option maxHeartbeats 1000000 in
set_option maxRecDepth 100000 in
theorem note_any' (F : Nat → Prop) (k : Nat) (N : List Nt) (c : Int) (q l : List Int) (v : Value) (w : World) (h : bookAt w F k N c) (hq : isSum q) (hv : anyBytes w v l) (hvF : 0 < l.length → ∀ j, v.ownBlock = some j → ¬ F j) (hN : N.length < 1000000) :
    Calls Tryd.prog 90 #[.pointer (some ⟨k, 0, none⟩), sumV q, v] w fun e w' => e = .returned (.tuple #[]) ∧ bookAt w' (Gr F w w') k (addN N (q, strOf l)) c ∧ Fr F w w' := by
  obtain ⟨hF, hlt, pv, hpv, hcase⟩ := h
  have hk := hlt k hF
  have b1 : Below w.heap.size w (w.alloc (.cells (rowV 32 (arrV q)) 32)) := (Below.refl _ _).alloc (Nat.le_refl _) _
  have rq : (w.alloc (.cells (rowV 32 (arrV q)) 32)).rowIs w.heap.size 32 32 (arrV q) := rowIs_box w _ _ _
  have r1 : (w.alloc (.cells (rowV 32 (arrV q)) 32)).rowIs k 65 1 (fun _ => pv) := b1.row hpv hk
  have c1 : (w.alloc (.cells (rowV 32 (arrV q)) 32)).cell? ⟨k, 0, none⟩ = some pv := r1.cell (i := 0) (by omega)
  have s1 : (w.alloc (.cells (rowV 32 (arrV q)) 32)).heap.size = w.heap.size + 1 := by simp
  have hbu := zero_notes
  obtain ⟨va, vc, rfl, _⟩ := hv.slice
  have HV : Hid _ := hv
  have HVF : Hid _ := hvF
  have HLT : Hid _ := hlt
  clear hv hvF hlt
  unfold sumV
  obtain ⟨bn, hbn, hbg, hbi⟩ : ∃ bn : Bool, (∀ wz : World, (binOp .eql 63 pv (.pointer none)).run Tryd.prog wz = .ok (.bool bn) wz) ∧ (∀ wz : World, (eqGuard .eql 63 (.tmp 11) (.const (.pointer none)) pv (.pointer none)).run Tryd.prog wz = .ok () wz) ∧ (bn = true ↔ pv = .pointer none) := by
    rcases hcase with ⟨rfl, _⟩ | ⟨nb, rfl, _⟩
    · exact ⟨true, fun wz => by kernel_rfl, fun wz => by kernel_rfl, by simp⟩
    · exact ⟨false, fun wz => by kernel_rfl, fun wz => by kernel_rfl, by simp⟩
  go_enter Tryd.func90, Tryd.ntmps90
  go_upto_if 12 with fail
  go_cut [4] (fun t wx => t = .pointer (some ⟨w.heap.size, 0, none⟩) ∧ midN w F k N c q wx)
  case first =>
    rcases hcase with ⟨rfl, rfl, rfl⟩ | ⟨nb, rfl, hnk, hnn⟩
    · obtain rfl : bn = true := hbi.2 rfl
      have r2 : ((w.alloc (.cells (rowV 32 (arrV q)) 32)).alloc (.cells #[.slice none 0 0, .map none, .int .i64 0] 105)).rowIs k 65 1 (fun _ => .pointer none) := World.rowIs.alloc r1 _
      have z2 := World.rowIs.frozen r2 0
      have c2 : ((w.alloc (.cells (rowV 32 (arrV q)) 32)).alloc (.cells #[.slice none 0 0, .map none, .int .i64 0] 105)).cell? ⟨k, 0, none⟩ = some (.pointer none) := r2.cell (i := 0) (by omega)
      have sz : (w.setCell ⟨k, 0, none⟩ (.pointer (some ⟨w.heap.size + 1, 0, none⟩))).heap.size = w.heap.size := nblk_setCell _ _ _
      have sz2 : ((w.setCell ⟨k, 0, none⟩ (.pointer (some ⟨w.heap.size + 1, 0, none⟩))).alloc (.cells (rowV 32 (arrV q)) 32)).heap.size = w.heap.size + 1 := by simp [nblk_setCell]
      have MID : Hid (midN w F k [] 0 q (((w.setCell ⟨k, 0, none⟩ (.pointer (some ⟨w.heap.size + 1, 0, none⟩))).alloc (.cells (rowV 32 (arrV q)) 32)).alloc (.cells #[.slice none 0 0, .map none, .int .i64 0] 105))) := (show midN w F k [] 0 q (((w.setCell ⟨k, 0, none⟩ (.pointer (some ⟨w.heap.size + 1, 0, none⟩))).alloc (.cells (rowV 32 (arrV q)) 32)).alloc (.cells #[.slice none 0 0, .map none, .int .i64 0] 105)) from by
        refine ⟨w.heap.size + 1, fun j => j = w.heap.size + 1, World.rowIs.alloc (World.rowIs.alloc ((World.rowIs.set hpv 0 _).congr (fun i hi => by
          have : i = 0 := by omega
          simp [this])) _) _, ⟨.slice none 0 0, .map none, ?_, rfl, listAt_nil _ _, Or.inl ⟨rfl, rfl⟩, fun x hx => by simp at hx, fun j hj => by rw [hj]; simp [nblk_setCell]⟩, fun j hj => Or.inr ⟨by omega, by rw [hj]; simp [nblk_setCell]⟩, ?_, ?_⟩
        · have := rowIs_new ((w.setCell ⟨k, 0, none⟩ (.pointer (some ⟨w.heap.size + 1, 0, none⟩))).alloc (.cells (rowV 32 (arrV q)) 32)) #[.slice none 0 0, .map none, .int .i64 0] 105 3 (notesV (.slice none 0 0) (.map none) 0) rfl (fun i hi => by
            match i, hi with
            | 0, _ => rfl
            | 1, _ => rfl
            | 2, _ => rfl)
          rw [sz2] at this; exact this
        · exact (((Fr.refl F w).setCell (Or.inl hF) _).alloc _).alloc _
        · have := rowIs_box (w.setCell ⟨k, 0, none⟩ (.pointer (some ⟨w.heap.size + 1, 0, none⟩))) 32 32 (arrV q)
          rw [sz] at this
          exact World.rowIs.alloc this _)
      clear r1 r2 rq b1 hpv hbu
      go_wp2_with fail
      go_meet
      case rel => exact ⟨rfl, MID.out⟩
    · obtain rfl : bn = false := by
        cases bn with
        | false => rfl
        | true => exact absurd (hbi.1 rfl) (by simp)
      have MID : Hid (midN w F k N c q (w.alloc (.cells (rowV 32 (arrV q)) 32))) := (show midN w F k N c q (w.alloc (.cells (rowV 32 (arrV q)) 32)) from ⟨nb, fun j => F j ∧ j ≠ k, r1, hnn.below b1 (Nat.le_refl _), fun j hj => Or.inl hj, Fr.of_below F b1, rq⟩)
      clear r1 rq b1 hpv hbu hnn
      go_wp2_with fail
      go_meet
      case rel => exact ⟨rfl, MID.out⟩
  case rest =>
    obtain ⟨rfl, hmid⟩ := hcut
    clear r1 rq b1 hpv hbu c1 s1 hcase hbn hbg hbi
    obtain ⟨wR, hwR⟩ : ∃ wR, wR = wc := ⟨_, rfl⟩
    subst hwR
    obtain ⟨nb, G, m1, m2, m3, m4, m5⟩ := hmid
    go_upto_region 4 with fail
    have hkR : k < wR.heap.size := Nat.lt_of_lt_of_le hk m4.size
    have hqR : w.heap.size < wR.heap.size := m5.lt
    have hGk : ¬ G k := fun g => by
      rcases m3 k g with h | h
      · exact h.2 rfl
      · omega
    have hGq : ¬ G w.heap.size := fun g => by
      rcases m3 _ g with h | h
      · have := HLT.out _ h.1; omega
      · omega
    have k0 : wR.cell? ⟨k, 0, none⟩ = some (.pointer (some ⟨nb, 0, none⟩)) := m1.cell (i := 0) (by omega)
    have k1 : ∀ i, i < 32 → wR.cell? ⟨w.heap.size, 0 + i, none⟩ = some (arrV q i) := fun i hi => by rw [Nat.zero_add]; exact m5.cell hi
    have kv : anyBytes wR (.slice va l.length vc) l := by
      rcases HV.out with h | h
      · exact Or.inl (h.far' (fun hl j hj => m4.block j (h.block j hj) (HVF.out hl j hj)) m4.size)
      · exact Or.inr h
    have hcvv := convA wR.drew _ _ kv
    have KX := add_note G nb N c (q, strOf l) wR.drew m2.drew hq hN
    have XX : Hid _ := KX
    have M1 : Hid _ := m1
    have M3 : Hid _ := m3
    have M4 : Hid _ := m4
    have M5 : Hid _ := m5
    clear KX m1 m2 m3 m4 m5
    refine wp_region_noPanic ?_
    refine wp_region_held_drew (S := fun w' => w'.cell? ⟨k, 0, none⟩ = some (.pointer (some ⟨nb, 0, none⟩)) ∧ (∀ i, i < 32 → w'.cell? ⟨w.heap.size, 0 + i, none⟩ = some (arrV q i)) ∧ (convert 23 9 (.slice va l.length vc)).run Tryd.prog w' = .ok (.string (strOf l)) w') (by kernel_rfl) ⟨k0, k1, hcvv⟩ (fun hHeld => ?_)
    refine take_op (i := 0) (v := ?vz0) rfl (by kernel_rfl) (by kernel_rfl) (by kernel_rfl) (fun _ _ _ h => h) rfl hHeld ?yz0 ?rz0
    case yz0 => (intro wz hz; go_simp; first | done | with_reducible rfl)
    try simp only [Act.put, List.setIfInBounds_toArray, List.set_cons_zero, List.set_cons_succ]
    refine take_op (i := 1) (v := ?vz1) rfl (by kernel_rfl) (by kernel_rfl) (by kernel_rfl) (fun _ _ _ h => h) rfl hHeld ?yz1 ?rz1
    case yz1 => (intro wz hz; go_simp; first | done | with_reducible rfl)
    try simp only [Act.put, List.setIfInBounds_toArray, List.set_cons_zero, List.set_cons_succ]
    refine take_op (i := 2) (v := ?vz2) rfl (by kernel_rfl) (by kernel_rfl) (by kernel_rfl) (fun _ _ _ h => h) rfl hHeld ?yz2 ?rz2
    case yz2 => (intro wz hz; go_simp; first | done | with_reducible rfl)
    try simp only [Act.put, List.setIfInBounds_toArray, List.set_cons_zero, List.set_cons_succ]
    refine take_op (i := 3) (v := ?vz3) rfl (by kernel_rfl) (by kernel_rfl) (by kernel_rfl) (fun _ _ _ h => h) rfl hHeld ?yz3 ?rz3
    case yz3 => (intro wz hz; have hcz := hz.1; go_simp; first | done | with_reducible rfl)
    try simp only [Act.put, List.setIfInBounds_toArray, List.set_cons_zero, List.set_cons_succ]
    refine take_load (i := 4) rfl (by kernel_rfl) (by kernel_rfl) (by kernel_rfl) 32 _ rfl w.heap.size 0 32 (arrV q) rfl _ Tryd.underlying32 rfl (by kernel_rfl) (fun _ _ _ h => h) rfl hHeld (fun wz hz => hz.2.1) ?_
    try simp only [Act.put, List.setIfInBounds_toArray, List.set_cons_zero, List.set_cons_succ]
    refine take_op (i := 5) (v := ?vz5) rfl (by kernel_rfl) (by kernel_rfl) (by kernel_rfl) (fun _ _ _ h => h) rfl hHeld ?yz5 ?rz5
    case yz5 => (intro wz hz; go_simp; first | done | with_reducible rfl)
    try simp only [Act.put, List.setIfInBounds_toArray, List.set_cons_zero, List.set_cons_succ]
    refine take_op (i := 6) (v := ?vz6) rfl (by kernel_rfl) (by kernel_rfl) (by kernel_rfl) (fun _ _ _ h => h) rfl hHeld ?yz6 ?rz6
    case yz6 => (intro wz hz; have hcz := hz.2.2; go_simp; first | done | with_reducible rfl)
    try simp only [Act.put, List.setIfInBounds_toArray, List.set_cons_zero, List.set_cons_succ]
    refine take_op (i := 7) (v := .agg (rowV 33 (noteV (q, strOf l)))) rfl (by kernel_rfl) (by kernel_rfl) (by kernel_rfl) (fun _ _ _ h => h) rfl hHeld (fun wz hz => exec_build2 107 0 1 _ _ (.agg (rowV 32 (arrV q))) (.string (strOf l)) rfl (by kernel_rfl) (by kernel_rfl) (build_note2 q (strOf l) wz)) ?_
    try simp only [Act.put, List.setIfInBounds_toArray, List.set_cons_zero, List.set_cons_succ]
    refine take_one (i := 8) rfl (by kernel_rfl) rfl (fun K hK => ?_)
    go_simp
    refine Calls.mono XX.out ?_
    rintro e w9 ⟨rfl, hn9, hf9⟩
    have kv9 : anyBytes w9 (.slice va l.length vc) l := by
      rcases HV.out with h | h
      · refine Or.inl (h.far' (fun hl j hj => ?_) (Nat.le_trans M4.out.size hf9.size))
        have hjl := h.block j hj
        exact (hf9.block j (Nat.lt_of_lt_of_le hjl M4.out.size) (fun g => by
          rcases M3.out j g with h2 | h2
          · exact HVF.out hl j hj h2.1
          · omega)).trans (M4.out.block j hjl (HVF.out hl j hj))
      · exact Or.inr h
    refine hK.out _ _ ⟨(World.cell?_of_block (w := wR) (hf9.block k hkR hGk)).trans k0, fun i hi => (World.cell?_of_block (w := wR) (hf9.block _ hqR hGq)).trans (k1 i hi), convA w9 _ _ kv9⟩ (fun hHeld => ?_)
    clear hK K
    try simp only [Act.put, List.setIfInBounds_toArray, List.set_cons_zero, List.set_cons_succ]
    refine wpAnyH_done (by kernel_rfl) ?_ _
    refine NoPanic.normal ?_
    clear hHeld
    have HN9 : Hid _ := hn9
    have HF9 : Hid _ := hf9
    clear hn9 hf9
    go_wp2
    go_end0
    have hs9 := HF9.out.size
    have hs9' : wR.heap.size ≤ w9.heap.size := hs9
    have hsR := M4.out.size
    refine ⟨rfl, ⟨Or.inl hF, fun j hj => ?_, _, World.rowIs.of_block M1.out (HF9.out.block k hkR hGk), Or.inr ⟨nb, rfl, ?_, notesAt.grow HN9.out (fun j hj => ?_) (fun j hj => ?_)⟩⟩, ?_⟩
    · rcases hj with h | h
      · have := HLT.out j h; omega
      · exact h.2
    · rintro rfl
      obtain ⟨_, _, r, _⟩ := HN9.out
      have := rowIs_block r
      rw [rowIs_block (World.rowIs.of_block M1.out (HF9.out.block nb hkR hGk))] at this
      injection this with this
      injection this with _ h2
      exact absurd h2 (by decide)
    · rcases hj with h | h
      · rcases M3.out j h with h2 | h2
        · exact ⟨Or.inl h2.1, h2.2⟩
        · exact ⟨Or.inr ⟨by omega, by omega⟩, by omega⟩
      · have h1 : wR.heap.size ≤ j := h.1
        exact ⟨Or.inr ⟨by omega, h.2⟩, by omega⟩
    · rcases hj.1 with h | h
      · have := HLT.out j h; omega
      · exact h.2
    · exact Fr.trans M4.out (G := G) ⟨HF9.out.os, HF9.out.tape, HF9.out.output, hs9, HF9.out.block⟩ (fun j hj g => by
        rcases M3.out j g with h | h
        · exact h.1
        · omega)
theorem note_any (F : Nat → Prop) (k : Nat) (N : List Nt) (c : Int) (q l : List Int) (v : Value) (w : World) (h : bookAt w F k N c) (hq : isSum q) (hv : anyBytes w v l) (hvF : ∀ j, v.ownBlock = some j → ¬ F j) (hN : N.length < 1000000) :
    Calls Tryd.prog 90 #[.pointer (some ⟨k, 0, none⟩), sumV q, v] w fun e w' => e = .returned (.tuple #[]) ∧ bookAt w' (Gr F w w') k (addN N (q, strOf l)) c ∧ Fr F w w' :=
  note_any' F k N c q l v w h hq hv (fun _ => hvF) hN
end Go.Proofs.YtkgegihkhdgdoaaDoor

/- Books: Of. -/
namespace Go.Proofs.YtkgegihkhdgdoaaDoor
set_option linter.unusedSimpArgs false
set_option linter.unusedVariables false
open Go.RowKit Go.Deep

theorem sumI_byte' {l : List Int} (i : Nat) : 0 ≤ sumI l i ∧ sumI l i ≤ 255 := by unfold sumI sumByte; omega
/-- a sum's bytes. -/
def sumL (l : List Int) : List Int := (List.range 32).map (sumI l)
theorem sumL_getD (l : List Int) (i : Nat) (h : i < 32) : (sumL l).getD i 0 = sumI l i := by
  rw [sumL, List.getD_eq_getElem?_getD, List.getElem?_map, List.getElem?_range h]; rfl
theorem sumL_is (l : List Int) : isSum (sumL l) := ⟨by simp [sumL], fun i => by
  by_cases h : i < 32
  · rw [sumL_getD l i h]; exact sumI_byte' i
  · rw [List.getD_eq_getElem?_getD, List.getElem?_eq_none (by simp [sumL]; omega)]; exact ⟨by simp, by simp⟩⟩
theorem sumL_row (l : List Int) : rowV 32 (fun i => .int .u8 (sumI l i)) = rowV 32 (arrV (sumL l)) := rowV_congr fun i hi => by rw [arrV, sumL_getD l i hi]
theorem addN_ne (N : List Nt) (x : Nt) : addN N x ≠ [] := by
  by_cases h : x ∈ N
  · rw [addN_in h]; intro e; rw [e] at h; simp at h
  · rw [addN_out h]; simp
theorem addN_len (N : List Nt) (x : Nt) : (addN N x).length ≤ N.length + 1 := by
  by_cases h : x ∈ N
  · rw [addN_in h]; omega
  · rw [addN_out h]; simp
/-- sha.Sum(b). -/
theorem sum_one (l : List Int) (v : Value) (B : Nat) (w : World) (h : newBytes w B v l) (hl : l.length < 1000000000) (ht : tabIs w) :
    Calls Tryd.prog 89 #[.slice (some ⟨w.heap.size, 0, none⟩) 1 1] (w.alloc (.cells #[v] 23)) fun e w' => e = .returned (.agg (rowV 32 (arrV (sumL l)))) ∧ Below w.heap.size w w' := by
  have hb0 : Below w.heap.size w (w.alloc (.cells #[v] 23)) := (Below.refl _ _).alloc (Nat.le_refl _) _
  have hp : isParts (w.alloc (.cells #[v] 23)) (.slice (some ⟨w.heap.size, 0, none⟩) 1 1) 1 (fun _ => l) := Or.inr ⟨w.heap.size, 0, 1, fun _ => v, rfl, by simp, by unfold maxLen; omega, fun i hi => by
    obtain rfl : i = 0 := by omega
    exact ⟨one_cell w _ _, Or.inl (h.is.below hb0 (Nat.le_refl _))⟩⟩
  refine (shaSum_any 1 _ (fun _ => l) _ hp (fun i hi => ?_) (ht.below hb0 ht.1)).mono ?_
  · have : i = 0 ∨ i = 1 := by omega
    rcases this with rfl | rfl
    · simp [flatTo]
    · simp [flatTo]; omega
  · rintro e w' ⟨rfl, hb⟩
    refine ⟨?_, hb0.trans (hb.mono (by simp))⟩
    rw [sumL_row]; rfl
theorem hi32' : (Tryd.prog.info? 32).map (·.size) = some 32 := by kernel_rfl
theorem notesAt.count {w : World} {F : Nat → Prop} {nb : Nat} {N : List Nt} {c : Int} (h : notesAt w F nb N c) (c' : Int) : notesAt (w.setCell ⟨nb, 2, none⟩ (.int .i64 c')) F nb N c' := by
  obtain ⟨lv, mv, h1, h2, h3, h4, h5, h6⟩ := h
  refine ⟨lv, mv, (World.rowIs.set h1 2 _).congr fun i hi => ?_, h2, h3.own fun k cur _ hc => blk_setCell_other _ _ _ _ ?_, h4.own fun k es cl _ hc => blk_setCell_other _ _ _ _ ?_, h5, fun k hk => by rw [nblk_setCell]; exact h6 k hk⟩
  · simp only [notesV]
    have : i = 0 ∨ i = 1 ∨ i = 2 := by omega
    rcases this with rfl | rfl | rfl <;> simp
  · rintro rfl
    have := rowIs_block h1
    rw [hc] at this
    injection this with this
    injection this with _ h2
    exact absurd h2 (by decide)
  · rintro rfl
    have := rowIs_block h1
    rw [hc] at this; cases this
set_option maxHeartbeats 1000000 in
set_option maxRecDepth 100000 in
theorem of_any (F : Nat → Prop) (k : Nat) (N : List Nt) (c kind : Int) (n : Nat) (v : Value) (ps : Nat → List Int) (w : World) (h : bookAt w F k N c) (hp : anyParts w v n ps) (hs : ∀ i, i ≤ n → 1 + (flatTo (blobsB ps) i).length ≤ 100000000) (ht : tabIs w) (hF0 : ¬ F 1) (hN : N.length < 1000000) (hc : 0 ≤ c ∧ c < 1000000000) :
    Calls Tryd.prog 69 #[.pointer (some ⟨k, 0, none⟩), .int .i64 kind, v] w fun e w' => e = .returned (sumV (sumL (preB kind n ps))) ∧ bookAt w' (Gr F w w') k (addN N (sumL (preB kind n ps), strOf (preB kind n ps))) (c + 1) ∧ Fr F w w' := by
  have hlt := h.2.1
  have HLT : Hid _ := hlt
  have HBK : Hid _ := h
  have hk0 := hlt k h.1
  have ht0 := ht.1
  obtain ⟨pl, hpl⟩ : ∃ pl, pl = preB kind n ps := ⟨_, rfl⟩
  have hpll : pl.length ≤ 100000000 := by
    rw [hpl, preB, List.length_append]; have := hs n (Nat.le_refl _); simp; omega
  have r0 := rowIs_zero w (Array.replicate 32 (.int .u8 0)) 32 32 (.int .u8 0) rfl
  have hb0 : Below w.heap.size w (w.alloc (.cells (Array.replicate 32 (.int .u8 0)) 32)) := (Below.refl w.heap.size w).alloc (Nat.le_refl _) _
  have hs0 : (w.alloc (.cells (Array.replicate 32 (.int .u8 0)) 32)).heap.size = w.heap.size + 1 := by simp
  have X := pre_any kind n v ps _ (hp.below hb0 (Nat.le_refl _)) (fun i hi => by have := hs i hi; omega)
  rw [← hpl] at X ⊢
  clear hpl
  obtain ⟨a, cap, rfl, _, _⟩ := hp.open
  clear h hlt hp hs
  go_enter Tryd.func69, Tryd.ntmps69
  go_wp2_with fail
  refine X.mono ?_
  rintro e w1 ⟨v1, rfl, hn1, hb1⟩
  have hb1' : Below (w.alloc (.cells (Array.replicate 32 (.int .u8 0)) 32)).heap.size (w.alloc (.cells (Array.replicate 32 (.int .u8 0)) 32)) w1 := hb1
  have hn1' : newBytes w1 (w.alloc (.cells (Array.replicate 32 (.int .u8 0)) 32)).heap.size v1 pl := hn1
  rw [hs0] at hb1' hn1'
  have hB1 : Below w.heap.size w w1 := hb0.trans (hb1'.mono (by omega))
  have r1 : w1.rowIs w.heap.size 32 32 (fun _ => .int .u8 0) := hb1'.row r0 (by omega)
  have hs1 : w.heap.size + 1 ≤ w1.heap.size := by have := hb1'.size; omega
  obtain ⟨va, vc, rfl, _⟩ := hn1'.is.slice
  have Y := sum_one pl _ _ w1 hn1' (by omega) (ht.below hB1 ht0)
  clear X hb1 hn1 hb0 r0 hs0 hb1'
  go_wp2_with fail
  refine Y.mono ?_
  rintro e w3 ⟨rfl, hb3⟩
  have hs3 := hb3.size
  have r3 := hb3.row r1 (by omega)
  have hB3 : Below w.heap.size w w3 := hB1.trans (hb3.mono (by omega))
  have hn3 := hn1'.below hb3 (Nat.le_refl _)
  have r4 := rowIs_zero w3 (Array.replicate 32 (.int .u8 0)) 32 32 (.int .u8 0) rfl
  have hs4 : (w3.alloc (.cells (Array.replicate 32 (.int .u8 0)) 32)).heap.size = w3.heap.size + 1 := by simp
  have hb4 : Below w3.heap.size w3 (w3.alloc (.cells (Array.replicate 32 (.int .u8 0)) 32)) := (Below.refl _ _).alloc (Nat.le_refl _) _
  clear Y hb3 r1 hB1 hn1'
  go_upto_if 16 with (first | (refine wpList_store_row rfl 32 (.tmp 8) (.tmp 14) rfl rfl w3.heap.size 0 32 (arrV (sumL pl)) rfl rfl hi32' (fun _ _ => rfl) _ _ _ r4 (by omega) ?_; intro w5 r5 hz5 hb5))
  have hz5' : w5.heap.size = w3.heap.size + 1 := hz5.trans hs4
  have hb5' : But (w3.heap.size + 1) w3.heap.size (w3.alloc (.cells (Array.replicate 32 (.int .u8 0)) 32)) w5 := hs4 ▸ hb5
  have hB35 : Below w3.heap.size w3 w5 := hb4.trans ((hb5'.mono (by omega)).below (Nat.le_refl _))
  have hB5 : Below w.heap.size w w5 := hB3.trans (hB35.mono (by omega))
  have r5' : w5.rowIs w3.heap.size 32 32 (arrV (sumL pl)) := r5.congr fun i hi => by rw [if_pos (by omega), Nat.sub_zero]
  have r5w := hB35.row r3 (by omega)
  have hv5 := hn3.below hB35 (Nat.le_refl _)
  have Z := note_any F k N c (sumL pl) pl (.slice va pl.length vc) w5 (bookAt.below HBK.out hB5 (Nat.le_refl _)) (sumL_is pl) (Or.inl hv5.is) (fun j hj hf => by
    have h1 := HLT.out j hf
    have h2 := hv5.block j hj
    omega) hN
  unfold sumV at Z
  have R5 : Hid _ := r5'
  have ld5 : ∀ i, i < 32 → w5.cell? ⟨w3.heap.size, 0 + i, none⟩ = some (arrV (sumL pl) i) := fun i hi => by rw [Nat.zero_add]; exact r5'.cell hi
  have LD5 : Hid _ := ld5
  clear ld5
  have R5W : Hid _ := r5w
  have HB5 : Hid _ := hB5
  clear r5 r5' r5w hB35 hb5 hb5' hz5 hb4 hs4 r4 r3 hn3 hv5 hB5 hB3
  go_wp2_with (first | (refine wpList_load_seg rfl 32 (.tmp 8) rfl w3.heap.size 0 32 (arrV (sumL pl)) rfl _ Tryd.underlying32 rfl hi32' LD5.out ?_))
  refine Z.mono ?_
  rintro e w6 ⟨rfl, hbk6, hf6⟩
  clear Z
  have hs6 := hf6.size
  have hbk6' := hbk6
  obtain ⟨hF6, hlt6, pv, hpv6, ⟨_, hnil, _⟩ | ⟨nb, rfl, hnk, hnn⟩⟩ := hbk6
  · exact absurd hnil (addN_ne _ _)
  obtain ⟨lv, mv, rn, hFn, _⟩ := hnn
  have hnbw : nb < w.heap.size ∨ w5.heap.size ≤ nb := by
    rcases hFn.1 with h | h
    · exact Or.inl (HLT.out nb h)
    · exact Or.inr h.1
  have hF3 : ¬ F w3.heap.size := fun f => by have := HLT.out _ f; omega
  have hFw : ¬ F w.heap.size := fun f => by have := HLT.out _ f; omega
  have c0 : w6.cell? ⟨k, 0, none⟩ = some (.pointer (some ⟨nb, 0, none⟩)) := hpv6.cell (i := 0) (by omega)
  have c2 : w6.cell? ⟨nb, 2, none⟩ = some (.int .i64 c) := rn.cell (i := 2) (by omega)
  have z2 := World.rowIs.frozen rn 2
  have q1 : (0 : Int) ≤ c := hc.1
  have q2 : c < 1000000000 := hc.2
  have rs6 : w6.rowIs w3.heap.size 32 32 (arrV (sumL pl)) := World.rowIs.of_block R5.out (hf6.block _ (by omega) hF3)
  have rw6 : w6.rowIs w.heap.size 32 32 (fun _ => .int .u8 0) := World.rowIs.of_block R5W.out (hf6.block _ (by omega) hFw)
  have rs7 : (w6.setCell ⟨nb, 2, none⟩ (.int .i64 (c + 1))).rowIs w3.heap.size 32 32 (arrV (sumL pl)) := World.rowIs.setOther rs6 (show w3.heap.size ≠ nb by omega) _
  have rw7 : (w6.setCell ⟨nb, 2, none⟩ (.int .i64 (c + 1))).rowIs w.heap.size 32 32 (fun _ => .int .u8 0) := World.rowIs.setOther rw6 (show w.heap.size ≠ nb by omega) _
  have BK7 : Hid (bookAt (w6.setCell ⟨nb, 2, none⟩ (.int .i64 (c + 1))) (Gr F w5 w6) k (addN N (sumL pl, strOf pl)) (c + 1)) := (show bookAt (w6.setCell ⟨nb, 2, none⟩ (.int .i64 (c + 1))) (Gr F w5 w6) k (addN N (sumL pl, strOf pl)) (c + 1) from by
    obtain ⟨_, _, pv', hpv', h4⟩ := hbk6'
    have hpe : pv' = .pointer (some ⟨nb, 0, none⟩) := by
      have a := hpv'.cell (i := 0) (by omega)
      rw [c0] at a; exact (Option.some.inj a).symm
    subst hpe
    refine ⟨hF6, fun j hj => by rw [nblk_setCell]; exact hlt6 j hj, _, World.rowIs.setOther hpv' hnk.symm _, Or.inr ⟨nb, rfl, hnk, ?_⟩⟩
    rcases h4 with ⟨h, _⟩ | ⟨nb', h, _, hnn'⟩
    · cases h
    · obtain rfl : nb = nb' := by injection h with h; injection h with h; injection h
      exact hnn'.count (c + 1))
  have FR7 : Hid (Fr (Gr F w5 w6) w6 (w6.setCell ⟨nb, 2, none⟩ (.int .i64 (c + 1)))) := (show Fr (Gr F w5 w6) w6 (w6.setCell ⟨nb, 2, none⟩ (.int .i64 (c + 1))) from (Fr.refl _ _).setCell (Or.inl hFn.1) _)
  have ld7 : ∀ i, i < 32 → (w6.setCell ⟨nb, 2, none⟩ (.int .i64 (c + 1))).cell? ⟨w3.heap.size, 0 + i, none⟩ = some (arrV (sumL pl) i) := fun i hi => by rw [Nat.zero_add]; exact rs7.cell hi
  have RS7 : Hid _ := ld7
  clear ld7
  have F6 : Hid _ := hf6
  have HL6 : Hid _ := hlt6
  clear hbk6' hpv6 rn rs6 rw6 rs7 hf6 hlt6
  go_wp2_with (first | (refine wpList_load_seg rfl 32 (.tmp 8) rfl w3.heap.size 0 32 (arrV (sumL pl)) rfl _ Tryd.underlying32 rfl hi32' RS7.out ?_) | (refine wpList_store_row rfl 32 (.tmp 6) (.tmp 31) rfl rfl w.heap.size 0 32 (arrV (sumL pl)) rfl rfl hi32' (fun _ _ => rfl) _ _ _ rw7 (by omega) ?_; intro w8 r8 hz8 hb8))
  have hz8' : w8.heap.size = w6.heap.size := by rw [hz8, nblk_setCell]
  have hb8' : But w6.heap.size w.heap.size (w6.setCell ⟨nb, 2, none⟩ (.int .i64 (c + 1))) w8 := by
    have : (w6.setCell ⟨nb, 2, none⟩ (.int .i64 (c + 1))).heap.size = w6.heap.size := nblk_setCell _ _ _
    rw [← this]; exact hb8
  refine bodyPost_ret (results_cell_seg rfl _ _ w.heap.size 32 32 (arrV (sumL pl)) _ rfl Tryd.underlying32 rfl hi32' (r8.congr fun i hi => ?_)) rfl ⟨rfl, ?_, ?_⟩
  · rw [if_pos (by omega), Nat.sub_zero]
  · refine bookAt.grow (bookAt.far BK7.out (fun j hj hl => hb8'.block j (HL6.out j hj) ?_) (by rw [nblk_setCell]; omega)) (fun j hj => ?_) (fun j hj => ?_)
    · rintro rfl
      rcases hj with h | h
      · exact hFw h
      · omega
    · rcases hj with h | h
      · exact Or.inl h
      · exact Or.inr ⟨by omega, by rw [hz8']; exact h.2⟩
    · rcases hj with h | h
      · have := HLT.out j h; omega
      · exact h.2
  · have f1 : Fr F w w5 := Fr.of_below F HB5.out
    have f2 : Fr F w w6 := f1.trans F6.out (fun _ _ h => h)
    have f3 : Fr F w (w6.setCell ⟨nb, 2, none⟩ (.int .i64 (c + 1))) := f2.trans FR7.out (fun j hj h => by
      rcases h with h | h
      · exact h
      · omega)
    refine f3.trans (G := fun j => j = w.heap.size) ⟨hb8.os, hb8.tape, hb8.output, hb8.size, fun j hj hne => hb8.block j hj hne⟩ (fun j hj e => ?_)
    omega
end Go.Proofs.YtkgegihkhdgdoaaDoor

namespace Go.Proofs.YtkgegihkhdgdoaaDoor
open Go.RowKit Go.Deep

/-- a word turned to the right, as the document's answer has it. -/
def turnR (x : Int) (n : Nat) : Int := (x / 2 ^ n + x % 2 ^ n * 2 ^ (32 - n) % 4294967296) % 4294967296
end Go.Proofs.YtkgegihkhdgdoaaDoor

namespace Go.Proofs.YtkgegihkhdgdoaaDoor
open Go.RowKit Go.Deep

/-- a word of bytes, byte by byte. -/
def hornerI (f : Nat → Int) (k : Nat) : Nat → Int
  | 0 => 0
  | j + 1 => (256 * hornerI f k j % 4294967296 + f (4 * k + j) % 4294967296) % 4294967296
end Go.Proofs.YtkgegihkhdgdoaaDoor

/- The document's Ch and Maj are the program's. Plain mathematics. -/
namespace Go.Proofs.YtkgegihkhdgdoaaDoor
set_option linter.unusedSimpArgs false

def bv (x : Int) : BitVec 32 := BitVec.ofInt 32 x
end Go.Proofs.YtkgegihkhdgdoaaDoor

/- The document's Block. -/
namespace Go.Proofs.YtkgegihkhdgdoaaDoor
set_option linter.unusedSimpArgs false
set_option linter.unusedVariables false
open Go.RowKit Go.Deep

/-- eight words as values. -/
def s8L (s : S8) : List Value := [.int .u32 s.a, .int .u32 s.b, .int .u32 s.c, .int .u32 s.d, .int .u32 s.e, .int .u32 s.f, .int .u32 s.g, .int .u32 s.h]
def okW (x : Int) : Prop := 0 ≤ x ∧ x < 4294967296
def okS (s : S8) : Prop := okW s.a ∧ okW s.b ∧ okW s.c ∧ okW s.d ∧ okW s.e ∧ okW s.f ∧ okW s.g ∧ okW s.h
/-- the eight words behind k rounds, and what is read besides. -/
def blkAt (w w3 wr : World) (g2 gk : Nat) (xv : Value) (f : Nat → Int) (s0 : S8) (k : Nat) : Prop :=
  owns wr w.heap.size 152 xv (s8L (rndTo (wAt f 64) s0 k)) ∧ (∀ j, xv.ownBlock = some j → j ≠ g2 ∧ j ≠ gk) ∧ (∀ i, i < 64 → wr.cell? ⟨g2, i, none⟩ = some (.int .u32 (wAt f 64 i))) ∧ (∀ i, i < 64 → wr.cell? ⟨gk, i, none⟩ = some (.int .u32 (kAt i))) ∧ Below w.heap.size w wr ∧ w3.heap.size ≤ wr.heap.size
end Go.Proofs.YtkgegihkhdgdoaaDoor

/- The document's answer: All parts, one behind the other. -/
namespace Go.Proofs.YtkgegihkhdgdoaaDoor
set_option linter.unusedSimpArgs false
set_option linter.unusedVariables false
open Go.RowKit Go.Deep

end Go.Proofs.YtkgegihkhdgdoaaDoor

/- The document's answer: the message of some bytes. -/
namespace Go.Proofs.YtkgegihkhdgdoaaDoor
set_option linter.unusedSimpArgs false
set_option linter.unusedVariables false
open Go.RowKit Go.Deep

/-- the bytes of a number, the lowest k of them, the highest first. -/
def lastI (N : Int) : Nat → List Int
  | 0 => []
  | k + 1 => (N / 256 ^ k % 256) :: lastI N k
def slen : Value → Nat
  | .slice _ n _ => n
  | _ => 0
theorem newBytes.slen {w : World} {B : Nat} {v : Value} {l : List Int} (h : newBytes w B v l) : ∃ a c, v = .slice a l.length c := by
  obtain ⟨a, c, h, _⟩ := h.is.slice; exact ⟨a, c, h⟩
def padTo (l : List Int) (j : Nat) : List Int := l ++ [128] ++ List.replicate j 0
end Go.Proofs.YtkgegihkhdgdoaaDoor

/- The document's SHA-256: Sum. -/
namespace Go.Proofs.YtkgegihkhdgdoaaDoor
set_option linter.unusedSimpArgs false
set_option linter.unusedVariables false
open Go.RowKit Go.Deep

def s8V (v : Nat → Int) : S8 := ⟨v 0, v 1, v 2, v 3, v 4, v 5, v 6, v 7⟩
def wordsL (v : Nat → Int) : List Value := (List.range 8).map fun i => .int .u32 (v i)
section
variable {P : Program}
end
end Go.Proofs.YtkgegihkhdgdoaaDoor

namespace Go.Proofs.YtkgegihkhdgdoaaDoor
open Go.RowKit Go.Deep

theorem szI_is1 (x : Int) : (szI x = 0 ∧ x < 1) ∨ (szI x = 1 ∧ 1 ≤ x ∧ x < 256) ∨ (szI x = 2 ∧ 256 ≤ x ∧ x < 65536) ∨ (szI x = 3 ∧ 65536 ≤ x ∧ x < 16777216) ∨ (szI x = 4 ∧ 16777216 ≤ x ∧ x < 4294967296) ∨ (szI x = 5 ∧ 4294967296 ≤ x ∧ x < 1099511627776) ∨ (szI x = 6 ∧ 1099511627776 ≤ x ∧ x < 281474976710656) ∨ (szI x = 7 ∧ 281474976710656 ≤ x ∧ x < 72057594037927936) ∨ (szI x = 8 ∧ 72057594037927936 ≤ x) := by
  unfold szI
  repeat' split
  all_goals omega
theorem szI_div1 (z : Int) (h0 : 1 ≤ z) (h1 : z < 18446744073709551616) : szI (z / 256) + 1 = szI z := by
  have h2 := szI_is1 (z / 256)
  have h3 := szI_is1 z
  omega

theorem newBytes_one (w : World) (b : Int) (h0 : 0 ≤ b) (h1 : b ≤ 255) : newBytes (w.alloc (.cells #[.int .u8 b] 5)) w.heap.size (.slice (some ⟨w.heap.size, 0, none⟩) 1 1) [b] :=
  ⟨⟨rfl, Or.inr ⟨w.heap.size, 1, _, rfl, Nat.le_refl _, blk_alloc_new _ _, by simp, by unfold maxLen; omega, rfl, rfl⟩⟩, fun i => by cases i <;> simp <;> omega⟩
theorem isBytes.cellAt {w : World} {v : Value} {l : List Int} (h : isBytes w v l) (i : Nat) (hi : i < l.length) : ∃ pb po cap, v = .slice (some ⟨pb, po, none⟩) l.length cap ∧ w.cell? ⟨pb, po + i, none⟩ = some (.int .u8 (l.getD i 0)) := by
  rcases h with ⟨_, rfl⟩ | ⟨pb, po, cap, rfl, h2, h3, h4, h6, h7⟩
  · simp at hi
  · exact ⟨pb, po, cap, rfl, h6 i hi⟩
theorem reverse_take_succ (l : List Int) (j : Nat) (h0 : 0 < j) (hj : j ≤ l.length) : l.reverse.take (l.length - (j - 1)) = l.reverse.take (l.length - j) ++ [l.getD (j - 1) 0] := by
  have e : l.length - (j - 1) = (l.length - j) + 1 := by omega
  rw [e, List.take_succ_eq_append_getElem (by simp; omega)]
  congr 2
  rw [List.getElem_reverse, List.getD_eq_getElem?_getD, List.getElem?_eq_getElem (by omega)]
  simp only [Option.getD_some]
  congr 1
  omega
set_option maxHeartbeats 1000000 in
theorem rnumber_any (x : Int) (h0 : 0 ≤ x) (h1 : x < 18446744073709551616) (w : World) :
    Calls Tryd.prog 73 #[.int .u64 x] w fun e w' => ∃ v, e = .returned v ∧ newBytes w' w.heap.size v (numB x) ∧ Below w.heap.size w w' := by
  go_enter Tryd.func73, Tryd.ntmps73
  go_wp2
  go_loopw [0, 3] (fun z v wr => ∃ (t : Int) (lw : List Int), 0 ≤ t ∧ t ≤ x ∧ z = .int .u64 t ∧ lw.length + szI t = szI x ∧ digsI x (szI x) = digsI t (szI t) ++ lw.reverse ∧ newBytes wr w.heap.size v lw ∧ Below w.heap.size w wr) (fun z _ _ => szI (intOf z))
  case atStart => exact ⟨x, [], h0, Int.le_refl _, rfl, by simp, by simp, newBytes.nil _ _, Below.refl _ _⟩
  case round =>
    obtain ⟨t, lw, t0, t1, rfl, hlen, hdig, hn, hb⟩ := hrel
    have hz := szI_le x
    by_cases hlt : 0 < t
    · have hd := szI_div1 t (by omega) (by omega)
      obtain ⟨v2, w2, hr2, hn2, hb2⟩ := byte_append_run wr w.heap.size u3 lw (t % 256) (by omega) (by omega) hn (by omega) hb.size
      have HN : Hid _ := hn2
      have HB : Hid _ := hb.trans hb2
      have HG : Hid _ := hdig
      have HD : Hid _ := hd
      have HE : Hid _ := hlen
      have HS : Hid (digsI t (szI t) = digsI (t / 256) (szI (t / 256)) ++ [t % 256]) := by
        have : digsI t (szI t) = digsI (t / 256) (szI (t / 256)) ++ [t % 256] := by rw [← hd, digsI_succ]
        exact this
      clear hn hb hn2 hb2 hdig hd hlen
      go_wp2_with (first | (at_builtin; refine wpList_append_run rfl _ _ _ rfl rfl rfl hr2 ?_))
      go_light
      refine ⟨⟨t / 256, lw ++ [t % 256], by omega, by omega, rfl, by have := HD.out; have := HE.out; simp; omega, ?_, HN.out, HB.out⟩, by have := HD.out; simp [intOf]; omega⟩
      rw [HG.out, HS.out, List.reverse_append]; simp
    · obtain rfl : t = 0 := by omega
      obtain ⟨wm, hwm⟩ : ∃ wm, wm = wr := ⟨wr, rfl⟩
      subst hwm
      have hz0 : szI 0 = 0 := rfl
      rw [hz0] at hlen hdig
      have hd0 : digsI x (szI x) = lw.reverse := by rw [hdig]; rfl
      have hl8 : (lw.length : Int) ≤ 8 := by omega
      have hlz : lw.length = szI x := by omega
      obtain ⟨la, lc, rfl, _⟩ := hn.is.slice
      have hsz := hb.size
      have n1 := newBytes_one wm (lw.length : Int) (by omega) (by omega)
      have hb1 : Below wm.heap.size wm (wm.alloc (.cells #[.int .u8 (lw.length : Int)] 5)) := (Below.refl _ _).alloc (Nat.le_refl _) _
      have HN1 : Hid _ := n1
      have HB1 : Hid _ := hb1
      have HL : Hid _ := hn.is
      have HD0 : Hid _ := hd0
      have HLZ : Hid _ := hlz
      have HB : Hid _ := hb
      clear n1 hb1 hn hd0 hdig hlen hlz hb
      go_wp2
      go_loopw [4, 5] (fun v i wq => ∃ j : Nat, j ≤ lw.length ∧ i = .int .i64 j ∧ newBytes wq wm.heap.size v ([(lw.length : Int)] ++ lw.reverse.take (lw.length - j)) ∧ Below wm.heap.size wm wq) (fun _ i _ => (intOf i).toNat)
      case atStart => exact ⟨lw.length, Nat.le_refl _, rfl, by rw [Nat.sub_self, List.take_zero, List.append_nil]; exact HN1.out, HB1.out⟩
      case round =>
        clear HN1 HB1
        obtain ⟨j, hj, rfl, hn, hb⟩ := hrel
        by_cases hlt2 : 0 < j
        · obtain ⟨pb, po, cap, he, hc⟩ := isBytes.cellAt (isBytes.below HL.out hb (Nat.le_refl _)) (j - 1) (by omega)
          have he' : la = some ⟨pb, po, none⟩ ∧ lc = cap := by simpa using he
          obtain ⟨rfl, rfl⟩ := he'
          have hby := isBytes.byte HL.out (j - 1)
          obtain ⟨v2, w2, hr2, hn2, hb2⟩ := byte_append_run _ wm.heap.size u4 _ (lw.getD (j - 1) 0) hby.1 hby.2 hn (by simp; omega) hb.size
          have HN : Hid _ := hn2
          have HBq : Hid _ := hb.trans hb2
          have HT : Hid _ := reverse_take_succ lw j hlt2 hj
          obtain ⟨m, rfl⟩ : ∃ m, j = m + 1 := ⟨j - 1, by omega⟩
          simp only [Nat.add_sub_cancel] at hc hr2
          have q0 : (0 : Int) < ((m + 1 : Nat) : Int) := by omega
          have q1 : (m : Int) < (lw.length : Int) := by omega
          have q2 : ((m + 1 : Nat) : Int) - 1 = (m : Int) := by omega
          have q3 : ((m : Int) + 1) - 1 = (m : Int) := by omega
          clear hn hb hn2 hb2 he
          go_wp2_with (first | (at_builtin; refine wpList_append_run rfl _ _ _ rfl rfl rfl hr2 ?_))
          go_light
          refine ⟨⟨m, by omega, rfl, ?_, HBq.out⟩, by simp only [intOf]; omega⟩
          have h3 := HT.out
          simp only [Nat.add_sub_cancel] at h3
          rw [h3, ← List.append_assoc]; exact HN.out
        · obtain rfl : j = 0 := by omega
          have HN : Hid _ := hn
          have HBq : Hid _ := hb
          clear hn hb
          go_wp2
          go_ret
          refine ⟨_, rfl, ?_, Below.trans HB.out (HBq.out.mono HB.out.size)⟩
          have h3 := newBytes.mono HN.out hsz
          rw [Nat.sub_zero, List.take_of_length_le (by simp), ← HD0.out, HLZ.out] at h3
          exact h3
end Go.Proofs.YtkgegihkhdgdoaaDoor

/- The document's answer: blobs behind any bytes. -/
namespace Go.Proofs.YtkgegihkhdgdoaaDoor
set_option linter.unusedSimpArgs false
set_option linter.unusedVariables false
set_option maxRecDepth 100000
open Go.RowKit Go.Deep

set_option maxHeartbeats 1000000 in
theorem rblobs_any (l : List Int) (v u : Value) (n : Nat) (ps : Nat → List Int) (w : World) (hv : isBytes w v l) (hu : anyParts w u n ps) (hs : ∀ i, i ≤ n → l.length + (flatTo (blobsB ps) i).length ≤ 1000000000000) :
    Calls Tryd.prog 56 #[v, u] w fun e w' => ∃ v', e = .returned v' ∧ newBytes w' w.heap.size v' (l ++ flatTo (blobsB ps) n) ∧ Below w.heap.size w w' := by
  obtain ⟨a, cap, rfl, hnm, hcell⟩ := hu.open
  clear hu
  have hs0 := hs 0 (by omega)
  obtain ⟨v1, w1, hr1, hn1, hb1⟩ := bytes_copy_run w v l hv (by omega)
  have HN : Hid _ := hn1
  have HB : Hid _ := hb1
  obtain ⟨va, vc, rfl, _⟩ := hv.slice
  clear hv hn1 hb1
  unfold maxLen at hnm
  have q0 : (n : Int) ≤ 9223372036854775807 := by omega
  have HS : Hid _ := hs
  clear hs
  go_enter Tryd.func56, Tryd.ntmps56
  go_wp2_with (first | (at_builtin; refine wpList_append_run rfl (.tmp 7) (.tmp 8) _ rfl rfl rfl hr1 ?_))
  clear hr1
  go_loopw [5, 6] (fun z i wr => ∃ j : Nat, j ≤ n ∧ i = .int .i64 j ∧ newBytes wr w.heap.size z (l ++ flatTo (blobsB ps) j) ∧ Below w.heap.size w wr) (fun _ i _ => n - (intOf i).toNat)
  case atStart => exact ⟨0, by omega, rfl, by rw [flatTo, List.append_nil]; exact HN.out, HB.out⟩
  case round =>
    clear HN HB
    obtain ⟨j, hj, rfl, hn, hb⟩ := hrel
    by_cases hlt2 : j < n
    · obtain ⟨qb, qo, y, rfl, hq, hc, hy⟩ := hcell j hlt2
      have HYB : Hid _ := fun (w9 : World) (h9 : Below w.heap.size w w9) => hy.below h9 (Nat.le_refl _)
      have HC : Hid _ := fun (w9 : World) (h9 : Below w.heap.size w w9) => (h9.cell (p := ⟨qb, qo + j, none⟩) hq).trans hc
      obtain ⟨ya, yc, rfl, hym⟩ := hy.slice
      have b0 : (0 : Int) ≤ (j : Int) := by omega
      have b1 : (j : Int) < (n : Int) := by omega
      have hlj := HS.out (j + 1) hlt2
      rw [flatTo, List.length_append, blobsB, blobB_length] at hlj
      rw [← hb.cell (p := ⟨qb, qo + j, none⟩) hq] at hc
      have hM2 : ((ps j).length : Int) ≤ 1000000000000 := by omega
      have hs1 := hb.size
      have HN : Hid _ := hn
      have HB : Hid _ := hb
      clear hn hb hy
      go_wp2_with fail
      refine (rnumber_any ((ps j).length : Int) (by omega) (by omega) _).mono ?_
      rintro e w2 ⟨v2, rfl, hn2, hb2⟩
      have hn2' := newBytes.below HN.out hb2 (Nat.le_refl _)
      obtain ⟨v3, w3, hr3, hn3, hg3, _⟩ := bytes_append_run w2 w.heap.size u5 v2 _ (numB (ps j).length) hn2' hn2.is (by rw [List.length_append, numB_length]; omega) (by have := hb2.size; omega)
      have hB3 : Below w.heap.size w w3 := HB.out.trans ((hb2.mono hs1).trans (below_grown hg3 (fun q hq2 => (hn2'.block q hq2).1) (by have := hb2.size; omega)))
      have hc3 := HC.out w3 hB3
      obtain ⟨v4, w4, hr4, hn4, hg4, _⟩ := any_append_run w3 w.heap.size v3 _ _ (ps j) hn3 (HYB.out w3 hB3) (by rw [List.length_append, List.length_append, numB_length]; omega) hB3.size
      have HN4 : Hid _ := hn4
      have HB4 : Hid _ := hB3.trans (below_grown hg4 (fun q hq2 => (hn3.block q hq2).1) hB3.size)
      clear hn2 hb2 hn3 hg3 hn2' HN HB hn4 hg4 hB3 HC HYB
      go_wp2_with (first | (at_builtin; refine wpList_append_run rfl (.tmp 16) (.tmp 23) _ rfl rfl rfl hr3 ?_) | (at_builtin; refine wpList_append_run rfl (.tmp 25) (.tmp 29) _ rfl rfl rfl hr4 ?_))
      go_light
      exact ⟨⟨j + 1, by omega, by go_num, by rw [flatTo, ← List.append_assoc, blobsB, blobB, ← List.append_assoc]; exact HN4.out, HB4.out⟩, by simp [intOf]; omega⟩
    · obtain rfl : j = n := by omega
      have HN : Hid _ := hn
      clear hn
      go_wp2
      go_ret
      exact ⟨_, rfl, HN.out, hb⟩
end Go.Proofs.YtkgegihkhdgdoaaDoor

/- A nil book's Of; the document's Preimage and Of. -/
namespace Go.Proofs.YtkgegihkhdgdoaaDoor
set_option linter.unusedSimpArgs false
set_option linter.unusedVariables false
open Go.RowKit Go.Deep

set_option maxHeartbeats 1000000 in
set_option maxRecDepth 100000 in
theorem of_nil (kind : Int) (n : Nat) (v : Value) (ps : Nat → List Int) (w : World) (hp : anyParts w v n ps) (hs : ∀ i, i ≤ n → 1 + (flatTo (blobsB ps) i).length ≤ 100000000) (ht : tabIs w) :
    Calls Tryd.prog 69 #[.pointer none, .int .i64 kind, v] w fun e w' => e = .returned (sumV (sumL (preB kind n ps))) ∧ Below w.heap.size w w' := by
  have ht0 := ht.1
  obtain ⟨pl, hpl⟩ : ∃ pl, pl = preB kind n ps := ⟨_, rfl⟩
  have hpll : pl.length ≤ 100000000 := by
    rw [hpl, preB, List.length_append]; have := hs n (Nat.le_refl _); simp; omega
  have r0 := rowIs_zero w (Array.replicate 32 (.int .u8 0)) 32 32 (.int .u8 0) rfl
  have hb0 : Below w.heap.size w (w.alloc (.cells (Array.replicate 32 (.int .u8 0)) 32)) := (Below.refl w.heap.size w).alloc (Nat.le_refl _) _
  have hs0 : (w.alloc (.cells (Array.replicate 32 (.int .u8 0)) 32)).heap.size = w.heap.size + 1 := by simp
  have X := pre_any kind n v ps _ (hp.below hb0 (Nat.le_refl _)) (fun i hi => by have := hs i hi; omega)
  rw [← hpl] at X ⊢
  clear hpl
  obtain ⟨a, cap, rfl, _, _⟩ := hp.open
  clear hp hs
  go_enter Tryd.func69, Tryd.ntmps69
  go_wp2_with fail
  refine X.mono ?_
  rintro e w1 ⟨v1, rfl, hn1, hb1⟩
  have hb1' : Below (w.alloc (.cells (Array.replicate 32 (.int .u8 0)) 32)).heap.size (w.alloc (.cells (Array.replicate 32 (.int .u8 0)) 32)) w1 := hb1
  have hn1' : newBytes w1 (w.alloc (.cells (Array.replicate 32 (.int .u8 0)) 32)).heap.size v1 pl := hn1
  rw [hs0] at hb1' hn1'
  have hB1 : Below w.heap.size w w1 := hb0.trans (hb1'.mono (by omega))
  have r1 : w1.rowIs w.heap.size 32 32 (fun _ => .int .u8 0) := hb1'.row r0 (by omega)
  have hs1 : w.heap.size + 1 ≤ w1.heap.size := by have := hb1'.size; omega
  obtain ⟨va, vc, rfl, _⟩ := hn1'.is.slice
  have Y := sum_one pl _ _ w1 hn1' (by omega) (ht.below hB1 ht0)
  clear X hb1 hn1 hb0 r0 hs0 hb1' hn1'
  go_wp2_with fail
  refine Y.mono ?_
  rintro e w3 ⟨rfl, hb3⟩
  have hs3 := hb3.size
  have r3 := hb3.row r1 (by omega)
  have hB3 : Below w.heap.size w w3 := hB1.trans (hb3.mono (by omega))
  have r4 := rowIs_zero w3 (Array.replicate 32 (.int .u8 0)) 32 32 (.int .u8 0) rfl
  have hs4 : (w3.alloc (.cells (Array.replicate 32 (.int .u8 0)) 32)).heap.size = w3.heap.size + 1 := by simp
  have hb4 : Below w3.heap.size w3 (w3.alloc (.cells (Array.replicate 32 (.int .u8 0)) 32)) := (Below.refl _ _).alloc (Nat.le_refl _) _
  clear Y hb3 r1 hB1
  go_upto_if 16 with (first | (refine wpList_store_row rfl 32 (.tmp 8) (.tmp 14) rfl rfl w3.heap.size 0 32 (arrV (sumL pl)) rfl rfl hi32' (fun _ _ => rfl) _ _ _ r4 (by omega) ?_; intro w5 r5 hz5 hb5))
  have hz5' : w5.heap.size = w3.heap.size + 1 := hz5.trans hs4
  have hb5' : But (w3.heap.size + 1) w3.heap.size (w3.alloc (.cells (Array.replicate 32 (.int .u8 0)) 32)) w5 := hs4 ▸ hb5
  have hB35 : Below w3.heap.size w3 w5 := hb4.trans ((hb5'.mono (by omega)).below (Nat.le_refl _))
  have hB5 : Below w.heap.size w w5 := hB3.trans (hB35.mono (by omega))
  have r5' : w5.rowIs w3.heap.size 32 32 (arrV (sumL pl)) := r5.congr fun i hi => by rw [if_pos (by omega), Nat.sub_zero]
  have r5w := hB35.row r3 (by omega)
  clear r4 hb4 r5 hb5 hb5' hB35 r3 hB3
  go_wp2_with (first | (refine wpList_load_seg rfl 32 _ rfl w3.heap.size 0 32 (arrV (sumL pl)) rfl _ Tryd.underlying32 rfl hi32' (fun i hi => by rw [Nat.zero_add]; exact r5'.cell hi) ?_) | (refine wpList_store_row rfl 32 (.tmp 6) (.tmp 31) rfl rfl w.heap.size 0 32 (arrV (sumL pl)) rfl rfl hi32' (fun _ _ => rfl) _ _ _ r5w (by omega) ?_; intro w6 r6 hz6 hb6))
  exact bodyPost_ret (results_cell_seg rfl _ _ w.heap.size 32 32 (arrV (sumL pl)) _ rfl Tryd.underlying32 rfl hi32' (r6.congr fun i hi => by rw [if_pos (by omega), Nat.sub_zero])) rfl ⟨rfl, hB5.trans ((hb6.mono (by omega)).below (Nat.le_refl _))⟩

end Go.Proofs.YtkgegihkhdgdoaaDoor

/- append of a slice of elements of any size, also of none. -/
namespace Go.Proofs.YtkgegihkhdgdoaaDoor
set_option linter.unusedSimpArgs false
set_option linter.unusedVariables false
open Go.RowKit Go.Deep
section
variable {P : Program}
theorem row_append (w : World) (t ty e : TypeId) (z : Value) (size bytes : Nat) (ht : P.underlying t = some (.slice e)) (hi : (P.info? e).map (fun i => (i.zero, i.size, i.bytes)) = some (some z, size, bytes)) (hz : z.cells.size = size) (hsz : 0 < size)
    (B : Nat) (v : Value) (n : Nat) (xs : List Value) (hv : w.ownsRow B e size v n xs) (sv : Value) (m : Nat) (news : List Value) (hl : news.length = m * size)
    (hs : ∃ a c, sv = .slice a m c ∧ (0 < m → ∃ qb qo, a = some ⟨qb, qo, none⟩ ∧ ∀ (j : Nat) (u : Value), news[j]? = some u → w.cell? ⟨qb, qo + j, none⟩ = some u)) (h1 : ∀ u ∈ news, u.oneCell' = true)
    (h63 : n + m ≤ maxLen) (hb : (n + m) * bytes ≤ 140737488355328) (hB : B ≤ w.heap.size) :
    ∃ a c w', (Builtin.append_ #[t, t] ty #[v, sv]).run P w = .ok (.slice a (n + m) c) w' ∧ w'.ownsRow B e size (.slice a (n + m) c) (n + m) (xs ++ news) ∧ w.grownBy w' v.ownBlock ∧
      ((Value.slice a (n + m) c).ownBlock = v.ownBlock ∨ (Value.slice a (n + m) c).ownBlock = some w.heap.size) := by
  cases hq : P.info? e with
  | none => simp [hq] at hi
  | some i =>
    simp only [hq, Option.map_some, Option.some.injEq, Prod.mk.injEq] at hi
    obtain ⟨hz', hs', hb'⟩ := hi
    obtain ⟨a, c, rfl, ha⟩ := hs
    by_cases h0 : m = 0
    · subst h0
      have hn0 : news = [] := List.length_eq_zero_iff.1 (by omega)
      subst hn0
      have hv' := hv
      obtain ⟨hl', h | ⟨g, cap, cur, rfl, hg, hbk, hc, hm, hcs, htk⟩⟩ := hv
      · obtain ⟨rfl, rfl⟩ := h
        exact ⟨none, 0, w, run_append_nil w t ty e ht (by rw [hq]; rfl) none 0 0 (Nat.le_refl _) a c, by simpa using hv', World.grownBy.refl _ _, Or.inl rfl⟩
      · exact ⟨_, cap, w, run_append_nil w t ty e ht (by rw [hq]; rfl) _ n cap hc a c, by simpa using hv', World.grownBy.refl _ _, Or.inl rfl⟩
    · obtain ⟨qb, qo, rfl, hc⟩ := ha (by omega)
      obtain ⟨g, cap, w', hr, ho, hg, hat, hlt⟩ := run_append_lies (P := P) w t ty B e i z size bytes ht hq hz' hs' hb' hz hsz v n xs hv ⟨qb, qo, none⟩ m c news hl (fun j u hu => by rw [Addr.add_mid]; exact hc j u hu) h1 (by omega) h63 hb hB w.heap.size rfl
      exact ⟨_, cap, w', hr, ho, hg, by
        rcases hat with h | h
        · exact Or.inl h.symm
        · exact Or.inr (by rw [h]; rfl)⟩
theorem ownsRow_empty (w : World) (e : TypeId) (size B b : Nat) (hb : w.heap[b]? = some (.cells #[] e (0, 0))) (hB : B ≤ b) : w.ownsRow B e size (.slice (some ⟨b, 0, none⟩) 0 0) 0 [] :=
  ⟨by simp, Or.inr ⟨b, 0, #[], rfl, hB, hb, Nat.le_refl _, by unfold maxLen; omega, by simp, by simp⟩⟩
theorem ownsRow_far {w w' : World} {B e size : Nat} {v : Value} {n : Nat} {xs : List Value} (h : w.ownsRow B e size v n xs) (hb : ∀ k, v.ownBlock = some k → w'.heap[k]? = w.heap[k]?) : w'.ownsRow B e size v n xs := by
  obtain ⟨hl, h | ⟨g, cap, cur, rfl, hg, hbk, hr⟩⟩ := h
  · exact ⟨hl, Or.inl h⟩
  · exact ⟨hl, Or.inr ⟨g, cap, cur, rfl, hg, by rw [hb g rfl]; exact hbk, hr⟩⟩
theorem ownsRow_block {w : World} {B e size : Nat} {v : Value} {n : Nat} {xs : List Value} (h : w.ownsRow B e size v n xs) (k : Nat) (hk : v.ownBlock = some k) : B ≤ k ∧ k < w.heap.size := by
  obtain ⟨_, h | ⟨g, cap, cur, rfl, hB, hb, _⟩⟩ := h
  · rw [h.1] at hk; cases hk
  · obtain rfl : g = k := by simpa [Value.ownBlock] using hk
    exact ⟨hB, (Array.getElem?_eq_some_iff.1 hb).1⟩
theorem ownsRow_lower {w : World} {B C e size : Nat} {v : Value} {n : Nat} {xs : List Value} (h : w.ownsRow B e size v n xs) (hC : C ≤ B) : w.ownsRow C e size v n xs := by
  obtain ⟨hl, h | ⟨g, cap, cur, rfl, hg, hr⟩⟩ := h
  · exact ⟨hl, Or.inl h⟩
  · exact ⟨hl, Or.inr ⟨g, cap, cur, rfl, by omega, hr⟩⟩
theorem ownsRow_slice {w : World} {B e size : Nat} {v : Value} {n : Nat} {xs : List Value} (h : w.ownsRow B e size v n xs) : ∃ a c, v = .slice a n c ∧ n ≤ c ∧ c ≤ maxLen ∧ (0 < n → ∃ g, a = some ⟨g, 0, none⟩ ∧ g < w.heap.size ∧ B ≤ g ∧ ∀ (j : Nat) (u : Value), xs[j]? = some u → w.cell? ⟨g, j, none⟩ = some u) := by
  obtain ⟨hl, h | ⟨g, cap, cur, rfl, hg, hbk, hc, hm, hcs, htk⟩⟩ := h
  · obtain ⟨rfl, rfl⟩ := h
    exact ⟨none, 0, rfl, Nat.le_refl _, by unfold maxLen; omega, fun h => by omega⟩
  · refine ⟨_, cap, rfl, hc, hm, fun _ => ⟨g, rfl, (Array.getElem?_eq_some_iff.1 hbk).1, hg, fun j u hu => ?_⟩⟩
    rw [cell_of_row _ _ _ _ _ _ hbk]
    have hj : j < n * size := by rw [← hl]; exact (List.getElem?_eq_some_iff.1 hu).1
    rw [← htk, List.getElem?_take, if_pos hj, Array.getElem?_toList] at hu
    exact hu
end
end Go.Proofs.YtkgegihkhdgdoaaDoor

/- Bytes that may be written over: what clear leaves. -/
namespace Go.Proofs.YtkgegihkhdgdoaaDoor
set_option linter.unusedSimpArgs false
set_option linter.unusedVariables false
open Go.RowKit Go.Deep

def softE (w : World) (u : Value) : Prop := ∀ pb o n c, u = .slice (some ⟨pb, o, none⟩) n c → w.there pb o n
def softB (w : World) (u : Value) (l : List Int) : Prop := isBytes w u l ∧ softE w u
theorem there_of_block {w w' : World} {b o n : Nat} (h : w.there b o n) (hb : w'.heap[b]? = w.heap[b]?) : w'.there b o n := fun j hj => by
  rw [World.cell?_of_block (w' := w') (w := w) (a := ⟨b, o + j, none⟩) hb, World.frozen?_of_block (w' := w') (w := w) (a := ⟨b, o + j, none⟩) hb]; exact h j hj
theorem softE.far {w w' : World} {u : Value} (h : softE w u) (hb : ∀ k, u.ownBlock = some k → w'.heap[k]? = w.heap[k]?) : softE w' u := fun pb o n c e =>
  there_of_block (h pb o n c e) (hb pb (by rw [e]; rfl))
theorem softB.block {w : World} {u : Value} {l : List Int} (h : softB w u l) (k : Nat) (hk : u.ownBlock = some k) : k < w.heap.size := h.1.block k hk
theorem softB.far {w w' : World} {u : Value} {l : List Int} (h : softB w u l) (hb : ∀ k, u.ownBlock = some k → w'.heap[k]? = w.heap[k]?) (hs : w.heap.size ≤ w'.heap.size) : softB w' u l := ⟨h.1.far hb hs, h.2.far hb⟩
theorem softB.below {w w' : World} {B : Nat} {u : Value} {l : List Int} (h : softB w u l) (hb : Below B w w') (hB : w.heap.size ≤ B) : softB w' u l :=
  h.far (fun k hk => hb.block k (Nat.lt_of_lt_of_le (h.block k hk) hB)) hb.size
theorem newBytes.softE {w : World} {B : Nat} {v : Value} {l : List Int} (h : newBytes w B v l) : softE w v := fun pb o n c e => by
  obtain ⟨⟨_, h | ⟨g, cap, cur, he, hB, hg, hc, hm, hs, ht⟩⟩, hb⟩ := h
  · rw [h.1] at e; cases e
  · rw [he] at e
    have e' : (g = pb ∧ 0 = o) ∧ (l.map (Value.int .u8)).length = n ∧ cap = c := by simpa using e
    obtain ⟨⟨rfl, rfl⟩, rfl, rfl⟩ := e'
    have hrow : w.rowIs g 5 cap (fun j => cur.getD j undef) := ⟨cur, hg, by omega, fun j hj => by rw [Array.getElem?_eq_getElem (by omega)]; simp [Array.getD, hs, hj]⟩
    exact there_of_row hrow (by omega)
/-- nothing has turned but in [B, C). -/
structure Mid (B C : Nat) (w w' : World) : Prop where
  os : w'.os = w.os
  tape : w'.tape = w.tape
  output : w'.output = w.output
  size : w'.heap.size = w.heap.size
  block : ∀ k, (k < B ∨ C ≤ k) → w'.heap[k]? = w.heap[k]?
theorem Mid.refl (B C : Nat) (w : World) : Mid B C w w := ⟨rfl, rfl, rfl, rfl, fun _ _ => rfl⟩
theorem Mid.trans {B C : Nat} {a b c : World} (h : Mid B C a b) (g : Mid B C b c) : Mid B C a c := ⟨g.os.trans h.os, g.tape.trans h.tape, g.output.trans h.output, g.size.trans h.size, fun k hk => (g.block k hk).trans (h.block k hk)⟩
theorem Mid.below {B C : Nat} {w w' : World} (h : Mid B C w w') : Below B w w' := ⟨h.os, h.tape, h.output, Nat.le_of_eq h.size.symm, fun k hk => h.block k (Or.inl hk)⟩
theorem zero8s : ∀ w, (zeroValue 5).run Tryd.prog w = .ok (.int .u8 0) w := fun w => by kernel_rfl
/-- clear(u). -/
theorem soft_clear (w : World) (u : Value) (x : Option Addr) (k y : Nat) (hu : u = .slice x k y) (hx : 0 < k → ∃ pb po, x = some ⟨pb, po, none⟩) (hs : softE w u) :
    ∃ w', (Builtin.clear_ #[23] 0 #[u]).run Tryd.prog w = .ok (.tuple #[]) w' ∧ w'.heap.size = w.heap.size ∧ w'.os = w.os ∧ w'.tape = w.tape ∧ w'.output = w.output ∧
      (∀ j, u.ownBlock ≠ some j → w'.heap[j]? = w.heap[j]?) ∧ ∀ b o n, w.there b o n → w'.there b o n := by
  by_cases h0 : 0 < k
  · obtain ⟨pb, po, rfl⟩ := hx h0
    have ht := hs pb po k y hu
    subst hu
    have hb : But w.heap.size pb w (w.setCells pb po (List.replicate k (.int .u8 0))) := but_setCells _ _ (But.refl _ _ _)
    refine ⟨_, Go.Lib.run_clear_slice w 23 5 0 (.int .u8 0) Tryd.underlying23 zero8s rfl rfl pb po k y h0 (fun j hj => (ht j hj).1) (fun j hj => (ht j hj).2), size_setCells _ _ _ _, hb.os, hb.tape, hb.output, fun j hj => ?_, fun b o n h => World.there_setCells h _ _ _⟩
    by_cases hl : j < w.heap.size
    · exact hb.block j hl (fun e => hj (by rw [e]; rfl))
    · rw [Array.getElem?_eq_none (by rw [size_setCells]; omega), Array.getElem?_eq_none (by omega)]
  · obtain rfl : k = 0 := by omega
    subst hu
    exact ⟨w, by cases x <;> simp [Builtin.clear_, run_underlying Tryd.underlying23], rfl, rfl, rfl, rfl, fun _ _ => rfl, fun _ _ _ h => h⟩
/-- v is a slice of slices of bytes that may be written over; all their memory lies in [B, C). -/
def softParts (w : World) (B C : Nat) (v : Value) (n : Nat) : Prop :=
  ∃ a c, v = .slice a n c ∧ n ≤ maxLen ∧ ∀ i, i < n → ∃ qb qo x k y, a = some ⟨qb, qo, none⟩ ∧ (B ≤ qb ∧ qb < C) ∧ w.cell? ⟨qb, qo + i, none⟩ = some (.slice x k y) ∧ (0 < k → ∃ pb po, x = some ⟨pb, po, none⟩) ∧ softE w (.slice x k y) ∧
    ∀ j, (Value.slice x k y).ownBlock = some j → B ≤ j ∧ j < C ∧ j ≠ qb
theorem softParts.clear {w : World} {B C : Nat} {v : Value} {n : Nat} (h : softParts w B C v n) (i : Nat) (hi : i < n) :
    ∃ qb qo cap x k y w', v = .slice (some ⟨qb, qo, none⟩) n cap ∧ w.cell? ⟨qb, qo + i, none⟩ = some (.slice x k y) ∧ (Builtin.clear_ #[23] 0 #[.slice x k y]).run Tryd.prog w = .ok (.tuple #[]) w' ∧ softParts w' B C v n ∧ Mid B C w w' := by
  obtain ⟨a, c, rfl, hm, he⟩ := h
  obtain ⟨qb, qo, x, k, y, rfl, hq, hc, hx, hs, ho⟩ := he i hi
  obtain ⟨w', hr, hz, h1, h2, h3, hb, ht⟩ := soft_clear w _ x k y rfl hx hs
  refine ⟨qb, qo, c, x, k, y, w', rfl, hc, hr, ⟨_, _, rfl, hm, fun i' hi' => ?_⟩, h1, h2, h3, hz, fun j hj => hb j fun e => by have := ho j e; omega⟩
  obtain ⟨qb', qo', x', k', y', e', _, hc', hx', hs', ho'⟩ := he i' hi'
  have e2 : qb = qb' ∧ qo = qo' := by simpa using e'
  obtain ⟨rfl, rfl⟩ := e2
  exact ⟨qb, qo, x', k', y', rfl, hq, by rw [World.cell?_of_block (w' := w') (w := w) (a := ⟨qb, qo + i', none⟩) (hb qb fun e => (ho qb e).2.2 rfl)]; exact hc', hx', fun pb o m c e => ht _ _ _ (hs' pb o m c e), ho'⟩
theorem softParts.far {w w' : World} {B C : Nat} {v : Value} {n : Nat} (h : softParts w B C v n) (hb : ∀ j, B ≤ j → j < C → w'.heap[j]? = w.heap[j]?) : softParts w' B C v n := by
  obtain ⟨a, c, e, hm, he⟩ := h
  refine ⟨a, c, e, hm, fun i hi => ?_⟩
  obtain ⟨qb, qo, x, k, y, e1, hq, hc, hx, hs, ho⟩ := he i hi
  exact ⟨qb, qo, x, k, y, e1, hq, by rw [World.cell?_of_block (w' := w') (w := w) (a := ⟨qb, qo + i, none⟩) (hb qb hq.1 hq.2)]; exact hc, hx, hs.far (fun j hj => hb j (ho j hj).1 (ho j hj).2.1), ho⟩
theorem softParts.open {w : World} {B C : Nat} {v : Value} {n : Nat} (h : softParts w B C v n) : ∃ a c, v = .slice a n c := by
  obtain ⟨a, c, e, _⟩ := h; exact ⟨a, c, e⟩
end Go.Proofs.YtkgegihkhdgdoaaDoor

/- Books: Find. -/
namespace Go.Proofs.YtkgegihkhdgdoaaDoor
set_option linter.unusedSimpArgs false
set_option linter.unusedVariables false
open Go.RowKit Go.Deep

/-- the bytes that were noted first. -/
def foundB (N : List Nt) (q : List Int) : List Int := match firstAt N q with
  | some i => sBytes (N.getD i zeroN).2
  | none => []
end Go.Proofs.YtkgegihkhdgdoaaDoor

/- How long preimages are. Plain mathematics. -/
namespace Go.Proofs.YtkgegihkhdgdoaaDoor
set_option linter.unusedSimpArgs false
set_option linter.unusedVariables false
open Go.RowKit Go.Deep

theorem str_beq (s t : ByteArray) : (s.toList == t.toList) = decide (s = t) := by
  rw [Bool.eq_iff_iff, beq_iff_eq, decide_eq_true_iff, ByteArray.toList_eq, ByteArray.toList_eq]
  exact ⟨fun h => ByteArray.ext (Array.toList_inj.1 h), fun h => by rw [h]⟩
theorem numB_le (x : Int) : (numB x).length ≤ 9 := by rw [numB_length]; have := szI_le x; omega
theorem blobs_le (ps : Nat → List Int) : ∀ n, (flatTo (blobsB ps) n).length ≤ 9 * n + (flatTo ps n).length
  | 0 => by simp [flatTo]
  | n + 1 => by
    have := blobs_le ps n
    have h9 := numB_le ((ps n).length : Int)
    rw [flatTo, flatTo, List.length_append, List.length_append, show blobsB ps n = numB (ps n).length ++ ps n from rfl, List.length_append]
    omega
end Go.Proofs.YtkgegihkhdgdoaaDoor

/- Rows of sums; the node of some sums. -/
namespace Go.Proofs.YtkgegihkhdgdoaaDoor
set_option linter.unusedSimpArgs false
set_option linter.unusedVariables false
open Go.RowKit Go.Deep

/-- v is a slice of these sums. -/
def sumsAt (w : World) (v : Value) (L : List (List Int)) : Prop :=
  (∀ x ∈ L, isSum x) ∧ ∃ a cap, v = .slice a L.length cap ∧ L.length ≤ cap ∧ cap ≤ maxLen ∧
    (0 < L.length → ∃ g o, a = some ⟨g, o, none⟩ ∧ g < w.heap.size ∧ ∀ i (hi : i < L.length) j, j < 32 → w.cell? ⟨g, o + i * 32 + j, none⟩ = some (arrV L[i] j))
theorem sumsAt.below {w w' : World} {B : Nat} {v : Value} {L : List (List Int)} (h : sumsAt w v L) (hb : Below B w w') (hB : w.heap.size ≤ B) : sumsAt w' v L := by
  obtain ⟨h1, a, cap, h2, h3, h4, h5⟩ := h
  refine ⟨h1, a, cap, h2, h3, h4, fun h0 => ?_⟩
  obtain ⟨g, o, e, hg, hc⟩ := h5 h0
  exact ⟨g, o, e, Nat.lt_of_lt_of_le hg hb.size, fun i hi j hj => (hb.cell (p := ⟨g, o + i * 32 + j, none⟩) (Nat.lt_of_lt_of_le hg hB)).trans (hc i hi j hj)⟩
theorem sumsAt.nil (w : World) : sumsAt w (.slice none 0 0) [] := ⟨fun x hx => by simp at hx, none, 0, rfl, Nat.le_refl _, by unfold maxLen; omega, fun h => by simp at h⟩
section
variable {P : Program}
theorem run_slice_to32 (t e : TypeId) (b o len cap n : Nat) (hu : P.underlying t = some (.slice e)) (hs : (P.info? e).map (·.size) = some 32) (hm : n ≤ cap) (w : World) :
    (Instr.slice t (.slice (some ⟨b, o, none⟩) len cap) none (some (.int .i64 n)) none).run P w = .ok (.slice (some ⟨b, o, none⟩) n cap) w := by
  cases hq : P.info? e with
  | none => simp [hq] at hs
  | some i =>
    have hi : i.size = 32 := by simpa [hq] using hs
    have h0 : (0 : Int) ≤ (n : Int) ∧ (n : Int) ≤ (cap : Int) := by omega
    simp [Instr.slice, Instr.sliceBounds, Instr.sliceBound, asIntOf, run_underlying hu, sizeOf, typeInfo, hq, hi, h0, hm, Addr.add_mid]
theorem run_slice_from32 (t e : TypeId) (b o len cap m : Nat) (hu : P.underlying t = some (.slice e)) (hs : (P.info? e).map (·.size) = some 32) (hm : m ≤ len) (hc : m < cap) (w : World) :
    (Instr.slice t (.slice (some ⟨b, o, none⟩) len cap) (some (.int .i64 m)) none none).run P w = .ok (.slice (some ⟨b, o + m * 32, none⟩) (len - m) (cap - m)) w := by
  cases hq : P.info? e with
  | none => simp [hq] at hs
  | some i =>
    have hi : i.size = 32 := by simpa [hq] using hs
    have h0 : (0 : Int) ≤ (m : Int) ∧ (m : Int) ≤ (len : Int) := by omega
    have hc' : ¬ cap = m := by omega
    simp [Instr.slice, Instr.sliceBounds, Instr.sliceBound, asIntOf, run_underlying hu, sizeOf, typeInfo, hq, hi, h0, hc', hm, Addr.add_mid]
end
/-- l[:n] and l[n:]. -/
theorem sumsAt.to {w : World} {v : Value} {L : List (List Int)} (h : sumsAt w v L) (n : Nat) (hn : n < L.length) :
    ∃ u, (∀ wz : World, (Instr.slice 39 v none (some (.int .i64 n)) none).run Tryd.prog wz = .ok u wz) ∧ sumsAt w u (L.take n) := by
  obtain ⟨h1, a, cap, rfl, h3, h4, h5⟩ := h
  obtain ⟨g, o, rfl, hg, hc⟩ := h5 (by omega)
  have hl : (L.take n).length = n := by simp; omega
  refine ⟨_, fun wz => run_slice_to32 39 32 g o L.length cap n Tryd.underlying39 (by kernel_rfl) (by omega) wz, fun x hx => h1 x (List.mem_of_mem_take hx), _, cap, by rw [hl], by omega, h4, fun _ => ⟨g, o, rfl, hg, fun i hi j hj => ?_⟩⟩
  rw [List.getElem_take]; exact hc i (by omega) j hj
theorem sumsAt.from {w : World} {v : Value} {L : List (List Int)} (h : sumsAt w v L) (n : Nat) (hn : n < L.length) :
    ∃ u, (∀ wz : World, (Instr.slice 39 v (some (.int .i64 n)) none none).run Tryd.prog wz = .ok u wz) ∧ sumsAt w u (L.drop n) := by
  obtain ⟨h1, a, cap, rfl, h3, h4, h5⟩ := h
  obtain ⟨g, o, rfl, hg, hc⟩ := h5 (by omega)
  have hl : (L.drop n).length = L.length - n := by simp
  refine ⟨_, fun wz => run_slice_from32 39 32 g o L.length cap n Tryd.underlying39 (by kernel_rfl) (by omega) (by omega) wz, fun x hx => h1 x (List.mem_of_mem_drop hx), _, cap - n, by rw [hl], by omega, by omega, fun _ => ⟨g, o + n * 32, rfl, hg, fun i hi j hj => ?_⟩⟩
  rw [List.getElem_drop, show o + n * 32 + i * 32 + j = o + (n + i) * 32 + j by omega]
  exact hc (n + i) (by omega) j hj
/-- the slices of the sums' bytes. -/
def sumSl (g o : Nat) (i : Nat) : Value := .slice (some ⟨g, o + i * 32, none⟩) 32 32
theorem owns_parts {w : World} {B : Nat} {v : Value} {svs : List Value} {ps : Nat → List Int} (h : owns w B 23 v svs) (hp : ∀ i (hi : i < svs.length), isBytes w svs[i] (ps i)) : isParts w v svs.length ps := by
  by_cases h0 : svs.length = 0
  · obtain ⟨_, h | ⟨g, cap, cur, rfl, hB, hb, hc, hm, hs, ht⟩⟩ := h
    · exact Or.inl ⟨h.1, h0⟩
    · exact Or.inr ⟨g, 0, cap, fun _ => undef, rfl, (Array.getElem?_eq_some_iff.1 hb).1, by rw [h0]; exact Nat.zero_le _, fun i hi => by omega⟩
  · obtain ⟨g, cap, rfl, hB, hg, hcap, hmx, hcell, _⟩ := h.shape (by omega)
    refine Or.inr ⟨g, 0, cap, fun i => svs.getD i undef, rfl, hg, by omega, fun i hi => ?_⟩
    have e1 : svs.getD i undef = svs[i] := by rw [List.getD_eq_getElem?_getD, List.getElem?_eq_getElem hi]; rfl
    show w.cell? ⟨g, 0 + i, none⟩ = some (svs.getD i undef) ∧ anyBytes w (svs.getD i undef) (ps i)
    rw [e1, Nat.zero_add]
    exact ⟨hcell i _ (List.getElem?_eq_getElem hi), Or.inl (hp i hi)⟩
theorem infoSl : (Tryd.prog.info? 23).map (fun i => (i.zero, i.size, i.bytes)) = some (some (.slice none 0 0), 1, 24) := by kernel_rfl
/-- append(parts, l[i][:]). -/
theorem sl_append_run (w : World) (B : Nat) (v u : Value) (svs : List Value) (hv : owns w B 23 v svs) (hu : u.oneCell' = true) (hs : svs.length < 1000000) (hB : B ≤ w.heap.size) :
    ∃ a c w', (Builtin.append_ #[130, 130] 130 #[v, .slice (some ⟨w.heap.size, 0, none⟩) 1 1]).run Tryd.prog (w.alloc (.cells #[u] 23)) = .ok (.slice a (svs.length + 1) c) w' ∧ owns w' B 23 (.slice a (svs.length + 1) c) (svs ++ [u]) ∧ Below B w w' := by
  have b0 : Below w.heap.size w (w.alloc (.cells #[u] 23)) := (Below.refl _ _).alloc (Nat.le_refl _) _
  have h1 := hv.alloc (.cells #[u] 23)
  obtain ⟨a, c, w', hr, ho, hg, hat⟩ := row_append (P := Tryd.prog) (w.alloc (.cells #[u] 23)) 130 130 23 (.slice none 0 0) 1 24 Tryd.underlying130 infoSl rfl (by omega)
    B v svs.length svs h1 (.slice (some ⟨w.heap.size, 0, none⟩) 1 1) 1 [u] rfl
    ⟨_, _, rfl, fun _ => ⟨w.heap.size, 0, rfl, fun j x hx => by
      match j with
      | 0 =>
        have : u = x := by simpa using hx
        subst this; exact one_cell w _ _
      | j + 1 => simp at hx⟩⟩
    (fun x hx => by
      have : x = u := by simpa using hx
      subst this; exact hu) (by unfold maxLen; omega) (by omega) (by simp; omega)
  refine ⟨a, c, w', hr, by unfold owns; rw [List.length_append]; exact ho, (b0.mono hB).trans (below_grown hg (fun k hk => (hv.block k hk).1) (by simp; omega))⟩
theorem zero_s32 : ∀ w : World, (zeroValue 32).run Tryd.prog w = .ok (.agg (rowV 32 (fun _ => .int .u8 0))) w := fun w => by kernel_rfl
/-- the node of some sums. -/
def nodeS (L : List (List Int)) : List Int := sumL (preB 2 L.length (fun i => L.getD i []))
theorem nodeS_sum (L : List (List Int)) : isSum (nodeS L) := sumL_is _
end Go.Proofs.YtkgegihkhdgdoaaDoor

/- tree's node: of a nil book, of a book. -/
namespace Go.Proofs.YtkgegihkhdgdoaaDoor
set_option linter.unusedSimpArgs false
set_option linter.unusedVariables false
open Go.RowKit Go.Deep

theorem nodeS_light (L : List (List Int)) (hL : L.length ≤ 1000) (hs : ∀ x ∈ L, isSum x) : ∀ i, i ≤ L.length → 1 + (flatTo (blobsB (fun i => L.getD i [])) i).length ≤ 100000000 := by
  have h32 : ∀ i, i ≤ L.length → (flatTo (fun i => L.getD i []) i).length = 32 * i := by
    intro i
    induction i with
    | zero => intro _; rfl
    | succ i ih =>
      intro hi
      rw [flatTo, List.length_append, ih (by omega)]
      have : L.getD i [] = L[i] := by rw [List.getD_eq_getElem?_getD, List.getElem?_eq_getElem (by omega)]; rfl
      rw [this, (hs _ (List.getElem_mem _)).1]; omega
  intro i hi
  have h1 := blobs_le (fun i => L.getD i []) i
  have h2 := h32 i hi
  omega
set_option maxHeartbeats 2000000 in
set_option maxRecDepth 100000 in
theorem node_gen (kv : Value) (L : List (List Int)) (v : Value) (w : World) (h : sumsAt w v L) (hL : L.length ≤ 1000) (Q : World → World → Prop)
    (hOf : ∀ wz u, Below w.heap.size w wz → w.heap.size < wz.heap.size → anyParts wz u L.length (fun i => L.getD i []) → Calls Tryd.prog 69 #[kv, .int .i64 2, u] wz fun e w' => e = .returned (sumV (nodeS L)) ∧ (wz.heap.size ≤ w'.heap.size ∧ w'.heap[w.heap.size]? = wz.heap[w.heap.size]?) ∧ Q wz w') :
    Calls Tryd.prog 70 #[kv, v] w fun e w' => e = .returned (sumV (nodeS L)) ∧ ∃ wz wx, Below w.heap.size w wz ∧ w.heap.size < wz.heap.size ∧ Q wz wx ∧ But wx.heap.size w.heap.size wx w' ∧ w'.heap.size = wx.heap.size := by
  obtain ⟨hs, a, cap, rfl, hc, hm, hcl⟩ := h
  unfold maxLen at hm
  have q0 : (L.length : Int) ≤ 1000 := by omega
  have r0 := rowIs_box w 32 32 (fun _ => .int .u8 0)
  have hz32 := zero_s32
  obtain ⟨w1, hw1⟩ : ∃ w1, w1 = w.alloc (.cells (rowV 32 (fun _ => .int .u8 0)) 32) := ⟨_, rfl⟩
  have b1 : Below w.heap.size w w1 := by rw [hw1]; exact (Below.refl _ _).alloc (Nat.le_refl _) _
  rw [← hw1] at r0
  have s1 : w1.heap.size = w.heap.size + 1 := by rw [hw1]; simp
  have hmk := run_make_room (P := Tryd.prog) 130 23 (.slice none 0 0) 24 Tryd.underlying130 infoSl rfl .i64 .i64 L.length (by omega) (by omega) w1
  obtain ⟨w2, hw2⟩ : ∃ w2, w2 = w1.alloc (.cells (madeCells #[Value.slice none 0 0] L.length) 23) := ⟨_, rfl⟩
  rw [← hw2] at hmk
  have b2 : Below w1.heap.size w1 w2 := by rw [hw2]; exact (Below.refl _ _).alloc (Nat.le_refl _) _
  have hO : owns w2 w1.heap.size 23 (.slice (some ⟨w1.heap.size, 0, none⟩) 0 L.length) [] := by
    rw [hw2]
    exact ⟨rfl, Or.inr ⟨w1.heap.size, L.length, _, rfl, Nat.le_refl _, blk_alloc_new _ _, Nat.zero_le _, by unfold maxLen; omega, by rw [size_madeCells]; simp, by simp⟩⟩
  have HO : Hid _ := hO
  have R0 : Hid (w1.rowIs w.heap.size 32 32 (fun _ => .int .u8 0)) := (show w1.rowIs w.heap.size 32 32 (fun _ => .int .u8 0) from r0)
  have B1 : Hid _ := b1
  have B2 : Hid _ := b2
  have S1 : Hid _ := s1
  have HCL : Hid _ := hcl
  have HOF : Hid _ := hOf
  have HS : Hid _ := hs
  clear hO r0 b1 b2 s1 hcl hOf hs hw2
  go_enter Tryd.func70, Tryd.ntmps70
  go_upto_region 1 with fail
  rw [← hw1]
  clear hw1 hz32
  go_wp2_with (first | (refine wpList_make_run rfl _ _ _ rfl rfl rfl hmk ?_))
  clear hmk
  go_loopw [5, 12] (fun z i wr => ∃ (k : Nat) (g o : Nat), k ≤ L.length ∧ i = .int .i64 k ∧ (0 < L.length → a = some ⟨g, o, none⟩) ∧ owns wr w1.heap.size 23 z ((List.range k).map (sumSl g o)) ∧ Below w1.heap.size w1 wr) (fun _ i _ => L.length - (intOf i).toNat)
  case atStart =>
    by_cases h0 : 0 < L.length
    · obtain ⟨g, o, e, _⟩ := HCL.out h0
      exact ⟨0, g, o, by omega, rfl, fun _ => e, HO.out, B2.out⟩
    · exact ⟨0, 0, 0, by omega, rfl, fun h => absurd h h0, HO.out, B2.out⟩
  case round =>
    obtain ⟨k, g, o, hk, rfl, hgo, hown, hb⟩ := hrel
    clear HO
    have p0 : (0 : Int) ≤ (k : Int) := by omega
    by_cases hlt : k < L.length
    · have p1 : (k : Int) < (L.length : Int) := by omega
      have hae := hgo (by omega)
      subst hae
      have sz := hb.size
      obtain ⟨a8, c8, w8, hr8, ho8, b8⟩ := sl_append_run wr w1.heap.size u5 (sumSl g o k) _ hown rfl (by simp; omega) sz
      have hl8 : ((List.range k).map (sumSl g o)).length = k := by simp
      rw [hl8] at hr8 ho8
      have hu5 : ∃ x y, u5 = .slice x k y := by
        obtain ⟨x, y, e, _⟩ := ownsRow_slice hown
        rw [hl8] at e; exact ⟨x, y, e⟩
      obtain ⟨ux, uy, rfl⟩ := hu5
      have HO8 : Hid (owns w8 w1.heap.size 23 (.slice a8 (k + 1) c8) ((List.range (k + 1)).map (sumSl g o))) := (show owns w8 w1.heap.size 23 (.slice a8 (k + 1) c8) ((List.range (k + 1)).map (sumSl g o)) from by rw [List.range_succ, List.map_append]; exact ho8)
      have HB8 : Hid (Below w1.heap.size w1 w8) := (show Below w1.heap.size w1 w8 from hb.trans b8)
      unfold sumSl at hr8
      clear hown hb ho8 b8 hl8 hgo
      go_wp2_with (first | (at_builtin; refine wpList_append_run rfl (.tmp 15) (.tmp 20) _ rfl rfl rfl hr8 ?_))
      go_light
      exact ⟨⟨k + 1, g, o, by omega, by go_num, fun _ => rfl, HO8.out, HB8.out⟩, by simp [intOf]; omega⟩
    · obtain rfl : k = L.length := by omega
      have s1 := S1.out
      have sz := hb.size
      have bw : Below w.heap.size w wr := B1.out.trans (hb.mono (by omega))
      have hpp := owns_parts (ps := fun i => L.getD i []) hown (fun i hi => by
        have hi' : i < L.length := by simpa using hi
        obtain ⟨g', o', e, hg, hc'⟩ := HCL.out (by omega)
        have e2 : g = g' ∧ o = o' := by
          have := (hgo (by omega)).symm.trans e
          simpa using this
        obtain ⟨rfl, rfl⟩ := e2
        have hx := HS.out L[i] (List.getElem_mem _)
        have eD : L.getD i [] = L[i] := by rw [List.getD_eq_getElem?_getD, List.getElem?_eq_getElem hi']; rfl
        have e3 : ((List.range L.length).map (sumSl g o))[i] = sumSl g o i := by simp
        rw [e3, eD]
        refine Or.inr ⟨g, o + i * 32, 32, by rw [hx.1]; rfl, by rw [hx.1]; exact Nat.le_refl _, by unfold maxLen; omega, by have := bw.size; omega, fun j hj => ?_, hx.2⟩
        rw [bw.cell (p := ⟨g, o + i * 32 + j, none⟩) hg, hc' i hi' j (by rw [hx.1] at hj; exact hj)]; rfl)
      rw [List.length_map, List.length_range] at hpp
      have hlw : w.heap.size < wr.heap.size := by omega
      have X := HOF.out wr u5 bw hlw hpp.any
      unfold sumV at X
      obtain ⟨ux, uy, rfl, _, _⟩ := hpp.open
      have rz : wr.rowIs w.heap.size 32 32 (fun _ => .int .u8 0) := hb.row R0.out (by omega)
      have RZ : Hid _ := rz
      have BW : Hid _ := bw
      clear hown hb hpp rz bw hgo
      go_wp2_with fail
      refine X.mono ?_
      rintro e wx ⟨rfl, ⟨hsx, hbx⟩, hQ⟩
      clear X
      have rx : wx.rowIs w.heap.size 32 32 (fun _ => .int .u8 0) := World.rowIs.of_block RZ.out hbx
      have HQ : Hid _ := hQ
      clear hQ hbx
      go_wp2_with (first | (refine wpList_store_row rfl 32 _ _ rfl rfl w.heap.size 0 32 (arrV (nodeS L)) rfl rfl hi32' (fun _ _ => rfl) _ _ _ rx (by omega) ?_; intro w6 r6 hz6 hb6))
      exact bodyPost_ret (results_cell_seg rfl _ _ w.heap.size 32 32 (arrV (nodeS L)) _ rfl Tryd.underlying32 rfl hi32' (r6.congr fun i hi => by rw [if_pos (by omega), Nat.sub_zero])) rfl ⟨rfl, wr, wx, BW.out, hlw, HQ.out, hb6, hz6⟩
end Go.Proofs.YtkgegihkhdgdoaaDoor

/- Halves of numbers. -/
namespace Go.Proofs.YtkgegihkhdgdoaaDoor
set_option linter.unusedSimpArgs false
set_option linter.unusedVariables false
open Go.RowKit Go.Deep

/-- the greatest power of two below n. -/
def halfN (n : Nat) : Nat := if n < 2 then 0 else 2 ^ Nat.log2 (n - 1)
theorem halfN_small {n : Nat} (h : n < 2) : halfN n = 0 := by unfold halfN; rw [if_pos h]
theorem halfN_pow {n : Nat} (h : 2 ≤ n) : halfN n = 2 ^ Nat.log2 (n - 1) := by unfold halfN; rw [if_neg (by omega)]
theorem halfN_is {n : Nat} (h : 2 ≤ n) : 1 ≤ halfN n ∧ halfN n < n ∧ n ≤ 2 * halfN n := by
  rw [halfN_pow h]
  have h1 := Nat.log2_self_le (n := n - 1) (by omega)
  have h2 := Nat.lt_log2_self (n := n - 1)
  rw [Nat.pow_succ] at h2
  have h3 : 0 < 2 ^ Nat.log2 (n - 1) := Nat.two_pow_pos _
  omega
/-- the one power of two that is below n, and twice it is not. -/
theorem halfN_of {n k : Nat} (h1 : 2 ^ k < n) (h2 : n ≤ 2 * 2 ^ k) : halfN n = 2 ^ k := by
  have h3 : 0 < 2 ^ k := Nat.two_pow_pos _
  rw [halfN_pow (by omega)]
  congr 1
  have hn : n - 1 ≠ 0 := by omega
  rw [Nat.log2_eq_iff hn]
  rw [Nat.pow_succ]
  omega
def halfI (n : Int) : Int := (halfN n.toNat : Int)
theorem len8_pow : ∀ y : Fin 256, y.1 ≠ 0 → ∃ k, Go.Lib.len8 (y.1 : Int) = ((k + 1 : Nat) : Int) ∧ 2 ^ k ≤ y.1 ∧ y.1 < 2 ^ (k + 1) ∧ k < 8 := by
  have h : ∀ y : Fin 256, y.1 ≠ 0 → Go.Lib.len8 (y.1 : Int) = ((Nat.log2 y.1 + 1 : Nat) : Int) := by decide +kernel
  intro y hy
  have h1 := Nat.log2_self_le (n := y.1) hy
  have h2 := Nat.lt_log2_self (n := y.1)
  refine ⟨Nat.log2 y.1, h y hy, h1, h2, ?_⟩
  have : Nat.log2 y.1 < 8 := (Nat.log2_lt hy).2 (by have := y.2; omega)
  exact this
theorem len8_pow' (y : Int) (h0 : 0 < y) (h1 : y < 256) : ∃ k : Nat, Go.Lib.len8 y = ((k + 1 : Nat) : Int) ∧ (2 ^ k : Nat) ≤ y.toNat ∧ y.toNat < 2 ^ (k + 1) ∧ k < 8 := by
  have := len8_pow ⟨y.toNat, by omega⟩ (by simp; omega)
  simp only at this
  rw [show ((y.toNat : Nat) : Int) = y by omega] at this
  exact this
/-- the digits of x and of its upper part. -/
theorem pow_up {x y s k : Nat} (hy : y = x / 2 ^ s) (h1 : 2 ^ k ≤ y) (h2 : y < 2 ^ (k + 1)) : 2 ^ (s + k) ≤ x ∧ x < 2 ^ (s + k + 1) := by
  subst hy
  have hs : 0 < 2 ^ s := Nat.two_pow_pos _
  rw [Nat.le_div_iff_mul_le hs] at h1
  rw [Nat.div_lt_iff_lt_mul hs] at h2
  rw [Nat.pow_add, Nat.mul_comm (2 ^ s), show s + k + 1 = (k + 1) + s by omega, Nat.pow_add 2 (k + 1) s]
  exact ⟨h1, h2⟩
theorem lenI_step (x y : Int) (s : Nat) (h0 : 0 < y) (h1 : y < 256) (hx : 0 ≤ x) (hy : y.toNat = x.toNat / 2 ^ s) (hs : s ≤ 56) : ∃ k : Nat, (s : Int) + Go.Lib.len8 y = ((k + 1 : Nat) : Int) ∧ 2 ^ k ≤ x.toNat ∧ x.toNat < 2 ^ (k + 1) ∧ k < 64 := by
  obtain ⟨k, e, a, b, c⟩ := len8_pow' y h0 h1
  obtain ⟨u, v⟩ := pow_up hy a b
  exact ⟨s + k, by rw [e]; omega, u, v, by omega⟩
theorem lenI_pow (x : Int) (h0 : 0 < x) (h1 : x < 18446744073709551616) : ∃ k : Nat, lenI x = ((k + 1 : Nat) : Int) ∧ 2 ^ k ≤ x.toNat ∧ x.toNat < 2 ^ (k + 1) ∧ k < 64 := by
  unfold lenI
  split
  · split
    · split
      · exact lenI_step x _ 56 (by omega) (by omega) (by omega) (by simp; omega) (by omega)
      · exact lenI_step x _ 48 (by omega) (by omega) (by omega) (by simp; omega) (by omega)
    · split
      · exact lenI_step x _ 40 (by omega) (by omega) (by omega) (by simp; omega) (by omega)
      · exact lenI_step x _ 32 (by omega) (by omega) (by omega) (by simp; omega) (by omega)
  · split
    · split
      · exact lenI_step x _ 24 (by omega) (by omega) (by omega) (by simp; omega) (by omega)
      · exact lenI_step x _ 16 (by omega) (by omega) (by omega) (by simp; omega) (by omega)
    · split
      · exact lenI_step x _ 8 (by omega) (by omega) (by omega) (by simp; omega) (by omega)
      · exact lenI_step x _ 0 (by omega) (by omega) (by omega) (by simp) (by omega)
set_option maxHeartbeats 1000000 in
theorem len_any (x : Int) (h0 : 0 ≤ x) (h1 : x < 18446744073709551616) (w : World) :
    Calls Tryd.prog 91 #[.int .u64 x] w fun e w' => e = .returned (.int .i64 (lenI x)) ∧ w' = w := by
  have X := len64_any x h0 h1 w
  go_enter Tryd.func91, Tryd.ntmps91
  go_wp2_with fail
  refine X.mono ?_
  rintro e w' ⟨rfl, hw⟩
  obtain rfl := hw.symm
  go_wp2
  go_ret
  exact ⟨rfl, rfl⟩
end Go.Proofs.YtkgegihkhdgdoaaDoor

/- Half, by the program and by the document. -/
namespace Go.Proofs.YtkgegihkhdgdoaaDoor
set_option linter.unusedSimpArgs false
set_option linter.unusedVariables false
open Go.RowKit Go.Deep

theorem halfI_small {n : Int} (h : n < 2) : halfI n = 0 := by unfold halfI; rw [halfN_small (by omega)]; rfl
theorem halfI_of {n : Int} {k : Nat} (h1 : (2 ^ k : Nat) < n) (h2 : n ≤ 2 * ((2 ^ k : Nat) : Int)) : halfI n = ((2 ^ k : Nat) : Int) := by
  unfold halfI
  rw [halfN_of (k := k) (by omega) (by omega)]
theorem pow_lt62 {k : Nat} (h : k < 63) : 1 ≤ 2 ^ k ∧ 2 ^ k ≤ 4611686018427387904 := by
  have h1 := Nat.pow_le_pow_right (show 0 < 2 by omega) (show k ≤ 62 by omega)
  have h2 : 0 < 2 ^ k := Nat.two_pow_pos _
  rw [show (2 : Nat) ^ 62 = 4611686018427387904 from rfl] at h1
  omega
theorem wrap_pow {k : Nat} (h : k < 63) : wrap64 ((2 : Int) ^ k) = ((2 ^ k : Nat) : Int) := by
  have hp := pow_lt62 h
  have e : ((2 : Int) ^ k) = ((2 ^ k : Nat) : Int) := by rw [Int.natCast_pow]; rfl
  rw [e]
  exact IntWalk.wrap64_in _ ⟨by omega, by omega⟩
set_option maxHeartbeats 1000000 in
theorem half_any (n : Int) (h0 : -9223372036854775808 ≤ n) (h1 : n ≤ 9223372036854775807) (w : World) :
    Calls Tryd.prog 71 #[.int .i64 n] w fun e w' => e = .returned (.int .i64 (halfI n)) ∧ w' = w := by
  by_cases h2 : n < 2
  · have E : Hid (halfI n = 0) := (show halfI n = 0 from halfI_small h2)
    go_enter Tryd.func71, Tryd.ntmps71
    go_wp2
    go_ret
    exact ⟨by rw [E.out]; rfl, rfl⟩
  · obtain ⟨k, hk, ha, hb, hc⟩ := lenI_pow (n - 1) (by omega) (by omega)
    have hk63 : k < 63 := by
      by_cases e : k < 63
      · exact e
      · obtain rfl : k = 63 := by omega
        rw [show (2 : Nat) ^ 63 = 9223372036854775808 from rfl] at ha
        omega
    have E : Hid (halfI n = ((2 ^ k : Nat) : Int)) := (show halfI n = ((2 ^ k : Nat) : Int) from halfI_of (k := k) (by omega) (by rw [Nat.pow_succ] at hb; omega))
    have X := len_any (n - 1) (by omega) (by omega) w
    rw [hk] at X
    have hp := pow_lt62 hk63
    have q0 : (k : Int) < 63 := by omega
    clear ha hb hk
    go_enter Tryd.func71, Tryd.ntmps71
    go_wp2_with fail
    refine X.mono ?_
    rintro e w' ⟨rfl, hw⟩
    obtain rfl := hw.symm
    clear X hw
    go_wp2
    go_ret
    exact ⟨by rw [E.out, ← wrap_pow hk63]; rfl, rfl⟩
/-- the document's p and h behind k rounds. -/
def pI (k : Nat) : Int := if k < 63 then ((2 ^ k : Nat) : Int) else -9223372036854775808
def hI (k : Nat) : Int := if k = 0 then 0 else ((2 ^ (k - 1) : Nat) : Int)
/-- is there such a place? -/
def thereB (n at_ : Int) : Bool := decide (0 ≤ at_) && decide (at_ < n)
end Go.Proofs.YtkgegihkhdgdoaaDoor

/- Nodes and roots. -/
namespace Go.Proofs.YtkgegihkhdgdoaaDoor
set_option linter.unusedSimpArgs false
set_option linter.unusedVariables false
open Go.RowKit Go.Deep

theorem But.below' {B b : Nat} {w w' : World} (h : But w.heap.size b w w') (hb : B ≤ b) (hB : B ≤ w.heap.size) : Below B w w' := (h.mono hB).below hb
theorem node_nil (L : List (List Int)) (v : Value) (w : World) (h : sumsAt w v L) (hL : L.length ≤ 1000) (ht : tabIs w) :
    Calls Tryd.prog 70 #[.pointer none, v] w fun e w' => e = .returned (sumV (nodeS L)) ∧ Below w.heap.size w w' := by
  refine (node_gen (.pointer none) L v w h hL (fun wz w' => Below wz.heap.size wz w') (fun wz u hb hlt hp => ?_)).mono ?_
  · refine (of_nil 2 L.length u _ wz hp (nodeS_light L hL h.1) (ht.below hb ht.1)).mono ?_
    rintro e w' ⟨rfl, hb'⟩
    exact ⟨rfl, ⟨hb'.size, hb'.block _ hlt⟩, hb'⟩
  · rintro e w' ⟨rfl, wz, wx, h1, h2, h3, h4, h5⟩
    have := h3.size
    exact ⟨rfl, (h1.trans (h3.mono (by omega))).trans (h4.below' (Nat.le_refl _) (by omega))⟩
/-- the text that a node is noted with. -/
def nodeT (L : List (List Int)) : ByteArray := strOf (preB 2 L.length (fun i => L.getD i []))
theorem node_book (F : Nat → Prop) (k : Nat) (N : List Nt) (c : Int) (L : List (List Int)) (v : Value) (w : World) (hk : bookAt w F k N c) (h : sumsAt w v L) (hL : L.length ≤ 1000) (ht : tabIs w) (hF0 : ¬ F 1) (hN : N.length < 1000000) (hc : 0 ≤ c ∧ c < 1000000000) :
    Calls Tryd.prog 70 #[.pointer (some ⟨k, 0, none⟩), v] w fun e w' => e = .returned (sumV (nodeS L)) ∧ bookAt w' (Gr F w w') k (addN N (nodeS L, nodeT L)) (c + 1) ∧ Fr F w w' := by
  have hlt := hk.2.1
  have hFw : ¬ F w.heap.size := fun hf => by have := hlt _ hf; omega
  refine (node_gen (.pointer (some ⟨k, 0, none⟩)) L v w h hL (fun wz w' => bookAt w' (Gr F wz w') k (addN N (nodeS L, nodeT L)) (c + 1) ∧ Fr F wz w') (fun wz u hb hl hp => ?_)).mono ?_
  · refine (of_any F k N c 2 L.length u _ wz (hk.below hb (Nat.le_refl _)) hp (nodeS_light L hL h.1) (ht.below hb ht.1) hF0 hN hc).mono ?_
    rintro e w' ⟨rfl, hbk, hf⟩
    exact ⟨rfl, ⟨hf.size, hf.block _ hl hFw⟩, hbk, hf⟩
  · rintro e w' ⟨rfl, wz, wx, h1, h2, ⟨h3, h3'⟩, h4, h5⟩
    have s3 := h3'.size
    refine ⟨rfl, ?_, ?_⟩
    · refine (h3.far (fun j hj hl => h4.block j hl (fun e => ?_)) (by omega)).grow (fun j hj => ?_) (fun j hj => ?_)
      · rcases hj with hj | hj
        · exact hFw (e ▸ hj)
        · omega
      · rcases hj with hj | hj
        · exact Or.inl hj
        · exact Or.inr ⟨by omega, by omega⟩
      · rcases hj with hj | hj
        · have := hlt j hj; omega
        · exact hj.2
    · refine ((Fr.of_below F h1).trans h3' (fun _ _ h => h)).trans (G := fun j => j = w.heap.size) ⟨h4.os, h4.tape, h4.output, by omega, fun j hj hne => h4.block j hj hne⟩ (fun j hj e => by omega)
/-- the root of a row of sums. -/
def rootF : Nat → List (List Int) → List Int
  | 0, _ => nodeS []
  | fuel + 1, L => if L.length = 0 then nodeS [] else if L.length = 1 then L.getD 0 [] else nodeS [rootF fuel (L.take (halfN L.length)), rootF fuel (L.drop (halfN L.length))]
def rootS (L : List (List Int)) : List Int := rootF L.length L
theorem half_take {L : List (List Int)} (h : 2 ≤ L.length) : (L.take (halfN L.length)).length = halfN L.length ∧ (L.drop (halfN L.length)).length = L.length - halfN L.length ∧ halfN L.length < L.length ∧ 1 ≤ halfN L.length := by
  have := halfN_is h
  simp
  omega
theorem rootF_fuel : ∀ (n m : Nat) (L : List (List Int)), L.length ≤ n → L.length ≤ m → rootF n L = rootF m L
  | 0, 0, L, _, _ => rfl
  | 0, m + 1, L, h, _ => by rw [rootF, rootF, if_pos (by omega)]
  | n + 1, 0, L, _, h => by rw [rootF, rootF, if_pos (by omega)]
  | n + 1, m + 1, L, h1, h2 => by
    rw [rootF, rootF]
    by_cases e0 : L.length = 0
    · rw [if_pos e0, if_pos e0]
    · by_cases e1 : L.length = 1
      · rw [if_neg e0, if_neg e0, if_pos e1, if_pos e1]
      · have := half_take (L := L) (by omega)
        rw [if_neg e0, if_neg e0, if_neg e1, if_neg e1, rootF_fuel n m _ (by omega) (by omega), rootF_fuel n m _ (by omega) (by omega)]
theorem rootS_none {L : List (List Int)} (h : L.length = 0) : rootS L = nodeS [] := by unfold rootS; rw [h]; rfl
theorem rootS_one {L : List (List Int)} (h : L.length = 1) : rootS L = L.getD 0 [] := by unfold rootS; rw [h, rootF, if_neg (by omega), if_pos h]
theorem rootS_more {L : List (List Int)} (h : 2 ≤ L.length) : rootS L = nodeS [rootS (L.take (halfN L.length)), rootS (L.drop (halfN L.length))] := by
  have ht := half_take h
  unfold rootS
  obtain ⟨n, hn⟩ : ∃ n, L.length = n + 1 := ⟨L.length - 1, by omega⟩
  rw [show rootF L.length L = rootF (n + 1) L by rw [hn], rootF, if_neg (by omega), if_neg (by omega)]
  rw [rootF_fuel n _ _ (by omega) (Nat.le_refl _), rootF_fuel n _ (L.drop (halfN L.length)) (by omega) (Nat.le_refl _)]
theorem rootF_sum : ∀ (n : Nat) (L : List (List Int)), (∀ x ∈ L, isSum x) → isSum (rootF n L)
  | 0, _, _ => nodeS_sum _
  | n + 1, L, h => by
    rw [rootF]
    split
    · exact nodeS_sum _
    · split
      · rename_i h1
        rw [List.getD_eq_getElem?_getD, List.getElem?_eq_getElem (by omega)]; exact h _ (List.getElem_mem _)
      · exact nodeS_sum _
theorem rootS_sum {L : List (List Int)} (h : ∀ x ∈ L, isSum x) : isSum (rootS L) := rootF_sum _ L h
/-- the notes behind a root, and how often was hashed. -/
def rootNF : Nat → List Nt → List (List Int) → List Nt
  | 0, N, _ => addN N (nodeS [], nodeT [])
  | fuel + 1, N, L => if L.length = 0 then addN N (nodeS [], nodeT []) else if L.length = 1 then N else
      addN (rootNF fuel (rootNF fuel N (L.take (halfN L.length))) (L.drop (halfN L.length))) (nodeS [rootS (L.take (halfN L.length)), rootS (L.drop (halfN L.length))], nodeT [rootS (L.take (halfN L.length)), rootS (L.drop (halfN L.length))])
def rootN (N : List Nt) (L : List (List Int)) : List Nt := rootNF L.length N L
theorem rootNF_fuel : ∀ (n m : Nat) (N : List Nt) (L : List (List Int)), L.length ≤ n → L.length ≤ m → rootNF n N L = rootNF m N L
  | 0, 0, N, L, _, _ => rfl
  | 0, m + 1, N, L, h, _ => by rw [rootNF, rootNF, if_pos (by omega)]
  | n + 1, 0, N, L, _, h => by rw [rootNF, rootNF, if_pos (by omega)]
  | n + 1, m + 1, N, L, h1, h2 => by
    rw [rootNF, rootNF]
    by_cases e0 : L.length = 0
    · rw [if_pos e0, if_pos e0]
    · by_cases e1 : L.length = 1
      · rw [if_neg e0, if_neg e0, if_pos e1, if_pos e1]
      · have := half_take (L := L) (by omega)
        rw [if_neg e0, if_neg e0, if_neg e1, if_neg e1, rootNF_fuel n m N _ (by omega) (by omega), rootNF_fuel n m _ _ (by omega) (by omega)]
theorem rootN_none {L : List (List Int)} (N : List Nt) (h : L.length = 0) : rootN N L = addN N (nodeS [], nodeT []) := by unfold rootN; rw [h]; rfl
theorem rootN_one {L : List (List Int)} (N : List Nt) (h : L.length = 1) : rootN N L = N := by unfold rootN; rw [h, rootNF, if_neg (by omega), if_pos h]
theorem rootN_more {L : List (List Int)} (N : List Nt) (h : 2 ≤ L.length) : rootN N L = addN (rootN (rootN N (L.take (halfN L.length))) (L.drop (halfN L.length))) (nodeS [rootS (L.take (halfN L.length)), rootS (L.drop (halfN L.length))], nodeT [rootS (L.take (halfN L.length)), rootS (L.drop (halfN L.length))]) := by
  have ht := half_take h
  unfold rootN
  obtain ⟨n, hn⟩ : ∃ n, L.length = n + 1 := ⟨L.length - 1, by omega⟩
  rw [show rootNF L.length N L = rootNF (n + 1) N L by rw [hn], rootNF, if_neg (by omega), if_neg (by omega)]
  rw [rootNF_fuel n _ N _ (by omega) (Nat.le_refl _), rootNF_fuel n _ _ (L.drop (halfN L.length)) (by omega) (Nat.le_refl _)]
def callsR (n : Nat) : Int := if n = 0 then 1 else (n : Int) - 1
/-- two sums in a new row. -/
theorem build_two (f g : Nat → Value) (w : World) : (Instr.buildSlice 39 2 #[(0, .agg (rowV 32 f)), (1, .agg (rowV 32 g))]).run Tryd.prog w = .ok (.slice (some ⟨w.heap.size, 0, none⟩) 2 2) (w.alloc (.cells (rowV 64 (fun j => if j < 32 then f j else g (j - 32))) 32)) := by
  show (_ : Result Value) = _
  kernel_rfl
theorem two_sums (w : World) (p q : List Int) (hp : isSum p) (hq : isSum q) : sumsAt (w.alloc (.cells (rowV 64 (fun j => if j < 32 then arrV p j else arrV q (j - 32))) 32)) (.slice (some ⟨w.heap.size, 0, none⟩) 2 2) [p, q] := by
  refine ⟨fun x hx => ?_, _, 2, rfl, Nat.le_refl _, by unfold maxLen; omega, fun _ => ⟨w.heap.size, 0, rfl, by simp, fun i hi j hj => ?_⟩⟩
  · rcases List.mem_cons.1 hx with rfl | hx
    · exact hp
    · rw [List.mem_singleton.1 hx]; exact hq
  · have hr := rowIs_box w 32 64 (fun j => if j < 32 then arrV p j else arrV q (j - 32))
    have hi' : i = 0 ∨ i = 1 := by simp at hi; omega
    rcases hi' with rfl | rfl
    · rw [show 0 + 0 * 32 + j = j by omega, hr.cell (by omega), if_pos hj]; rfl
    · rw [show 0 + 1 * 32 + j = 32 + j by omega, hr.cell (by omega), if_neg (by omega), show 32 + j - 32 = j by omega]; rfl
theorem exec_bslice2' {P : Program} {o : Oper} {ev : Operand → Value} {w w' : World} {v : Value} (t : TypeId) (n i j : Nat) (x y : Operand) (a b : Value) (ho : o.op = .buildSlice t n #[(i, x), (j, y)]) (hx : ev x = a) (hy : ev y = b)
    (hr : (Instr.buildSlice t n #[(i, a), (j, b)]).run P w = .ok v w') : (execOp ev o).run P w = .ok (.value v) w' := by
  unfold execOp
  simp only [ho, List.map_toArray, List.map_cons, List.map_nil, hx, hy, Sem.run_bind, hr, Result.andThen_ok, Sem.run_pure]
theorem stow32T_run (w : World) (b : Nat) (q : List Int) {t : Nat} {f : Nat → Value} (hr : w.rowIs b t 32 f) : (storeVar 32 ⟨b, 0, none⟩ (.agg (rowV 32 (arrV q)))).run Tryd.prog w = .ok () (w.setCells b 0 (rowV 32 (arrV q)).toList) :=
  run_storeVar_mid (P := Tryd.prog) w b 0 32 (rowV 32 (arrV q)) (by rw [rowV_size]; exact there_of_row hr (by omega)) (by rw [hi32', rowV_size]) (by
    rw [Array.all_eq_true_iff_forall_mem]
    intro v hv
    obtain ⟨i, hi', rfl⟩ := Array.mem_iff_getElem.1 hv
    have hlt : i < 32 := by rw [rowV_size] at hi'; exact hi'
    have := rowV_get 32 (arrV q) i hlt
    rw [Array.getElem?_eq_getElem hi'] at this
    rw [Option.some.inj this]; rfl)
theorem stow32T_row (w : World) (b : Nat) (q : List Int) {t : Nat} {f : Nat → Value} (hr : w.rowIs b t 32 f) : (w.setCells b 0 (rowV 32 (arrV q)).toList).rowIs b t 32 (arrV q) ∧ (w.setCells b 0 (rowV 32 (arrV q)).toList).heap.size = w.heap.size ∧ But w.heap.size b w (w.setCells b 0 (rowV 32 (arrV q)).toList) :=
  ⟨(rowIs_splice hr).congr fun i hi => by rw [if_pos (by omega), Nat.sub_zero], size_setCells _ _ _ _, but_setCells _ _ (But.refl _ _ _)⟩
end Go.Proofs.YtkgegihkhdgdoaaDoor
