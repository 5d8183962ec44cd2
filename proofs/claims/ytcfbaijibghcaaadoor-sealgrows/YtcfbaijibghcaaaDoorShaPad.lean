import Derived.Test.YtcfbaijibghcaaaDoorShaAdd
import Derived.Lib.SliceRun
namespace Go.Proofs.YtcfbaijibghcaaaDoor
open Go.RowKit Go.Deep

section
variable {P : Program}
/-- a[m:] of an array behind a pointer, its elements of one cell. -/
theorem run_sliceAt_arr (t e : TypeId) (b o len m : Nat) (x : Int) (hx : x = m) (hu : P.underlying t = some (.array len e)) (hs : (P.info? e).map (·.size) = some 1) (hm : m ≤ len) :
    ∃ o', (m < len → o' = o + m) ∧ ∀ w : World, (Instr.sliceAt t (.pointer (some ⟨b, o, none⟩)) (some (.int .i64 x)) none none).run P w = .ok (.slice (some ⟨b, o', none⟩) (len - m) (len - m)) w := by
  subst hx
  cases hq : P.info? e with
  | none => simp [hq] at hs
  | some i =>
    have hi : i.size = 1 := by simpa [hq] using hs
    have h0 : (0 : Int) ≤ (m : Int) ∧ (m : Int) ≤ (len : Int) := by omega
    by_cases hc : len = m
    · refine ⟨o, fun h => by omega, fun w => ?_⟩
      simp [Instr.sliceAt, Instr.sliceBounds, Instr.sliceBound, asIntOf, Instr.sureAddr, run_underlying hu, sizeOf, typeInfo, hq, h0, hc]
    · refine ⟨o + m, fun _ => rfl, fun w => ?_⟩
      simp [Instr.sliceAt, Instr.sliceBounds, Instr.sliceBound, asIntOf, Instr.sureAddr, run_underlying hu, sizeOf, typeInfo, hq, hi, h0, hc, hm, Addr.add_mid]
/-- clear, of any number of elements of one cell each in a row. -/
theorem run_clear_seg (w : World) (t e ty : TypeId) (z : Value) (ht : P.underlying t = some (.slice e)) (hv : ∀ w, (zeroValue e).run P w = .ok z w) (hz : z.cells = #[z]) (h1 : z.oneCell' = true) (b o n c T N : Nat) (F : Nat → Value)
    (hr : w.rowIs b T N F) (hn : 0 < n → o + n ≤ N) :
    (Builtin.clear_ #[t] ty #[.slice (some ⟨b, o, none⟩) n c]).run P w = .ok (.tuple #[]) (w.setCells b o (List.replicate n z)) := by
  by_cases h : 0 < n
  · exact Lib.run_clear_slice w t e ty z ht hv hz h1 b o n c h (fun j hj => by rw [hr.cell (by omega)]; rfl) (fun j _ => hr.frozen _)
  · obtain rfl : n = 0 := by omega
    simp [Builtin.clear_, run_underlying ht, World.setCells]
end

/-- a block's bytes behind the message's end. -/
def padF (f : Nat → Int) (q i : Nat) : Int := if i < q then f i else if i = q then 128 else 0
/-- the length's bytes at a block's end. -/
def lenF (f : Nat → Int) (n i : Nat) : Int := if i < 56 then f i else (8 * (n : Int)) / 2 ^ (56 - 8 * (i - 56)) % 256
/-- the words of a whole message. -/
def padW (v f : Nat → Int) (n : Nat) : Nat → Int :=
  if n % 64 < 56 then takeI v (lenF (padF f (n % 64)) n) else takeI (takeI v (padF f (n % 64))) (lenF (fun _ => 0) n)
theorem padF_byte {f : Nat → Int} {q : Nat} (hf : ∀ i, 0 ≤ f i ∧ f i ≤ 255) (i : Nat) : 0 ≤ padF f q i ∧ padF f q i ≤ 255 := by
  unfold padF; split
  · exact hf _
  · split <;> omega
theorem lenF_byte {f : Nat → Int} {n : Nat} (hf : ∀ i, 0 ≤ f i ∧ f i ≤ 255) (i : Nat) : 0 ≤ lenF f n i ∧ lenF f n i ≤ 255 := by
  unfold lenF; split
  · exact hf _
  · omega

theorem hashV_set_byte (v f : Nat → Int) (c : Int) (q : Nat) (x : Int) (hq : q < 64) (j : Nat) : (if j = 8 + q then Value.int .u8 x else hashV v f c j) = hashV v (fun i => if i = q then x else f i) c j := by
  unfold hashV
  dsimp only
  by_cases e : j = 8 + q
  · subst e; rw [if_pos rfl, if_neg (by omega), if_pos (by omega), if_pos (by omega)]
  · rw [if_neg e]
    by_cases e1 : j < 8
    · rw [if_pos e1, if_pos e1]
    · rw [if_neg e1, if_neg e1]
      by_cases e2 : j < 72
      · rw [if_pos e2, if_pos e2, if_neg (by omega)]
      · rw [if_neg e2, if_neg e2]
/-- one byte of a hash's block is stored. -/
theorem hash_set {w : World} {b : Nat} {v f : Nat → Int} {c : Int} (h : hashIs w b v f c) (q : Nat) (hq : q < 64) (x : Int) : hashIs (w.setCell ⟨b, 8 + q, none⟩ (.int .u8 x)) b v (fun i => if i = q then x else f i) c :=
  (h.set (8 + q) (.int .u8 x)).congr fun j _ => hashV_set_byte v f c q x hq j
theorem hash_congr {w : World} {b : Nat} {v f g : Nat → Int} {c : Int} (h : hashIs w b v f c) (e : ∀ i, i < 64 → f i = g i) : hashIs w b v g c :=
  h.congr fun j _ => by
    unfold hashV
    by_cases e1 : j < 8
    · rw [if_pos e1, if_pos e1]
    · rw [if_neg e1, if_neg e1]
      by_cases e2 : j < 72
      · rw [if_pos e2, if_pos e2, e _ (by omega)]
      · rw [if_neg e2, if_neg e2]
/-- noughts behind the byte q. -/
theorem hash_clear {w : World} {b o' : Nat} {v f : Nat → Int} {c : Int} (h : hashIs w b v f c) (q : Nat) (hq : q < 64) (ho : q + 1 < 64 → o' = 8 + (q + 1)) :
    hashIs (w.setCells b o' (List.replicate (63 - q) (.int .u8 0))) b v (fun i => if q < i then 0 else f i) c :=
  (rowIs_setCells _ _ h).congr fun j hj => by
    rw [List.length_replicate]
    unfold hashV
    dsimp only
    by_cases e : o' ≤ j ∧ j < o' + (63 - q)
    · have := ho (by omega)
      rw [if_pos e, if_neg (by omega), if_pos (by omega), if_pos (by omega), List.getD_eq_getElem?_getD, List.getElem?_replicate, if_pos (by omega)]; rfl
    · rw [if_neg e]
      by_cases e1 : j < 8
      · rw [if_pos e1, if_pos e1]
      · rw [if_neg e1, if_neg e1]
        by_cases e2 : j < 72
        · have h3 : ¬ q < j - 8 := fun h2 => by have := ho (by omega); omega
          rw [if_pos e2, if_pos e2, if_neg h3]
        · rw [if_neg e2, if_neg e2]
theorem zero_byte : ∀ w : World, (zeroValue 5).run Tryd.prog w = .ok (.int .u8 0) w := fun w => by kernel_rfl

set_option maxHeartbeats 1000000 in
set_option maxRecDepth 100000 in
theorem pad_short (b : Nat) (v f : Nat → Int) (n : Nat) (w : World) (h : hashIs w b v f n) (hn : n < 1099511627776) (hq : n % 64 < 56)
    (hk : ∀ i, i < 64 → w.cell? ⟨0, i, none⟩ = some (.int .u32 (kAt i))) (hb0 : b ≠ 0) :
    Calls Tryd.prog 50 #[.pointer (some ⟨b, 0, none⟩)] w fun e w' => e = .returned (.tuple #[]) ∧ But w.heap.size b w w' ∧ ∃ f', hashIs w' b (padW v f n) f' n := by
  have hlt := h.lt
  obtain ⟨q, hqn⟩ : ∃ q, q = n % 64 := ⟨_, rfl⟩
  have hq56 : q < 56 := by omega
  have q1 : (q : Int) < 56 := by omega
  have q0 : (0 : Int) ≤ (q : Int) := by omega
  have q2 : (q : Int) < 64 := by omega
  have hw := waiting_any b v f n w h
  rw [show (n : Int) % 64 = (q : Int) by omega] at hw
  have cq : w.cell? ⟨b, 8 + q, none⟩ = some (.int .u8 (f q)) := by rw [h.cell (by omega), hashV_byte _ _ _ _ (by omega)]
  have zq := h.frozen (8 + q)
  have HQ : Hid (q = n % 64) := hqn
  clear hqn hq
  have rA := hash_set h q (by omega) 128
  obtain ⟨o', ho', hsl⟩ := run_sliceAt_arr (P := Tryd.prog) 95 5 b 8 64 (q + 1) ((q : Int) + 1) (by omega) Tryd.underlying95 (by kernel_rfl) (by omega)
  have hcl := run_clear_seg (P := Tryd.prog) (w.setCell ⟨b, 8 + q, none⟩ (.int .u8 128)) 36 5 0 (.int .u8 0) Tryd.underlying36 zero_byte rfl rfl b o' (63 - q) (63 - q) _ _ _ rA (fun h => by have := ho' (by omega); omega)
  have rW := hash_clear rA q (by omega) ho'
  have hbW : But w.heap.size b w ((w.setCell ⟨b, 8 + q, none⟩ (.int .u8 128)).setCells b o' (List.replicate (63 - q) (.int .u8 0))) := but_setCells _ _ ((But.refl _ _ _).set _ _)
  revert hcl rW hbW
  generalize (w.setCell ⟨b, 8 + q, none⟩ (.int .u8 128)).setCells b o' (List.replicate (63 - q) (.int .u8 0)) = W
  intro hcl rW hbW
  have rW' : hashIs W b v (padF f q) n := hash_congr rW fun i _ => by
    unfold padF
    by_cases e : q < i
    · rw [if_pos e, if_neg (by omega), if_neg (by omega)]
    · rw [if_neg e]
      by_cases e2 : i = q
      · rw [if_pos e2, if_neg (by omega), if_pos e2]
      · rw [if_neg e2, if_pos (by omega)]
  have cW : W.cell? ⟨b, 72, none⟩ = some (.int .u64 n) := rW.cell (by omega)
  clear rW ho' rA
  go_enter Tryd.func50, Tryd.ntmps50
  go_wp2_with fail
  refine hw.mono ?_
  rintro e w' ⟨rfl, hww⟩
  obtain rfl := hww.symm
  clear hw hww
  go_wp2
  clear hcl hsl cW cq zq
  go_loopw [37] (fun i wr => ∃ k : Nat, k ≤ 8 ∧ i = .int .i64 k ∧ But w.heap.size b w wr ∧ hashIs wr b v (fun j => if j < 56 + k then lenF (padF f q) n j else (padF f q) j) n) (fun i _ => 8 - (intOf i).toNat)
  case atStart => exact ⟨0, by omega, rfl, hbW, hash_congr rW' fun i _ => by
    by_cases e : i < 56
    · rw [if_pos (by omega), lenF, if_pos e]
    · rw [if_neg (by omega)]⟩
  case round =>
    clear hbW rW'
    obtain ⟨k, hk8, rfl, hb, r⟩ := hrel
    by_cases hlt8 : k < 8
    · have b0 : (0 : Int) ≤ (k : Int) := by omega
      have b1 : (k : Int) < 8 := by omega
      have b2 : (0 : Int) ≤ 56 + (k : Int) := by omega
      have b3 : 56 + (k : Int) < 64 := by omega
      have b4 : (0 : Int) ≤ 56 - 8 * (k : Int) := by omega
      have b5 : 56 - 8 * (k : Int) ≤ 64 := by omega
      have e1 : IntKind.i64.wrap (56 + (k : Int)) = 56 + (k : Int) := IntWalk.i64_in _ (by omega)
      have e2 : IntKind.i64.wrap (8 * (k : Int)) = 8 * (k : Int) := IntWalk.i64_in _ (by omega)
      have e3 : IntKind.i64.wrap (56 - 8 * (k : Int)) = 56 - 8 * (k : Int) := IntWalk.i64_in _ (by omega)
      obtain ⟨x, c2⟩ : ∃ x, wr.cell? ⟨b, 8 + (56 + k), none⟩ = some x := ⟨_, r.cell (by omega)⟩
      have c1 : wr.cell? ⟨b, 8 + (56 + (k : Int)).toNat, none⟩ = some x := by
        rw [show (56 + (k : Int)).toNat = 56 + k by omega]; exact c2
      have z1 := r.frozen (8 + (56 + (k : Int)).toNat)
      have z2 := r.frozen (8 + (56 + k))
      go_wp2
      go_region
      go_wp2
      go_light
      refine ⟨⟨k + 1, by omega, by go_num, (hb.set _ _).drew, hash_congr (hash_set r (56 + k) (by omega) _) fun i _ => ?_⟩, by simp [intOf]; omega⟩
      by_cases e : i = 56 + k
      · subst e; rw [if_pos rfl, if_pos (by omega), lenF, if_neg (by omega), show 56 + k - 56 = k by omega]
      · rw [if_neg e]
        by_cases e2 : i < 56 + k
        · rw [if_pos e2, if_pos (by omega)]
        · rw [if_neg e2, if_neg (by omega)]
    · obtain rfl : k = 8 := by omega
      have r2 : hashIs wr b v (lenF (padF f q) n) n := hash_congr r fun i hi => by rw [if_pos (by omega)]
      clear r
      go_wp2
      obtain ⟨cs, hcl, hcr, Hcs⟩ := hash_range r2
      have hu := Tryd.underlying95
      have hi : (Tryd.prog.info? 95).map (·.size) = some cs.length := by rw [hcl]; kernel_rfl
      have hk2 : ∀ i, i < 64 → wr.cell? ⟨0, i, none⟩ = some (.int .u32 (kAt i)) := fun i hi => by rw [hb.cell (by omega) (Ne.symm hb0)]; exact hk i hi
      go_region_held3 (fun w' => w'.rangeAt b 8 cs) (first | exact hrng | exact hcr) (first | (go_at_call 59; refine (take_hash b v (lenF (padF f q) n) _ cs _ Hcs r2.drew hk2).mono ?_; rintro e w3 ⟨rfl, hb3, r3, hrng⟩))
      go_wp2
      go_end0
      exact ⟨rfl, hb.drew.trans (hb3.mono hb.size), _, by rw [padW, ← HQ.out, if_pos hq56]; exact r3⟩

set_option maxHeartbeats 1000000 in
set_option maxRecDepth 100000 in
theorem pad_long (b : Nat) (v f : Nat → Int) (n : Nat) (w : World) (h : hashIs w b v f n) (hn : n < 1099511627776) (hq : 56 ≤ n % 64)
    (hk : ∀ i, i < 64 → w.cell? ⟨0, i, none⟩ = some (.int .u32 (kAt i))) (hb0 : b ≠ 0) :
    Calls Tryd.prog 50 #[.pointer (some ⟨b, 0, none⟩)] w fun e w' => e = .returned (.tuple #[]) ∧ But w.heap.size b w w' ∧ ∃ f', hashIs w' b (padW v f n) f' n := by
  have hlt := h.lt
  obtain ⟨q, hqn⟩ : ∃ q, q = n % 64 := ⟨_, rfl⟩
  have hq56 : 56 ≤ q := by omega
  have hq64 : q < 64 := by omega
  have q1 : (56 : Int) ≤ (q : Int) := by omega
  have q0 : (0 : Int) ≤ (q : Int) := by omega
  have q2 : (q : Int) < 64 := by omega
  have hw := waiting_any b v f n w h
  rw [show (n : Int) % 64 = (q : Int) by omega] at hw
  have cq : w.cell? ⟨b, 8 + q, none⟩ = some (.int .u8 (f q)) := by rw [h.cell (by omega), hashV_byte _ _ _ _ (by omega)]
  have zq := h.frozen (8 + q)
  have HQ : Hid (q = n % 64) := hqn
  clear hqn hq
  have rA := hash_set h q (by omega) 128
  obtain ⟨o', ho', hsl⟩ := run_sliceAt_arr (P := Tryd.prog) 95 5 b 8 64 (q + 1) ((q : Int) + 1) (by omega) Tryd.underlying95 (by kernel_rfl) (by omega)
  have hcl := run_clear_seg (P := Tryd.prog) (w.setCell ⟨b, 8 + q, none⟩ (.int .u8 128)) 36 5 0 (.int .u8 0) Tryd.underlying36 zero_byte rfl rfl b o' (63 - q) (63 - q) _ _ _ rA (fun h => by have := ho' (by omega); omega)
  have rW := hash_clear rA q (by omega) ho'
  have hbW : But w.heap.size b w ((w.setCell ⟨b, 8 + q, none⟩ (.int .u8 128)).setCells b o' (List.replicate (63 - q) (.int .u8 0))) := but_setCells _ _ ((But.refl _ _ _).set _ _)
  revert hcl rW hbW
  generalize (w.setCell ⟨b, 8 + q, none⟩ (.int .u8 128)).setCells b o' (List.replicate (63 - q) (.int .u8 0)) = W
  intro hcl rW hbW
  have rW' : hashIs W b v (padF f q) n := hash_congr rW fun i _ => by
    unfold padF
    by_cases e : q < i
    · rw [if_pos e, if_neg (by omega), if_neg (by omega)]
    · rw [if_neg e]
      by_cases e2 : i = q
      · rw [if_pos e2, if_neg (by omega), if_pos e2]
      · rw [if_neg e2, if_pos (by omega)]
  have cW : W.cell? ⟨b, 72, none⟩ = some (.int .u64 n) := rW.cell (by omega)
  clear rW ho' rA
  go_enter Tryd.func50, Tryd.ntmps50
  go_wp2_with fail
  refine hw.mono ?_
  rintro e w' ⟨rfl, hww⟩
  obtain rfl := hww.symm
  clear hw hww
  have hz0 := zero_block
  have hi64 : (Tryd.prog.info? 95).map (·.size) = some 64 := by kernel_rfl
  go_wp2
  clear hcl hsl cW cq zq
  obtain ⟨cs, hcl, hcr, Hcs⟩ := hash_range rW'
  have hu := Tryd.underlying95
  have hi : (Tryd.prog.info? 95).map (·.size) = some cs.length := by rw [hcl]; kernel_rfl
  have hk2 : ∀ i, i < 64 → W.cell? ⟨0, i, none⟩ = some (.int .u32 (kAt i)) := fun i hi => by rw [hbW.cell (by omega) (Ne.symm hb0)]; exact hk i hi
  go_region_held3 (fun w' => w'.rangeAt b 8 cs) (first | exact hrng | exact hcr) (first | (go_at_call 59; refine (take_hash b v (padF f q) _ cs _ Hcs rW'.drew hk2).mono ?_; rintro e w3 ⟨rfl, hb3, r3, hrng⟩))
  have hb3' := hbW.drew.trans (hb3.mono hbW.size)
  clear hb3 hbW rW' hcl hcr Hcs hi hk2 hrng
  go_wp2_with (first | (refine wpList_store_row rfl 95 _ _ rfl rfl b 8 64 _ rfl rfl hi64 (fun _ _ => rfl) _ _ _ r3 (by omega) ?_; intro W4 r4 hz4 hb4; have cW : W4.cell? ⟨b, 72, none⟩ = some (.int .u64 n) := (by rw [r4.cell (by omega), if_neg (by omega), hashV_count])))
  have hb5 := hb3'.trans (hb4.mono hb3'.size)
  have r5 : hashIs W4 b (takeI v (padF f q)) (fun _ => 0) n := r4.congr fun j hj => by
    unfold hashV
    by_cases e1 : j < 8
    · rw [if_neg (by omega), if_pos e1, if_pos e1]
    · by_cases e2 : j < 72
      · rw [if_pos (by omega), if_neg e1, if_pos e2]
      · rw [if_neg (by omega), if_neg e1, if_neg e2, if_neg e1, if_neg e2]
  clear hb3' hb4 r4 r3 hz4 cW
  go_loopw [37] (fun i wr => ∃ k : Nat, k ≤ 8 ∧ i = .int .i64 k ∧ But w.heap.size b w wr ∧ hashIs wr b (takeI v (padF f q)) (fun j => if j < 56 + k then lenF (fun _ => 0) n j else (fun _ => 0) j) n) (fun i _ => 8 - (intOf i).toNat)
  case atStart => exact ⟨0, by omega, rfl, hb5, hash_congr r5 fun i _ => by
    by_cases e : i < 56
    · rw [if_pos (by omega), lenF, if_pos e]
    · rw [if_neg (by omega)]⟩
  case round =>
    clear hb5 r5
    obtain ⟨k, hk8, rfl, hb, r⟩ := hrel
    by_cases hlt8 : k < 8
    · have b0 : (0 : Int) ≤ (k : Int) := by omega
      have b1 : (k : Int) < 8 := by omega
      have b2 : (0 : Int) ≤ 56 + (k : Int) := by omega
      have b3 : 56 + (k : Int) < 64 := by omega
      have b4 : (0 : Int) ≤ 56 - 8 * (k : Int) := by omega
      have b5 : 56 - 8 * (k : Int) ≤ 64 := by omega
      have e1 : IntKind.i64.wrap (56 + (k : Int)) = 56 + (k : Int) := IntWalk.i64_in _ (by omega)
      have e2 : IntKind.i64.wrap (8 * (k : Int)) = 8 * (k : Int) := IntWalk.i64_in _ (by omega)
      have e3 : IntKind.i64.wrap (56 - 8 * (k : Int)) = 56 - 8 * (k : Int) := IntWalk.i64_in _ (by omega)
      obtain ⟨x, c2⟩ : ∃ x, wr.cell? ⟨b, 8 + (56 + k), none⟩ = some x := ⟨_, r.cell (by omega)⟩
      have c1 : wr.cell? ⟨b, 8 + (56 + (k : Int)).toNat, none⟩ = some x := by
        rw [show (56 + (k : Int)).toNat = 56 + k by omega]; exact c2
      have z1 := r.frozen (8 + (56 + (k : Int)).toNat)
      have z2 := r.frozen (8 + (56 + k))
      go_wp2
      go_region
      go_wp2
      go_light
      refine ⟨⟨k + 1, by omega, by go_num, (hb.set _ _).drew, hash_congr (hash_set r (56 + k) (by omega) _) fun i _ => ?_⟩, by simp [intOf]; omega⟩
      by_cases e : i = 56 + k
      · subst e; rw [if_pos rfl, if_pos (by omega), lenF, if_neg (by omega), show 56 + k - 56 = k by omega]
      · rw [if_neg e]
        by_cases e2 : i < 56 + k
        · rw [if_pos e2, if_pos (by omega)]
        · rw [if_neg e2, if_neg (by omega)]
    · obtain rfl : k = 8 := by omega
      have r2 : hashIs wr b (takeI v (padF f q)) (lenF (fun _ => 0) n) n := hash_congr r fun i hi => by rw [if_pos (by omega)]
      clear r
      go_wp2
      obtain ⟨cs, hcl, hcr, Hcs⟩ := hash_range r2
      have hu := Tryd.underlying95
      have hi : (Tryd.prog.info? 95).map (·.size) = some cs.length := by rw [hcl]; kernel_rfl
      have hk2 : ∀ i, i < 64 → wr.cell? ⟨0, i, none⟩ = some (.int .u32 (kAt i)) := fun i hi => by rw [hb.cell (by omega) (Ne.symm hb0)]; exact hk i hi
      go_region_held3 (fun w' => w'.rangeAt b 8 cs) (first | exact hrng | exact hcr) (first | (go_at_call 59; refine (take_hash b (takeI v (padF f q)) (lenF (fun _ => 0) n) _ cs _ Hcs r2.drew hk2).mono ?_; rintro e w3 ⟨rfl, hb3, r3, hrng⟩))
      go_wp2
      go_end0
      exact ⟨rfl, hb.drew.trans (hb3.mono hb.size), _, by rw [padW, ← HQ.out, if_neg (by omega)]; exact r3⟩

end Go.Proofs.YtcfbaijibghcaaaDoor
