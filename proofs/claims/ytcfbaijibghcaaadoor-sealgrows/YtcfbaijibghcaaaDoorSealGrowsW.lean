import Derived.Test.YtcfbaijibghcaaaDoorSealActs
import Derived.Test.YtcfbaijibghcaaaDoorSealMeetP
/- SealGrows' walk. -/
namespace Go.Proofs.YtcfbaijibghcaaaDoor
set_option linter.unusedSimpArgs false
set_option linter.unusedVariables false
open Go.RowKit Go.Deep

section
variable {P : Program}
theorem run_slice_to' (t e : TypeId) (b o len cap n : Nat) (hu : P.underlying t = some (.slice e)) (hs : (P.info? e).map (·.size) = some 1) (hm : n ≤ cap) (w : World) :
    (Instr.slice t (.slice (some ⟨b, o, none⟩) len cap) none (some (.int .i64 n)) none).run P w = .ok (.slice (some ⟨b, o, none⟩) n cap) w := by
  cases hq : P.info? e with
  | none => simp [hq] at hs
  | some i =>
    have hi : i.size = 1 := by simpa [hq] using hs
    have h0 : (0 : Int) ≤ (n : Int) ∧ (n : Int) ≤ (cap : Int) := by omega
    simp [Instr.slice, Instr.sliceBounds, Instr.sliceBound, asIntOf, run_underlying hu, sizeOf, typeInfo, hq, hi, h0, hm, Addr.add_mid]
end
/-- x[:n], x parts. -/
theorem slice_parts_to (v : Value) (L : List (List Int)) (B n : Nat) (w0 : World) (h : mineParts w0 B v L) (hn : n ≤ L.length) : ∃ u, (∀ w : World, (Instr.slice 35 v none (some (.int .i64 n)) none).run Tryd.prog w = .ok u w) ∧ anyParts w0 u n (fun i => L.getD i []) := by
  have hp := h.parts
  obtain ⟨svs, ⟨_, h | ⟨g, cap, cur, rfl, _, _, hc, _⟩⟩, h2, _⟩ := h
  · have hL : L.length = 0 := by rw [← h2]; exact h.2
    obtain rfl : n = 0 := by omega
    rw [h.1]
    refine ⟨.slice none 0 0, fun w => ?_, Or.inl (Or.inl ⟨rfl, rfl⟩)⟩
    cases hq : Tryd.prog.info? 36 with
    | none => have := hiB; simp [hq] at this
    | some i => simp [Instr.slice, Instr.sliceBounds, Instr.sliceBound, asIntOf, run_underlying Tryd.underlying35, sizeOf, typeInfo, hq]
  · refine ⟨_, run_slice_to' (P := Tryd.prog) 35 36 g 0 svs.length cap n Tryd.underlying35 (by kernel_rfl) (by omega), ?_⟩
    rcases hp with ⟨h, _⟩ | ⟨qb, qo, cap', sv, he, h3, h4, h5⟩
    · cases h
    · have he' : (g = qb ∧ 0 = qo) ∧ svs.length = L.length ∧ cap = cap' := by simpa using he
      obtain ⟨⟨rfl, rfl⟩, _, rfl⟩ := he'
      exact Or.inl (Or.inr ⟨g, 0, cap, sv, rfl, h3, by omega, fun i hi => h5 i (by omega)⟩)
theorem mineParts.far {w w' : World} {B : Nat} {v : Value} {L : List (List Int)} (h : mineParts w B v L) (hb : ∀ k, B ≤ k → k < w.heap.size → w'.heap[k]? = w.heap[k]?) (hs : w.heap.size ≤ w'.heap.size) : mineParts w' B v L := by
  obtain ⟨svs, h1, h2, h3⟩ := h
  refine ⟨svs, h1.far (fun k hk => hb k (h1.block k hk).1 (h1.block k hk).2), h2, fun i l hl => ?_⟩
  obtain ⟨u, a1, a2, a3⟩ := h3 i l hl
  exact ⟨u, a1, a2.far (fun k hk => hb k (a3 k hk).1 (a2.block k hk)) hs, a3⟩
theorem textL_add (N : List Nt) (x : Nt) (i : Nat) (hi : i < N.length) : (textL (addN N x)).getD i [] = (textL N).getD i [] := by
  by_cases h : x ∈ N
  · rw [addN_in h]
  · rw [addN_out h, textL, textL, List.map_append, List.getD_eq_getElem?_getD, List.getElem?_append_left (by simpa using hi), ← List.getD_eq_getElem?_getD]
theorem firstAt_add (N : List Nt) (x : Nt) : (firstAt (addN N x) x.1).isSome = true := by
  obtain ⟨i, hi⟩ := firstAt_mem (addN_has N x x (Or.inr rfl))
  rw [hi]; rfl
theorem build_act0 (w : World) : (Instr.buildSlice 22 0 #[]).run Tryd.prog w = .ok (.slice (some ⟨w.heap.size, 0, none⟩) 0 0) (w.alloc (.cells #[] 38)) := by
  show (_ : Result Value) = _
  kernel_rfl
theorem exec_bslice0 {P : Program} {o : Oper} {ev : Operand → Value} {w w' : World} {v : Value} (t : TypeId) (n : Nat) (ho : o.op = .buildSlice t n #[])
    (hr : (Instr.buildSlice t n #[]).run P w = .ok v w') : (execOp ev o).run P w = .ok (.value v) w' := by
  unfold execOp
  simp only [ho, List.map_toArray, List.map_cons, List.map_nil, Sem.run_bind, hr, Result.andThen_ok, Sem.run_pure]
theorem build_act1 (f : Nat → Value) (w : World) : (Instr.buildSlice 22 1 #[(0, .agg (rowV 36 f))]).run Tryd.prog w = .ok (.slice (some ⟨w.heap.size, 0, none⟩) 1 1) (w.alloc (.cells (rowV 36 f) 38)) := by
  show (_ : Result Value) = _
  kernel_rfl
theorem stow32_run (w : World) (b : Nat) (q : List Int) {t : Nat} {f : Nat → Value} (hr : w.rowIs b t 32 f) : (storeVar 23 ⟨b, 0, none⟩ (.agg (rowV 32 (arrV q)))).run Tryd.prog w = .ok () (w.setCells b 0 (rowV 32 (arrV q)).toList) :=
  run_storeVar_mid (P := Tryd.prog) w b 0 23 (rowV 32 (arrV q)) (by rw [rowV_size]; exact there_of_row hr (by omega)) (by rw [hi32', rowV_size]) (by
    rw [Array.all_eq_true_iff_forall_mem]
    intro v hv
    obtain ⟨i, hi', rfl⟩ := Array.mem_iff_getElem.1 hv
    have hlt : i < 32 := by rw [rowV_size] at hi'; exact hi'
    have := rowV_get 32 (arrV q) i hlt
    rw [Array.getElem?_eq_getElem hi'] at this
    rw [Option.some.inj this]; rfl)
theorem stow32_row (w : World) (b : Nat) (q : List Int) {t : Nat} {f : Nat → Value} (hr : w.rowIs b t 32 f) : (w.setCells b 0 (rowV 32 (arrV q)).toList).rowIs b t 32 (arrV q) ∧ (w.setCells b 0 (rowV 32 (arrV q)).toList).heap.size = w.heap.size ∧ But w.heap.size b w (w.setCells b 0 (rowV 32 (arrV q)).toList) :=
  ⟨(rowIs_splice hr).congr fun i hi => by rw [if_pos (by omega), Nat.sub_zero], size_setCells _ _ _ _, but_setCells _ _ (But.refl _ _ _)⟩
/-- the book behind k acts. -/
def growAt (w2 wr : World) (k : Nat) : Prop :=
  ∃ (F : Nat → Prop) (N : List Nt) (c : Int), bookAt wr F w2.heap.size N c ∧ (∀ j, F j → w2.heap.size ≤ j) ∧ Below w2.heap.size w2 wr ∧ N.length ≤ k ∧ (∀ x ∈ N, x.2.size ≤ 100000) ∧ 0 ≤ c ∧ c ≤ (k : Int)
/-- behind the act. -/
def stepAt (w2 wr wA wx : World) (va : Value) (N : List Nt) (x : Nt) (c : Int) : Prop :=
  ∃ F : Nat → Prop, bookAt wx F w2.heap.size (addN N x) c ∧ (∀ j, F j → w2.heap.size ≤ j) ∧ Below w2.heap.size w2 wx ∧ wx.rowIs wA.heap.size 23 32 (arrV x.1) ∧ mineParts wx wr.heap.size va (textL N) ∧ isSum x.1 ∧ x.2.size ≤ 100000
set_option maxHeartbeats 8000000 in
set_option maxRecDepth 100000 in
theorem sealGrows_any (n m : Nat) (v u : Value) (acts : Nat → AR) (ps : Nat → List Int) (kind : Int) (w : World) (ht : tabIs w) (h : isActs w v n acts) (hp : isParts w u m ps) (hs : (n + 1) * 96 ≤ 140737488355328) :
    Calls Tryd.prog 8 #[v, .int .i64 kind, u] w fun e w' => e = .returned (.bool true) ∧ Below w.heap.size w w' := by
  have ht0 := ht.1
  have hz32 := zero_sum
  obtain ⟨v1, w1, v2, w2, r1, r2, A2, B2, v1s⟩ := grows_acts w v n acts h u m ps hp.any hs
  have HV := heavy_any (n + 1) v2 _ w2 A2
  have T2 : tabIs w2 := ht.below B2 ht0
  have AW2 := awake_any w2 T2
  have AW : Hid (∀ wz, Below w2.heap.size w2 wz → Calls Tryd.prog 10 #[] wz fun e w' => e = .returned (.bool true) ∧ Below wz.heap.size wz w') := (show ∀ wz, Below w2.heap.size w2 wz → Calls Tryd.prog 10 #[] wz fun e w' => e = .returned (.bool true) ∧ Below wz.heap.size wz w' from fun wz hz => awake_any wz (T2.below hz T2.1))
  have HA2 : Hid (isActs w2 v n acts) := (show isActs w2 v n acts from h.below B2 (Nat.le_refl _))
  have HP2 : Hid (anyParts w2 u m ps) := (show anyParts w2 u m ps from (hp.below B2 (Nat.le_refl _)).any)
  have HB2 : Hid (Below w.heap.size w w2) := (show Below w.heap.size w w2 from B2)
  have HT2 : Hid (tabIs w2) := (show tabIs w2 from T2)
  obtain ⟨a, cap, rfl, hc, hm, _⟩ := h.open
  obtain ⟨ua, uc, rfl, _, _⟩ := hp.open
  have bu := build_act ua m uc
  have bs := build_act1 (actV 0 0 (.slice ua m uc) (.slice none 0 0) zq) w1
  obtain ⟨a2, c2, rfl, _, _, _⟩ := A2.open
  obtain ⟨a1, c1, rfl⟩ := v1s
  unfold maxLen at hm
  have q0 : (n : Int) ≤ 9223372036854775807 := by omega
  have R1 : Hid _ := r1
  have R2 : Hid _ := r2
  have BU : Hid _ := bu
  have BS : Hid _ := bs
  clear h hp A2 B2 hs hc hm T2 r1 r2 bu bs
  go_enter Tryd.func8, Tryd.ntmps8
  go_wp2_with (first | (refine wpList_run rfl (exec_bslice0 22 0 rfl (build_act0 _)) ?_; try simp only [Act.put, List.setIfInBounds_toArray, List.set_cons_zero, List.set_cons_succ]) | (at_builtin; refine wpList_append_run rfl (.tmp 18) (.tmp 19) _ rfl rfl rfl R1.out ?_; try simp only [Act.put, List.setIfInBounds_toArray, List.set_cons_zero, List.set_cons_succ]; clear R1) | (refine wpList_run rfl (exec_build1 38 2 (.tmp 21) (.slice ua m uc) rfl rfl (BU.out _)) ?_; try simp only [Act.put, List.setIfInBounds_toArray, List.set_cons_zero, List.set_cons_succ]) | (refine wpList_run rfl (exec_bslice1 22 1 0 (.tmp 22) (.agg (rowV 36 (actV 0 0 (.slice ua m uc) (.slice none 0 0) zq))) rfl rfl BS.out) ?_; try simp only [Act.put, List.setIfInBounds_toArray, List.set_cons_zero, List.set_cons_succ]; clear BS BU) | (at_builtin; refine wpList_append_run rfl (.tmp 20) (.tmp 23) _ rfl rfl rfl R2.out ?_; try simp only [Act.put, List.setIfInBounds_toArray, List.set_cons_zero, List.set_cons_succ]))
  refine HV.mono ?_
  rintro e w' ⟨r, rfl, hw, hl⟩
  obtain rfl := hw.symm
  clear hw HV R2
  cases r with
  | true =>
    clear hl
    go_wp2_with fail
    refine AW2.mono ?_
    rintro e w9 ⟨rfl, b9⟩
    go_wp2
    go_ret
    exact ⟨rfl, HB2.out.trans (b9.mono HB2.out.size)⟩
  | false =>
    obtain ⟨h200, h500, hwt⟩ := hl rfl
    clear hl AW2
    have hact : ∀ i, i < n → (acts i).n ≤ 500 ∧ (acts i).bytes.length + (flatTo (acts i).ps (acts i).n).length ≤ 60000 := fun i hi => by
      have h1 := h500 i (by omega)
      have h2 := wtA_one (fun i => if i < n then acts i else partsA m ps) (n + 1) i (by omega)
      simp only [if_pos hi] at h1 h2
      exact ⟨h1, by omega⟩
    have hpart : m ≤ 500 ∧ (flatTo ps m).length ≤ 60000 := by
      have h1 := h500 n (by omega)
      have h2 := wtA_one (fun i => if i < n then acts i else partsA m ps) (n + 1) n (by omega)
      simp only [if_neg (Nat.lt_irrefl n)] at h1 h2
      have e1 : (partsA m ps).n = m := rfl
      have e2 : (flatTo (partsA m ps).ps (partsA m ps).n).length = (flatTo ps m).length := rfl
      exact ⟨by omega, by omega⟩
    have q1 : (n : Int) ≤ 200 := by omega
    have HACT : Hid (∀ i, i < n → (acts i).n ≤ 500 ∧ (acts i).bytes.length + (flatTo (acts i).ps (acts i).n).length ≤ 60000) := (show ∀ i, i < n → (acts i).n ≤ 500 ∧ (acts i).bytes.length + (flatTo (acts i).ps (acts i).n).length ≤ 60000 from hact)
    have HPART : Hid (m ≤ 500 ∧ (flatTo ps m).length ≤ 60000) := (show m ≤ 500 ∧ (flatTo ps m).length ≤ 60000 from hpart)
    clear h500 hwt hact hpart
    obtain ⟨w3, hw3⟩ : ∃ w3, w3 = w2.alloc (.cells #[.pointer none] 29) := ⟨_, rfl⟩
    have B3 : Below w2.heap.size w2 w3 := by rw [hw3]; exact (Below.refl _ _).alloc (Nat.le_refl _) _
    have k3 : bookAt w3 (fun j => j = w2.heap.size) w2.heap.size [] 0 := bookAt.new w2 w3 w2.heap.size (by
      rw [hw3]; exact rowIs_new w2 _ _ 1 _ rfl (fun i hi => by
        obtain rfl : i = 0 := by omega
        rfl))
    have G3 : Hid (growAt w2 w3 0) := (show growAt w2 w3 0 from ⟨_, _, _, k3, fun j hj => Nat.le_of_eq hj.symm, B3, by simp, fun x hx => by simp at hx, by omega, by omega⟩)
    clear k3 B3
    go_upto_region 4 with fail
    rw [← hw3]
    clear hw3
    go_wp2
    go_loopw [8] (fun i wr => ∃ k : Nat, k ≤ n ∧ i = .int .i64 k ∧ growAt w2 wr k) (fun i _ => n - (intOf i).toNat)
    case atStart => exact ⟨0, by omega, rfl, G3.out⟩
    case round =>
      obtain ⟨k, hk, rfl, F, N, c, hbk, hF, hbw, hNk, hNs, hc0, hck⟩ := hrel
      clear G3
      have p0 : (0 : Int) ≤ (k : Int) := by omega
      by_cases hlt : k < n
      · have p1 : (k : Int) < (n : Int) := by omega
        have XA := all_any F w2.heap.size N c wr hbk (by omega) (fun x hx => by have := hNs x hx; omega)
        have HBK : Hid (bookAt wr F w2.heap.size N c) := (show bookAt wr F w2.heap.size N c from hbk)
        have HF : Hid (∀ j, F j → w2.heap.size ≤ j) := (show ∀ j, F j → w2.heap.size ≤ j from hF)
        have HBW : Hid (Below w2.heap.size w2 wr) := (show Below w2.heap.size w2 wr from hbw)
        have HNS : Hid (N.length ≤ k ∧ (∀ x ∈ N, x.2.size ≤ 100000) ∧ 0 ≤ c ∧ c ≤ (k : Int)) := (show N.length ≤ k ∧ (∀ x ∈ N, x.2.size ≤ 100000) ∧ 0 ≤ c ∧ c ≤ (k : Int) from ⟨hNk, hNs, hc0, hck⟩)
        clear hbk hF hbw hNk hNs
        go_wp2_with fail
        refine XA.mono ?_
        rintro e wA ⟨va, rfl, mA, bA⟩
        have shA := mA.parts.open
        obtain ⟨aa, ac, rfl, hlA, _⟩ := shA
        have kA : bookAt wA F w2.heap.size N c := bookAt.below HBK.out bA (Nat.le_refl _)
        have XC := calls_any F w2.heap.size N c wA kA
        have MA : Hid (mineParts wA wr.heap.size (.slice aa (textL N).length ac) (textL N)) := (show mineParts wA wr.heap.size (.slice aa (textL N).length ac) (textL N) from mA)
        have BA : Hid (Below wr.heap.size wr wA) := (show Below wr.heap.size wr wA from bA)
        have KA : Hid (bookAt wA F w2.heap.size N c) := (show bookAt wA F w2.heap.size N c from kA)
        clear XA mA bA kA hlA
        go_wp2_with fail
        refine XC.mono ?_
        rintro e w' ⟨rfl, hw⟩
        obtain rfl := hw.symm
        clear hw XC
        obtain ⟨wB, hwB⟩ : ∃ wB, wB = wA.alloc (.cells (rowV 32 (fun _ => .int .u8 0)) 23) := ⟨_, rfl⟩
        have rB : wB.rowIs wA.heap.size 23 32 (fun _ => .int .u8 0) := by rw [hwB]; exact rowIs_box wA _ _ _
        have bAB : Below wA.heap.size wA wB := by rw [hwB]; exact (Below.refl _ _).alloc (Nat.le_refl _) _
        have sB : wB.heap.size = wA.heap.size + 1 := by rw [hwB]; simp
        go_upto_region 10 with fail
        rw [← hwB]
        clear hwB
        have Bw : Below w2.heap.size w2 wB := (HBW.out.trans (BA.out.mono HBW.out.size)).trans (bAB.mono (Nat.le_trans HBW.out.size BA.out.size))
        obtain ⟨a', cap', ha, _, _, hopen⟩ := isActs.open HA2.out
        obtain ⟨qb, qo, ha2, hqb, pv, bv, hcell, hpv, hbv, hsum⟩ := hopen k hlt
        have ha3 : a = some ⟨qb, qo, none⟩ := by
          have : a = a' ∧ cap = cap' := by simpa using ha
          rw [this.1]; exact ha2
        subst ha3
        clear ha ha2 hopen
        obtain ⟨pa, pc, rfl, _, _⟩ := hpv.open
        obtain ⟨ba, bc, rfl, _⟩ := hbv.slice
        have c0 : wB.cell? ⟨qb, qo + k * 36, none⟩ = some (.int .i64 (acts k).what) := (Bw.cell (p := ⟨qb, qo + k * 36, none⟩) hqb).trans (hcell 0 (by omega))
        have CS : Hid (∀ wz, Below w2.heap.size w2 wz → ∀ i, i < 32 → wz.cell? ⟨qb, qo + k * 36 + 3 + i, none⟩ = some (arrV (acts k).sum i)) := (show ∀ wz, Below w2.heap.size w2 wz → ∀ i, i < 32 → wz.cell? ⟨qb, qo + k * 36 + 3 + i, none⟩ = some (arrV (acts k).sum i) from fun wz hz => act_sum hqb hcell hz)
        have CB : Hid (∀ wz, Below w2.heap.size w2 wz → wz.cell? ⟨qb, qo + k * 36 + 35, none⟩ = some (.slice ba (acts k).bytes.length bc)) := (show ∀ wz, Below w2.heap.size w2 wz → wz.cell? ⟨qb, qo + k * 36 + 35, none⟩ = some (.slice ba (acts k).bytes.length bc) from fun wz hz => act_bytes hqb hcell hz)
        have CK : Hid (∀ wz, Below w2.heap.size w2 wz → wz.cell? ⟨qb, qo + k * 36 + 1, none⟩ = some (.int .i64 (acts k).kind)) := (show ∀ wz, Below w2.heap.size w2 wz → wz.cell? ⟨qb, qo + k * 36 + 1, none⟩ = some (.int .i64 (acts k).kind) from fun wz hz => (hz.cell (p := ⟨qb, qo + k * 36 + 1, none⟩) hqb).trans (hcell 1 (by omega)))
        have CP : Hid (∀ wz, Below w2.heap.size w2 wz → wz.cell? ⟨qb, qo + k * 36 + 2, none⟩ = some (.slice pa (acts k).n pc)) := (show ∀ wz, Below w2.heap.size w2 wz → wz.cell? ⟨qb, qo + k * 36 + 2, none⟩ = some (.slice pa (acts k).n pc) from fun wz hz => (hz.cell (p := ⟨qb, qo + k * 36 + 2, none⟩) hqb).trans (hcell 2 (by omega)))
        have HBV : Hid (anyBytes w2 (.slice ba (acts k).bytes.length bc) (acts k).bytes) := (show anyBytes w2 (.slice ba (acts k).bytes.length bc) (acts k).bytes from hbv)
        have HPV : Hid (anyParts w2 (.slice pa (acts k).n pc) (acts k).n (acts k).ps) := (show anyParts w2 (.slice pa (acts k).n pc) (acts k).n (acts k).ps from hpv)
        have HSUM : Hid (isSum (acts k).sum) := (show isSum (acts k).sum from hsum)
        have HBWB : Hid (Below w2.heap.size w2 wB) := (show Below w2.heap.size w2 wB from Bw)
        have BAB : Hid (Below wA.heap.size wA wB) := (show Below wA.heap.size wA wB from bAB)
        have SB : Hid (wB.heap.size = wA.heap.size + 1) := (show wB.heap.size = wA.heap.size + 1 from sB)
        clear hcell hpv hbv hsum Bw bAB sB
        have hand := i64_and1 (acts k).what
        go_upto_if 45 with fail
        go_cut [8, 9, 10, 11] from 29 to 72 (fun i va cc t wx => i = .int .i64 (k : Int) ∧ va = .slice aa (textL N).length ac ∧ t = .pointer (some ⟨wA.heap.size, 0, none⟩) ∧ ∃ (x : Nt) (c' : Int), cc = .int .i64 c' ∧ 0 ≤ c' ∧ c' ≤ (k : Int) + 1 ∧ stepAt w2 wr wA wx (.slice aa (textL N).length ac) N x c')
        case first =>
          by_cases hodd : (acts k).what % 2 = 1
          · have hb1 : ((acts k).what % 2 == 1) = true := by rw [beq_iff_eq]; exact hodd
            have ldq := CS.out wB HBWB.out
            have sB := SB.out
            have hwrA := BA.out.size
            have hw2r := HBW.out.size
            go_upto_region 12 with (first | (refine wpList_load_seg rfl 23 (.tmp 49) rfl qb (qo + k * 36 + 3) 32 (arrV (acts k).sum) rfl _ Tryd.underlying23 rfl hi32' ldq ?_) | (refine wpList_store_row rfl 23 (.tmp 11) (.tmp 50) rfl rfl wA.heap.size 0 32 (arrV (acts k).sum) rfl rfl hi32' (fun _ _ => rfl) _ _ _ rB (by omega) ?_; intro w5 r5 hz5 hb5))
            have r5' : w5.rowIs wA.heap.size 23 32 (arrV (acts k).sum) := r5.congr fun i hi => by rw [if_pos (by omega), Nat.sub_zero]
            have bA5 : Below wA.heap.size wA w5 := BAB.out.trans ((hb5.mono (by omega)).below (Nat.le_refl _))
            have B5 : Below w2.heap.size w2 w5 := (HBW.out.trans (BA.out.mono HBW.out.size)).trans (bA5.mono (by omega))
            have k5 : bookAt w5 F w2.heap.size N c := bookAt.below KA.out bA5 (Nat.le_refl _)
            have m5 : mineParts w5 wr.heap.size (.slice aa (textL N).length ac) (textL N) := mineParts.below MA.out bA5 (Nat.le_refl _)
            have hFr : ∀ j, F j → j < wr.heap.size := HBK.out.2.1
            have X := note_any' F w2.heap.size N c (acts k).sum (acts k).bytes _ w5.drew (bookAt.below k5 ((Below.refl _ _).drew) (Nat.le_refl _)) HSUM.out (anyBytes.below HBV.out B5.drew (Nat.le_refl _)) (fun h0 j hj hf => by
              have h1 := HF.out j hf
              rcases HBV.out with h3 | ⟨_, h3⟩
              · have := h3.block j hj; omega
              · rw [h3] at h0; simp at h0) (by have := HNS.out.1; omega)
            unfold sumV at X
            have HX : Hid (Calls Tryd.prog 15 #[.pointer (some ⟨w2.heap.size, 0, none⟩), .agg (rowV 32 (arrV (acts k).sum)), .slice ba (acts k).bytes.length bc] w5.drew fun e w' => e = .returned (.tuple #[]) ∧ bookAt w' (Gr F w5.drew w') w2.heap.size (addN N ((acts k).sum, strOf (acts k).bytes)) c ∧ Fr F w5.drew w') := (show Calls Tryd.prog 15 #[.pointer (some ⟨w2.heap.size, 0, none⟩), .agg (rowV 32 (arrV (acts k).sum)), .slice ba (acts k).bytes.length bc] w5.drew fun e w' => e = .returned (.tuple #[]) ∧ bookAt w' (Gr F w5.drew w') w2.heap.size (addN N ((acts k).sum, strOf (acts k).bytes)) c ∧ Fr F w5.drew w' from X)
            have R5 : Hid (w5.rowIs wA.heap.size 23 32 (arrV (acts k).sum)) := (show w5.rowIs wA.heap.size 23 32 (arrV (acts k).sum) from r5')
            have HB5 : Hid (Below w2.heap.size w2 w5) := (show Below w2.heap.size w2 w5 from B5)
            have HM5 : Hid (mineParts w5 wr.heap.size (.slice aa (textL N).length ac) (textL N)) := (show mineParts w5 wr.heap.size (.slice aa (textL N).length ac) (textL N) from m5)
            have HFR : Hid (∀ j, F j → j < wr.heap.size) := (show ∀ j, F j → j < wr.heap.size from hFr)
            have S5 : Hid (w5.heap.size = wA.heap.size + 1) := (show w5.heap.size = wA.heap.size + 1 from hz5.trans sB)
            clear X r5 r5' hb5 hz5 bA5 B5 k5 m5 hFr ldq sB c0 hand rB
            refine wp_region_noPanic ?_
            refine wp_region_held_drew (S := fun w' => Below w2.heap.size w2 w' ∧ ∀ i, i < 32 → w'.cell? ⟨wA.heap.size, 0 + i, none⟩ = some (arrV (acts k).sum i)) (by kernel_rfl) ⟨HB5.out.drew, fun i hi => by rw [Nat.zero_add]; exact World.rowIs.cell R5.out hi⟩ (fun hHeld => ?_)
            refine take_op (i := 0) (v := ?va0) rfl (by kernel_rfl) (by kernel_rfl) (by kernel_rfl) (fun _ _ _ h => h) rfl hHeld ?ya0 ?ra0
            case ya0 => (intro wz hz; go_simp; first | done | with_reducible rfl)
            try simp only [Act.put, List.setIfInBounds_toArray, List.set_cons_zero, List.set_cons_succ]
            refine take_load (i := 1) rfl (by kernel_rfl) (by kernel_rfl) (by kernel_rfl) 23 _ rfl wA.heap.size 0 32 (arrV (acts k).sum) rfl _ Tryd.underlying23 rfl (by kernel_rfl) (fun _ _ _ h => h) rfl hHeld (fun wz hz => hz.2) ?_
            try simp only [Act.put, List.setIfInBounds_toArray, List.set_cons_zero, List.set_cons_succ]
            refine take_op (i := 2) (v := ?va2) rfl (by kernel_rfl) (by kernel_rfl) (by kernel_rfl) (fun _ _ _ h => h) rfl hHeld ?ya2 ?ra2
            case ya2 => (intro wz hz; go_simp; first | done | with_reducible rfl)
            try simp only [Act.put, List.setIfInBounds_toArray, List.set_cons_zero, List.set_cons_succ]
            refine take_op (i := 3) (v := ?va3) rfl (by kernel_rfl) (by kernel_rfl) (by kernel_rfl) (fun _ _ _ h => h) rfl hHeld ?ya3 ?ra3
            case ya3 => (intro wz hz; go_simp; first | done | with_reducible rfl)
            try simp only [Act.put, List.setIfInBounds_toArray, List.set_cons_zero, List.set_cons_succ]
            refine take_op (i := 4) (v := ?va4) rfl (by kernel_rfl) (by kernel_rfl) (by kernel_rfl) (fun _ _ _ h => h) rfl hHeld ?ya4 ?ra4
            case ya4 => (intro wz hz; go_simp; first | done | with_reducible rfl)
            try simp only [Act.put, List.setIfInBounds_toArray, List.set_cons_zero, List.set_cons_succ]
            refine take_op (i := 5) (v := ?va5) rfl (by kernel_rfl) (by kernel_rfl) (by kernel_rfl) (fun _ _ _ h => h) rfl hHeld ?ya5 ?ra5
            case ya5 => (intro wz hz; go_simp; first | done | with_reducible rfl)
            try simp only [Act.put, List.setIfInBounds_toArray, List.set_cons_zero, List.set_cons_succ]
            refine take_op (i := 6) (v := ?va6) rfl (by kernel_rfl) (by kernel_rfl) (by kernel_rfl) (fun _ _ _ h => h) rfl hHeld ?ya6 ?ra6
            case ya6 => (intro wz hz; have hcz := CB.out wz hz.1; go_simp; first | done | with_reducible rfl)
            try simp only [Act.put, List.setIfInBounds_toArray, List.set_cons_zero, List.set_cons_succ]
            refine take_one (i := 7) rfl (by kernel_rfl) rfl (fun K hK => ?_)
            go_simp
            refine Calls.mono HX.out ?_
            rintro e w8 ⟨rfl, k8, f8⟩
            have s5 := S5.out
            have s8 : w5.heap.size ≤ w8.heap.size := f8.size
            have b8 : Below w2.heap.size w2 w8 := HB5.out.drew.trans ((f8.below (fun j hj => HF.out j hj) (show w2.heap.size ≤ w5.heap.size by omega)).mono (Nat.le_refl _))
            have r8 : w8.rowIs wA.heap.size 23 32 (arrV (acts k).sum) := World.rowIs.of_block R5.out (f8.block wA.heap.size (show wA.heap.size < w5.heap.size by omega) (fun hf => by have := HFR.out _ hf; omega))
            have m8 : mineParts w8 wr.heap.size (.slice aa (textL N).length ac) (textL N) := mineParts.far HM5.out (fun j hj hl => f8.block j hl (fun hf => by have := HFR.out _ hf; omega)) s8
            have ST : Hid (stepAt w2 wr wA w8 (.slice aa (textL N).length ac) N ((acts k).sum, strOf (acts k).bytes) c) := (show stepAt w2 wr wA w8 (.slice aa (textL N).length ac) N ((acts k).sum, strOf (acts k).bytes) c from ⟨_, k8, Gr.ge HF.out (show w2.heap.size ≤ w5.heap.size by omega), b8, r8, m8, HSUM.out, by show (strOf (acts k).bytes).size ≤ 100000; rw [strOf_size]; have := (HACT.out k hlt).2; omega⟩)
            refine hK.out _ _ ⟨b8, fun i hi => by rw [Nat.zero_add]; exact r8.cell hi⟩ (fun hHeld => ?_)
            clear hK K hHeld k8 f8 b8 r8 m8
            try simp only [Act.put, List.setIfInBounds_toArray, List.set_cons_zero, List.set_cons_succ]
            refine wpAnyH_done (by kernel_rfl) ?_ _
            refine NoPanic.normal ?_
            go_wp2_with fail
            go_meet
            case rel => exact ⟨rfl, rfl, rfl, _, _, rfl, hc0, by omega, ST.out⟩
          · have hb1 : ((acts k).what % 2 == 1) = false := by rw [beq_eq_false_iff_ne]; exact hodd
            have sB := SB.out
            have hwrA := BA.out.size
            have hw2r := HBW.out.size
            have kB : bookAt wB F w2.heap.size N c := bookAt.below KA.out BAB.out (Nat.le_refl _)
            have hFr : ∀ j, F j → j < wr.heap.size := HBK.out.2.1
            obtain ⟨pl, hpl⟩ : ∃ pl, pl = preB (acts k).kind (acts k).n (acts k).ps := ⟨_, rfl⟩
            have hA5 := HACT.out k hlt
            have hplen : pl.length ≤ 90000 := by
              have := blobs_le (acts k).ps (acts k).n
              rw [hpl, preB, List.length_append]; simp; omega
            have X := of_any F w2.heap.size N c (acts k).kind (acts k).n _ (acts k).ps wB.drew (bookAt.below kB ((Below.refl _ _).drew) (Nat.le_refl _)) (anyParts.below HPV.out HBWB.out.drew (Nat.le_refl _)) (fun i hi => by
              have := blobs_le (acts k).ps i
              have := flatTo_mono (acts k).ps (acts k).n i hi
              omega) (tabIs.below HT2.out HBWB.out.drew HT2.out.1) (fun hf => by have := HF.out 0 hf; have := HT2.out.1; omega) (by have := HNS.out.1; omega) ⟨hc0, by omega⟩
            rw [← hpl] at X
            unfold sumV at X
            have HX : Hid (Calls Tryd.prog 17 #[.pointer (some ⟨w2.heap.size, 0, none⟩), .int .i64 (acts k).kind, .slice pa (acts k).n pc] wB.drew fun e w' => e = .returned (.agg (rowV 32 (arrV (sumL pl)))) ∧ bookAt w' (Gr F wB.drew w') w2.heap.size (addN N (sumL pl, strOf pl)) (c + 1) ∧ Fr F wB.drew w') := (show Calls Tryd.prog 17 #[.pointer (some ⟨w2.heap.size, 0, none⟩), .int .i64 (acts k).kind, .slice pa (acts k).n pc] wB.drew fun e w' => e = .returned (.agg (rowV 32 (arrV (sumL pl)))) ∧ bookAt w' (Gr F wB.drew w') w2.heap.size (addN N (sumL pl, strOf pl)) (c + 1) ∧ Fr F wB.drew w' from X)
            have RB : Hid (wB.rowIs wA.heap.size 23 32 (fun _ => .int .u8 0)) := (show wB.rowIs wA.heap.size 23 32 (fun _ => .int .u8 0) from rB)
            have HMB : Hid (mineParts wB wr.heap.size (.slice aa (textL N).length ac) (textL N)) := (show mineParts wB wr.heap.size (.slice aa (textL N).length ac) (textL N) from mineParts.below MA.out BAB.out (Nat.le_refl _))
            have HFR : Hid (∀ j, F j → j < wr.heap.size) := (show ∀ j, F j → j < wr.heap.size from hFr)
            clear X kB hFr c0 hand rB hA5 hpl sB
            go_upto_region 13 with fail
            refine wp_region_noPanic ?_
            refine wp_region_held_drew (S := fun w' => Below w2.heap.size w2 w') (by kernel_rfl) (HBWB.out.drew) (fun hHeld => ?_)
            refine take_op (i := 0) (v := ?vb0) rfl (by kernel_rfl) (by kernel_rfl) (by kernel_rfl) (fun _ _ _ h => h) rfl hHeld ?yb0 ?rb0
            case yb0 => (intro wz hz; go_simp; first | done | with_reducible rfl)
            try simp only [Act.put, List.setIfInBounds_toArray, List.set_cons_zero, List.set_cons_succ]
            refine take_op (i := 1) (v := ?vb1) rfl (by kernel_rfl) (by kernel_rfl) (by kernel_rfl) (fun _ _ _ h => h) rfl hHeld ?yb1 ?rb1
            case yb1 => (intro wz hz; go_simp; first | done | with_reducible rfl)
            try simp only [Act.put, List.setIfInBounds_toArray, List.set_cons_zero, List.set_cons_succ]
            refine take_op (i := 2) (v := ?vb2) rfl (by kernel_rfl) (by kernel_rfl) (by kernel_rfl) (fun _ _ _ h => h) rfl hHeld ?yb2 ?rb2
            case yb2 => (intro wz hz; go_simp; first | done | with_reducible rfl)
            try simp only [Act.put, List.setIfInBounds_toArray, List.set_cons_zero, List.set_cons_succ]
            refine take_op (i := 3) (v := ?vb3) rfl (by kernel_rfl) (by kernel_rfl) (by kernel_rfl) (fun _ _ _ h => h) rfl hHeld ?yb3 ?rb3
            case yb3 => (intro wz hz; go_simp; first | done | with_reducible rfl)
            try simp only [Act.put, List.setIfInBounds_toArray, List.set_cons_zero, List.set_cons_succ]
            refine take_op (i := 4) (v := ?vb4) rfl (by kernel_rfl) (by kernel_rfl) (by kernel_rfl) (fun _ _ _ h => h) rfl hHeld ?yb4 ?rb4
            case yb4 => (intro wz hz; go_simp; first | done | with_reducible rfl)
            try simp only [Act.put, List.setIfInBounds_toArray, List.set_cons_zero, List.set_cons_succ]
            refine take_op (i := 5) (v := ?vb5) rfl (by kernel_rfl) (by kernel_rfl) (by kernel_rfl) (fun _ _ _ h => h) rfl hHeld ?yb5 ?rb5
            case yb5 => (intro wz hz; have hcz := CK.out wz hz; go_simp; first | done | with_reducible rfl)
            try simp only [Act.put, List.setIfInBounds_toArray, List.set_cons_zero, List.set_cons_succ]
            refine take_op (i := 6) (v := ?vb6) rfl (by kernel_rfl) (by kernel_rfl) (by kernel_rfl) (fun _ _ _ h => h) rfl hHeld ?yb6 ?rb6
            case yb6 => (intro wz hz; go_simp; first | done | with_reducible rfl)
            try simp only [Act.put, List.setIfInBounds_toArray, List.set_cons_zero, List.set_cons_succ]
            refine take_op (i := 7) (v := ?vb7) rfl (by kernel_rfl) (by kernel_rfl) (by kernel_rfl) (fun _ _ _ h => h) rfl hHeld ?yb7 ?rb7
            case yb7 => (intro wz hz; go_simp; first | done | with_reducible rfl)
            try simp only [Act.put, List.setIfInBounds_toArray, List.set_cons_zero, List.set_cons_succ]
            refine take_op (i := 8) (v := ?vb8) rfl (by kernel_rfl) (by kernel_rfl) (by kernel_rfl) (fun _ _ _ h => h) rfl hHeld ?yb8 ?rb8
            case yb8 => (intro wz hz; go_simp; first | done | with_reducible rfl)
            try simp only [Act.put, List.setIfInBounds_toArray, List.set_cons_zero, List.set_cons_succ]
            refine take_op (i := 9) (v := ?vb9) rfl (by kernel_rfl) (by kernel_rfl) (by kernel_rfl) (fun _ _ _ h => h) rfl hHeld ?yb9 ?rb9
            case yb9 => (intro wz hz; go_simp; first | done | with_reducible rfl)
            try simp only [Act.put, List.setIfInBounds_toArray, List.set_cons_zero, List.set_cons_succ]
            refine take_op (i := 10) (v := ?vb10) rfl (by kernel_rfl) (by kernel_rfl) (by kernel_rfl) (fun _ _ _ h => h) rfl hHeld ?yb10 ?rb10
            case yb10 => (intro wz hz; have hcz := CP.out wz hz; go_simp; first | done | with_reducible rfl)
            try simp only [Act.put, List.setIfInBounds_toArray, List.set_cons_zero, List.set_cons_succ]
            refine take_one (i := 11) rfl (by kernel_rfl) rfl (fun K hK => ?_)
            go_simp
            refine Calls.mono HX.out ?_
            rintro e w8 ⟨rfl, k8, f8⟩
            have sB := SB.out
            have s8 : wB.heap.size ≤ w8.heap.size := f8.size
            have b8 : Below w2.heap.size w2 w8 := HBWB.out.drew.trans (f8.below (fun j hj => HF.out j hj) (show w2.heap.size ≤ wB.heap.size by omega))
            have r8 : w8.rowIs wA.heap.size 23 32 (fun _ => .int .u8 0) := World.rowIs.of_block RB.out (f8.block wA.heap.size (show wA.heap.size < wB.heap.size by omega) (fun hf => by have := HFR.out _ hf; omega))
            have m8 : mineParts w8 wr.heap.size (.slice aa (textL N).length ac) (textL N) := mineParts.far HMB.out (fun j hj hl => f8.block j hl (fun hf => by have := HFR.out _ hf; omega)) s8
            have g8 : ∀ j, Gr F wB.drew w8 j → w2.heap.size ≤ j := Gr.ge HF.out (show w2.heap.size ≤ wB.heap.size by omega)
            refine hK.out _ _ b8 (fun hHeld => ?_)
            clear hK K
            try simp only [Act.put, List.setIfInBounds_toArray, List.set_cons_zero, List.set_cons_succ]
            refine take_one (i := 12) rfl (by kernel_rfl) rfl (fun K hK => ?_)
            have hst := stow32_run w8 wA.heap.size (sumL pl) r8
            have h9 := stow32_row w8 wA.heap.size (sumL pl) r8
            have r9 := h9.1
            have hz9 := h9.2.1
            have hb9 := h9.2.2
            clear h9
            unfold Oper.wp execOp
            simp only [Instr.storeAt, Instr.sureAddr, Sem.run_bind, Sem.run_pure, Result.andThen_ok]
            simp [Act.eval, hst, Oper.upon]
            clear hst
            generalize w8.setCells wA.heap.size 0 (rowV 32 (arrV (sumL pl))).toList = w9 at r9 hz9 hb9 ⊢
            have hnA : ∀ j, Gr F wB.drew w8 j → j ≠ wA.heap.size := fun j hj => by
              rcases hj with h | h
              · have := HFR.out j h; omega
              · have h1 : wB.heap.size ≤ j := h.1
                omega
            have k9 : bookAt w9 (Gr F wB.drew w8) w2.heap.size (addN N (sumL pl, strOf pl)) (c + 1) := k8.far (fun j hj hl => hb9.block j hl (hnA j hj)) (by omega)
            have b9 : Below w2.heap.size w2 w9 := b8.trans ((hb9.mono (by omega)).below (by omega))
            have m9 : mineParts w9 wr.heap.size (.slice aa (textL N).length ac) (textL N) := mineParts.far MA.out (fun j hj hl => (hb9.block j (by omega) (by omega)).trans ((f8.block j (show j < wB.heap.size by omega) (fun hf => by have := HFR.out _ hf; omega)).trans (BAB.out.block j hl))) (by omega)
            have ST : Hid (stepAt w2 wr wA w9 (.slice aa (textL N).length ac) N (sumL pl, strOf pl) (c + 1)) := (show stepAt w2 wr wA w9 (.slice aa (textL N).length ac) N (sumL pl, strOf pl) (c + 1) from ⟨_, k9, g8, b9, r9, m9, sumL_is pl, by show (strOf pl).size ≤ 100000; rw [strOf_size]; omega⟩)
            refine hK.out _ _ b9 (fun hHeld => ?_)
            clear hK K hHeld k8 f8 b8 r8 m8 k9 b9 m9 r9 hb9 hz9 g8 hnA
            try simp only [Act.put, List.setIfInBounds_toArray, List.set_cons_zero, List.set_cons_succ]
            refine wpAnyH_done (by kernel_rfl) ?_ _
            refine NoPanic.normal ?_
            have i1 : c ≤ 200 := by omega
            go_wp2_with fail
            go_meet
            case rel => exact ⟨rfl, rfl, rfl, _, _, rfl, by omega, by omega, ST.out⟩
        case rest =>
          obtain ⟨rfl, rfl, rfl, x, c', rfl, hc1, hc2, F', hbk, hF', hbw', hrow, hmine, hxs, hxt⟩ := hcut
          have hM1 : N.length ≤ (addN N x).length := by
            by_cases e : x ∈ N
            · rw [addN_in e]; exact Nat.le_refl _
            · rw [addN_out e]; simp
          have hM2 := addN_len N x
          have hMs : ∀ y ∈ addN N x, y.2.size ≤ 100000 := fun y hy => by
            rcases addN_mem hy with h | h
            · exact HNS.out.2.1 y h
            · rw [h]; exact hxt
          have hNk := HNS.out.1
          have XA := all_any F' w2.heap.size (addN N x) c' wc hbk (by omega) (fun y hy => by have := hMs y hy; omega)
          have KC : Hid (bookAt wc F' w2.heap.size (addN N x) c') := (show bookAt wc F' w2.heap.size (addN N x) c' from hbk)
          have GC : Hid (∀ j, F' j → w2.heap.size ≤ j) := (show ∀ j, F' j → w2.heap.size ≤ j from hF')
          have BC : Hid (Below w2.heap.size w2 wc) := (show Below w2.heap.size w2 wc from hbw')
          have RC : Hid (wc.rowIs wA.heap.size 23 32 (arrV x.1)) := (show wc.rowIs wA.heap.size 23 32 (arrV x.1) from hrow)
          have MC : Hid (mineParts wc wr.heap.size (.slice aa (textL N).length ac) (textL N)) := (show mineParts wc wr.heap.size (.slice aa (textL N).length ac) (textL N) from hmine)
          have MS : Hid ((∀ y ∈ addN N x, y.2.size ≤ 100000) ∧ (addN N x).length ≤ k + 1) := (show (∀ y ∈ addN N x, y.2.size ≤ 100000) ∧ (addN N x).length ≤ k + 1 from ⟨hMs, by omega⟩)
          clear hbk hF' hbw' hrow hmine hMs hand c0 CS CB CK CP HBV HPV HSUM
          have t0 : (textL N).length = N.length := by simp [textL]
          have t1 : (textL (addN N x)).length = (addN N x).length := by simp [textL]
          go_wp2_with fail
          refine XA.mono ?_
          rintro e wD ⟨vD, rfl, mD, bD⟩
          obtain ⟨us, hus, hup⟩ := slice_parts_to vD (textL (addN N x)) _ N.length wD mD (by omega)
          obtain ⟨da, dc, rfl, _, _⟩ := mD.parts.open
          have kD : bookAt wD F' w2.heap.size (addN N x) c' := bookAt.below KC.out bD (Nat.le_refl _)
          have XF := findB_any F' w2.heap.size (addN N x) c' x.1 wD kD hxs (fun y hy => by have := MS.out.1 y hy; omega)
          rw [firstAt_add] at XF
          unfold sumV at XF
          have rD : wD.rowIs wA.heap.size 23 32 (arrV x.1) := bD.row RC.out (World.rowIs.lt RC.out)
          have ldD : ∀ i, i < 32 → wD.cell? ⟨wA.heap.size, 0 + i, none⟩ = some (arrV x.1 i) := fun i hi => by rw [Nat.zero_add]; exact rD.cell hi
          have KD : Hid (bookAt wD F' w2.heap.size (addN N x) c') := (show bookAt wD F' w2.heap.size (addN N x) c' from kD)
          have BD : Hid (Below w2.heap.size w2 wD) := (show Below w2.heap.size w2 wD from BC.out.trans (bD.mono BC.out.size))
          have MWD : Hid (mineParts wD wr.heap.size (.slice aa (textL N).length ac) (textL N)) := (show mineParts wD wr.heap.size (.slice aa (textL N).length ac) (textL N) from mineParts.below MC.out bD (Nat.le_refl _))
          have HUP : Hid (anyParts wD us N.length (fun i => (textL (addN N x)).getD i [])) := (show anyParts wD us N.length (fun i => (textL (addN N x)).getD i []) from hup)
          have HUS : Hid (∀ w : World, (Instr.slice 35 (.slice da (textL (addN N x)).length dc) none (some (.int .i64 N.length)) none).run Tryd.prog w = .ok us w) := (show ∀ w : World, (Instr.slice 35 (.slice da (textL (addN N x)).length dc) none (some (.int .i64 N.length)) none).run Tryd.prog w = .ok us w from hus)
          rw [t0, t1]
          rw [t1] at HUS
          rw [t0] at MWD
          clear XA mD bD kD rD hup hus KC BC RC MC
          go_upto_region 16 with fail
          go_wp2_with (first | (refine wpList_load_seg rfl 23 (.tmp 11) rfl wA.heap.size 0 32 (arrV x.1) rfl _ Tryd.underlying23 rfl hi32' ldD ?_))
          refine XF.mono ?_
          rintro e wE ⟨vF, rfl, iF, _, bE⟩
          obtain ⟨fa, fc, rfl, _⟩ := iF.slice
          have kE : bookAt wE F' w2.heap.size (addN N x) c' := bookAt.below KD.out bE (Nat.le_refl _)
          have XC := calls_any F' w2.heap.size _ c' wE kE
          have mE : mineParts wE wr.heap.size (.slice aa N.length ac) (textL N) := mineParts.below MWD.out bE (Nat.le_refl _)
          have AL := alike_any N.length (textL N).length us (.slice aa N.length ac) _ _ wE (anyParts.below HUP.out bE (Nat.le_refl _)) mE.parts.any
          have KE : Hid (bookAt wE F' w2.heap.size (addN N x) c') := (show bookAt wE F' w2.heap.size (addN N x) c' from kE)
          have BE : Hid (Below w2.heap.size w2 wE) := (show Below w2.heap.size w2 wE from BD.out.trans (bE.mono BD.out.size))
          have usl : ∃ a c, us = .slice a N.length c := by
            obtain ⟨a, c, h, _, _⟩ := anyParts.open HUP.out
            exact ⟨a, c, h⟩
          obtain ⟨sa, sc, rfl⟩ := usl
          have hsl := HUS.out
          have i1 : ((addN N x).length : Int) ≤ (N.length : Int) + 1 := by omega
          have i2 : (N.length : Int) ≤ ((addN N x).length : Int) := by omega
          have i3 : ((addN N x).length : Int) ≤ 1000 := by omega
          have i4 : (N.length : Int) ≤ 1000 := by omega
          have i5 : (0 : Int) ≤ (N.length : Int) := by omega
          clear iF bE kE mE XF ldD KD BD MWD HUP HUS
          go_wp2_with fail
          refine XC.mono ?_
          rintro e w' ⟨rfl, hw⟩
          obtain rfl := hw.symm
          clear hw XC
          go_wp2_with fail
          refine AL.mono ?_
          rintro e wG ⟨r, rfl, hr, bG⟩
          obtain rfl : r = true := hr.2 ⟨t0.symm, fun i hi => textL_add N x i hi⟩
          have GG : Hid (growAt w2 wG (k + 1)) := (show growAt w2 wG (k + 1) from ⟨F', addN N x, c', bookAt.below KE.out bG (Nat.le_refl _), GC.out, BE.out.trans (bG.mono BE.out.size), MS.out.2, MS.out.1, hc1, by omega⟩)
          clear AL hr bG KE BE hsl
          go_wp2
          go_light
          exact ⟨⟨k + 1, by omega, by go_num, GG.out⟩, by simp [intOf]; omega⟩
      · obtain rfl : k = n := by omega
        have p1 : ¬ (k : Int) < (k : Int) := by omega
        have w20 := HT2.out.1
        have hF0 : ¬ F 0 := fun hf => by have := hF 0 hf; omega
        have hs5 : ∀ i, i ≤ m → 1 + (flatTo (blobsB ps) i).length ≤ 100000000 := fun i hi => by
          have := blobs_le ps i
          have := flatTo_mono ps m i hi
          have := HPART.out
          omega
        obtain ⟨pl, hpl⟩ : ∃ pl, pl = preB kind m ps := ⟨_, rfl⟩
        have hplen : pl.length ≤ 90000 := by
          have := blobs_le ps m
          have := HPART.out
          rw [hpl, preB, List.length_append]; simp; omega
        have X := of_any F w2.heap.size N c kind m _ ps wr hbk (anyParts.below HP2.out hbw (Nat.le_refl _)) hs5 (tabIs.below HT2.out hbw w20) hF0 (by omega) ⟨hc0, by omega⟩
        rw [← hpl] at X
        unfold sumV at X
        have hFr : ∀ j, F j → j < wr.heap.size := hbk.2.1
        obtain ⟨x, hx⟩ : ∃ x : Nt, x = (sumL pl, strOf pl) := ⟨_, rfl⟩
        have hx1 : sumL pl = x.1 := by rw [hx]
        rw [← hx, hx1] at X
        have hxs : isSum x.1 := by rw [← hx1]; exact sumL_is pl
        have hMs : ∀ y ∈ addN N x, y.2.size ≤ 100000 := fun y hy => by
          rcases addN_mem hy with h | h
          · exact hNs y h
          · rw [h, hx]; show (strOf pl).size ≤ 100000; rw [strOf_size]; omega
        have hMl := addN_len N x
        have HPL : Hid (pl = preB kind m ps ∧ (sumL pl, strOf pl) = x) := (show pl = preB kind m ps ∧ (sumL pl, strOf pl) = x from ⟨hpl, hx.symm⟩)
        have HBW : Hid (Below w2.heap.size w2 wr) := (show Below w2.heap.size w2 wr from hbw)
        have HF : Hid (∀ j, F j → w2.heap.size ≤ j) := (show ∀ j, F j → w2.heap.size ≤ j from hF)
        have HS5 : Hid (∀ i, i ≤ m → 1 + (flatTo (blobsB ps) i).length ≤ 100000000) := (show ∀ i, i ≤ m → 1 + (flatTo (blobsB ps) i).length ≤ 100000000 from hs5)
        have HMS : Hid ((∀ y ∈ addN N x, y.2.size ≤ 100000) ∧ (addN N x).length ≤ 300) := (show (∀ y ∈ addN N x, y.2.size ≤ 100000) ∧ (addN N x).length ≤ 300 from ⟨hMs, by omega⟩)
        clear hbk hbw hF hs5 hF0 hpl hplen hx hx1 hMs hMl hNs
        go_wp2_with fail
        refine X.mono ?_
        rintro e w4 ⟨rfl, k4, f4⟩
        have s4 := f4.size
        have g4 : ∀ j, Gr F wr w4 j → w2.heap.size ≤ j := Gr.ge HF.out HBW.out.size
        have b4 : Below w2.heap.size w2 w4 := HBW.out.trans (f4.below HF.out HBW.out.size)
        have ra := rowIs_box w4 23 32 (fun _ => .int .u8 0)
        have K4 : Hid (bookAt w4 (Gr F wr w4) w2.heap.size (addN N x) (c + 1)) := (show bookAt w4 (Gr F wr w4) w2.heap.size (addN N x) (c + 1) from k4)
        have G4 : Hid (∀ j, Gr F wr w4 j → w2.heap.size ≤ j) := (show ∀ j, Gr F wr w4 j → w2.heap.size ≤ j from g4)
        have B4 : Hid (Below w2.heap.size w2 w4) := (show Below w2.heap.size w2 w4 from b4)
        clear X k4 f4 g4 b4 s4
        go_upto_region 20 with (first | (refine wpList_store_row rfl 23 (.tmp 15) (.tmp 116) rfl rfl w4.heap.size 0 32 (arrV x.1) rfl rfl hi32' (fun _ _ => rfl) _ _ _ ra (by omega) ?_; intro w5 r5 hz5 hb5))
        have hz5' : w5.heap.size = w4.heap.size + 1 := by rw [hz5]; simp
        have r5' : w5.rowIs w4.heap.size 23 32 (arrV x.1) := r5.congr fun i hi => by rw [if_pos (by omega), Nat.sub_zero]
        have b45 : Below w4.heap.size w4 w5 := ((Below.refl w4.heap.size w4).alloc (Nat.le_refl _) _).trans ((hb5.mono (by simp)).below (Nat.le_refl _))
        have k5 := bookAt.below K4.out b45 (Nat.le_refl _)
        have XA := all_any _ w2.heap.size _ _ w5 k5 (by have := HMS.out.2; omega) (fun y hy => by have := HMS.out.1 y hy; omega)
        have K5 : Hid (bookAt w5 (Gr F wr w4) w2.heap.size (addN N x) (c + 1)) := (show bookAt w5 (Gr F wr w4) w2.heap.size (addN N x) (c + 1) from k5)
        have B5 : Hid (Below w2.heap.size w2 w5) := (show Below w2.heap.size w2 w5 from B4.out.trans (b45.mono B4.out.size))
        have R5 : Hid (w5.rowIs w4.heap.size 23 32 (arrV x.1)) := (show w5.rowIs w4.heap.size 23 32 (arrV x.1) from r5')
        have S5 : Hid (w5.heap.size = w4.heap.size + 1) := (show w5.heap.size = w4.heap.size + 1 from hz5')
        have L4 : Hid (∀ j, Gr F wr w4 j → j < w4.heap.size) := (show ∀ j, Gr F wr w4 j → j < w4.heap.size from K4.out.2.1)
        clear k5 b45 r5 r5' hb5 hz5 hz5' ra K4
        go_wp2_with fail
        refine XA.mono ?_
        rintro e w6 ⟨v6, rfl, m6, b6⟩
        obtain ⟨a6, c6, rfl, _, _⟩ := m6.parts.open
        have k6 := bookAt.below K5.out b6 (Nat.le_refl _)
        have XC := calls_any _ w2.heap.size _ _ w6 k6
        have s6 := b6.size
        have s5 := S5.out
        have b26 : Below w2.heap.size w2 w6 := B5.out.trans (b6.mono B5.out.size)
        have r6 : w6.rowIs w4.heap.size 23 32 (arrV x.1) := b6.row R5.out (by omega)
        have K6 : Hid (bookAt w6 (Gr F wr w4) w2.heap.size (addN N x) (c + 1)) := (show bookAt w6 (Gr F wr w4) w2.heap.size (addN N x) (c + 1) from k6)
        have B6 : Hid (Below w2.heap.size w2 w6) := (show Below w2.heap.size w2 w6 from b26)
        have R6 : Hid (w6.rowIs w4.heap.size 23 32 (arrV x.1)) := (show w6.rowIs w4.heap.size 23 32 (arrV x.1) from r6)
        have M6 : Hid (mineParts w6 w5.heap.size (.slice a6 (textL (addN N x)).length c6) (textL (addN N x))) := (show mineParts w6 w5.heap.size (.slice a6 (textL (addN N x)).length c6) (textL (addN N x)) from m6)
        have S6 : Hid (w4.heap.size + 1 ≤ w6.heap.size ∧ w5.heap.size = w4.heap.size + 1) := (show w4.heap.size + 1 ≤ w6.heap.size ∧ w5.heap.size = w4.heap.size + 1 from ⟨by omega, s5⟩)
        clear XA m6 b6 k6 b26 r6 s6 s5 K5 B5 R5 S5
        go_wp2_with fail
        refine XC.mono ?_
        rintro e w' ⟨rfl, hw⟩
        obtain rfl := hw.symm
        clear hw XC
        go_upto_region 21 with fail
        have w20 := HT2.out.1
        have X := of_any _ w2.heap.size _ _ kind m _ ps w6.drew (bookAt.below K6.out ((Below.refl _ _).drew) (Nat.le_refl _)) (anyParts.below HP2.out B6.out.drew (Nat.le_refl _)) HS5.out (tabIs.below HT2.out B6.out.drew w20) (fun hf => by have := G4.out 0 hf; omega) (by have := HMS.out.2; omega) ⟨by omega, by omega⟩
        rw [← HPL.out.1, HPL.out.2, show sumL pl = x.1 from congrArg Prod.fst HPL.out.2, addN_in (addN_has N x x (Or.inr rfl))] at X
        unfold sumV at X
        have HX : Hid (Calls Tryd.prog 17 #[.pointer (some ⟨w2.heap.size, 0, none⟩), .int .i64 kind, .slice ua m uc] w6.drew fun e w' => e = .returned (.agg (rowV 32 (arrV x.1))) ∧ bookAt w' (Gr (Gr F wr w4) w6.drew w') w2.heap.size (addN N x) (c + 1 + 1) ∧ Fr (Gr F wr w4) w6.drew w') := (show Calls Tryd.prog 17 #[.pointer (some ⟨w2.heap.size, 0, none⟩), .int .i64 kind, .slice ua m uc] w6.drew fun e w' => e = .returned (.agg (rowV 32 (arrV x.1))) ∧ bookAt w' (Gr (Gr F wr w4) w6.drew w') w2.heap.size (addN N x) (c + 1 + 1) ∧ Fr (Gr F wr w4) w6.drew w' from X)
        have hwrap : IntKind.i64.wrap (c + 1 + 1) = c + 1 + 1 := IntWalk.i64_in _ (by omega)
        have heq : ∀ wz : World, (Op.equalIn 10000 23 (.agg (rowV 32 (arrV x.1))) (.agg (rowV 32 (arrV x.1)))).run Tryd.prog wz = .ok true wz := fun wz => by
          have := run_eq_sums wz 9998 hxs hxs
          simpa [sumV] using this
        clear X
        refine wp_region_noPanic ?_
        refine wp_region_held_drew (S := fun w' => Below w2.heap.size w2 w' ∧ ∀ i, i < 32 → w'.cell? ⟨w4.heap.size, 0 + i, none⟩ = some (arrV x.1 i)) (by kernel_rfl) ⟨B6.out.drew, fun i hi => by rw [Nat.zero_add]; exact World.rowIs.cell R6.out hi⟩ (fun hHeld => ?_)
        refine take_op (i := 0) (v := ?ve0) rfl (by kernel_rfl) (by kernel_rfl) (by kernel_rfl) (fun _ _ _ h => h) rfl hHeld ?ye0 ?re0
        case ye0 => (intro wz hz; go_simp; first | done | with_reducible rfl)
        try simp only [Act.put, List.setIfInBounds_toArray, List.set_cons_zero, List.set_cons_succ]
        refine take_op (i := 1) (v := ?ve1) rfl (by kernel_rfl) (by kernel_rfl) (by kernel_rfl) (fun _ _ _ h => h) rfl hHeld ?ye1 ?re1
        case ye1 => (intro wz hz; go_simp; first | done | with_reducible rfl)
        try simp only [Act.put, List.setIfInBounds_toArray, List.set_cons_zero, List.set_cons_succ]
        refine take_op (i := 2) (v := ?ve2) rfl (by kernel_rfl) (by kernel_rfl) (by kernel_rfl) (fun _ _ _ h => h) rfl hHeld ?ye2 ?re2
        case ye2 => (intro wz hz; go_simp; first | done | with_reducible rfl)
        try simp only [Act.put, List.setIfInBounds_toArray, List.set_cons_zero, List.set_cons_succ]
        refine take_load (i := 4) rfl (by kernel_rfl) (by kernel_rfl) (by kernel_rfl) 23 _ rfl w4.heap.size 0 32 (arrV x.1) rfl _ Tryd.underlying23 rfl (by kernel_rfl) (fun _ _ _ h => h) rfl hHeld (fun wz hz => hz.2) ?_
        try simp only [Act.put, List.setIfInBounds_toArray, List.set_cons_zero, List.set_cons_succ]
        refine take_one (i := 3) rfl (by kernel_rfl) rfl (fun K hK => ?_)
        go_simp
        refine Calls.mono HX.out ?_
        rintro e w8 ⟨rfl, k8, f8⟩
        have s6 := S6.out
        have s8 : w6.heap.size ≤ w8.heap.size := f8.size
        have w26 := B6.out.size
        have b8 : Below w2.heap.size w2 w8 := B6.out.drew.trans (f8.below G4.out w26)
        have r8 : w8.rowIs w4.heap.size 23 32 (arrV x.1) := World.rowIs.of_block R6.out (f8.block w4.heap.size (show w4.heap.size < w6.heap.size by omega) (fun hf => by have := L4.out _ hf; omega))
        have m8 : mineParts w8 w5.heap.size (.slice a6 (textL (addN N x)).length c6) (textL (addN N x)) := mineParts.far M6.out (fun j hj hl => f8.block j hl (fun hf => by have := L4.out _ hf; omega)) s8
        have XA := all_any _ w2.heap.size _ _ w8 k8 (by have := HMS.out.2; omega) (fun y hy => by have := HMS.out.1 y hy; omega)
        refine hK.out _ _ ⟨b8, fun i hi => by rw [Nat.zero_add]; exact r8.cell hi⟩ (fun hHeld => ?_)
        clear hK K
        try simp only [Act.put, List.setIfInBounds_toArray, List.set_cons_zero, List.set_cons_succ]
        refine take_op (i := 5) (v := ?ve5) rfl (by kernel_rfl) (by kernel_rfl) (by kernel_rfl) (fun _ _ _ h => h) rfl hHeld ?ye5 ?re5
        case ye5 => (intro wz hz; have hcz := heq wz; go_simp; first | done | with_reducible rfl)
        try simp only [Act.put, List.setIfInBounds_toArray, List.set_cons_zero, List.set_cons_succ]
        refine take_op (i := 6) (v := ?ve6) rfl (by kernel_rfl) (by kernel_rfl) (by kernel_rfl) (fun _ _ _ h => h) rfl hHeld ?ye6 ?re6
        case ye6 => (intro wz hz; go_simp; first | done | with_reducible rfl)
        try simp only [Act.put, List.setIfInBounds_toArray, List.set_cons_zero, List.set_cons_succ]
        refine take_op (i := 7) (v := ?ve7) rfl (by kernel_rfl) (by kernel_rfl) (by kernel_rfl) (fun _ _ _ h => h) rfl hHeld ?ye7 ?re7
        case ye7 => (intro wz hz; go_simp; first | done | with_reducible rfl)
        try simp only [Act.put, List.setIfInBounds_toArray, List.set_cons_zero, List.set_cons_succ]
        refine take_op (i := 9) (v := ?ve9) rfl (by kernel_rfl) (by kernel_rfl) (by kernel_rfl) (fun _ _ _ h => h) rfl hHeld ?ye9 ?re9
        case ye9 => (intro wz hz; go_simp; first | done | with_reducible rfl)
        try simp only [Act.put, List.setIfInBounds_toArray, List.set_cons_zero, List.set_cons_succ]
        refine take_one (i := 8) rfl (by kernel_rfl) rfl (fun K hK => ?_)
        go_simp
        refine Calls.mono XA ?_
        rintro e w9 ⟨v9, rfl, m9, b9⟩
        have hb9 : Below w2.heap.size w2 w9 := b8.trans (b9.mono b8.size)
        have r9 : w9.rowIs w4.heap.size 23 32 (arrV x.1) := b9.row r8 (World.rowIs.lt r8)
        have k9 := bookAt.below k8 b9 (Nat.le_refl _)
        have AL := alike_any _ _ _ _ _ _ w9 m9.parts.any (m8.below b9 (Nat.le_refl _)).parts.any
        obtain ⟨a9, c9, rfl, _, _⟩ := m9.parts.open
        refine hK.out _ _ ⟨hb9, fun i hi => by rw [Nat.zero_add]; exact r9.cell hi⟩ (fun hHeld => ?_)
        clear hK K
        try simp only [Act.put, List.setIfInBounds_toArray, List.set_cons_zero, List.set_cons_succ]
        refine take_one (i := 10) rfl (by kernel_rfl) rfl (fun K hK => ?_)
        go_simp
        refine Calls.mono AL ?_
        rintro e w10 ⟨r, rfl, hr, b10⟩
        obtain rfl : r = true := hr.2 ⟨rfl, fun i hi => rfl⟩
        have hb10 : Below w2.heap.size w2 w10 := hb9.trans (b10.mono hb9.size)
        have r10 : w10.rowIs w4.heap.size 23 32 (arrV x.1) := b10.row r9 (World.rowIs.lt r9)
        have XC := calls_any _ w2.heap.size _ _ w10 (k9.below b10 (Nat.le_refl _))
        refine hK.out _ _ ⟨hb10, fun i hi => by rw [Nat.zero_add]; exact r10.cell hi⟩ (fun hHeld => ?_)
        clear hK K
        try simp only [Act.put, List.setIfInBounds_toArray, List.set_cons_zero, List.set_cons_succ]
        refine take_op (i := 11) (v := ?ve11) rfl (by kernel_rfl) (by kernel_rfl) (by kernel_rfl) (fun _ _ _ h => h) rfl hHeld ?ye11 ?re11
        case ye11 => (intro wz hz; go_simp; first | done | with_reducible rfl)
        try simp only [Act.put, List.setIfInBounds_toArray, List.set_cons_zero, List.set_cons_succ]
        refine take_op (i := 12) (v := ?ve12) rfl (by kernel_rfl) (by kernel_rfl) (by kernel_rfl) (fun _ _ _ h => h) rfl hHeld ?ye12 ?re12
        case ye12 => (intro wz hz; go_simp; first | done | with_reducible rfl)
        try simp only [Act.put, List.setIfInBounds_toArray, List.set_cons_zero, List.set_cons_succ]
        refine take_op (i := 13) (v := ?ve13) rfl (by kernel_rfl) (by kernel_rfl) (by kernel_rfl) (fun _ _ _ h => h) rfl hHeld ?ye13 ?re13
        case ye13 => (intro wz hz; go_simp; first | done | with_reducible rfl)
        try simp only [Act.put, List.setIfInBounds_toArray, List.set_cons_zero, List.set_cons_succ]
        refine take_op (i := 15) (v := ?ve15) rfl (by kernel_rfl) (by kernel_rfl) (by kernel_rfl) (fun _ _ _ h => h) rfl hHeld ?ye15 ?re15
        case ye15 => (intro wz hz; go_simp; first | done | with_reducible rfl)
        try simp only [Act.put, List.setIfInBounds_toArray, List.set_cons_zero, List.set_cons_succ]
        refine take_op (i := 16) (v := ?ve16) rfl (by kernel_rfl) (by kernel_rfl) (by kernel_rfl) (fun _ _ _ h => h) rfl hHeld ?ye16 ?re16
        case ye16 => (intro wz hz; have hcz := hwrap; go_simp; first | done | with_reducible rfl)
        try simp only [Act.put, List.setIfInBounds_toArray, List.set_cons_zero, List.set_cons_succ]
        refine take_one (i := 14) rfl (by kernel_rfl) rfl (fun K hK => ?_)
        go_simp
        refine Calls.mono XC ?_
        rintro e w11 ⟨rfl, hw11⟩
        obtain rfl := hw11.symm
        refine hK.out _ _ hHeld (fun hHeld => ?_)
        clear hK K hw11
        try simp only [Act.put, List.setIfInBounds_toArray, List.set_cons_zero, List.set_cons_succ]
        refine take_op (i := 17) (v := ?ve17) rfl (by kernel_rfl) (by kernel_rfl) (by kernel_rfl) (fun _ _ _ h => h) rfl hHeld ?ye17 ?re17
        case ye17 => (intro wz hz; go_simp; first | done | with_reducible rfl)
        try simp only [Act.put, List.setIfInBounds_toArray, List.set_cons_zero, List.set_cons_succ]
        refine take_op (i := 18) (v := ?ve18) rfl (by kernel_rfl) (by kernel_rfl) (by kernel_rfl) (fun _ _ _ h => h) rfl hHeld ?ye18 ?re18
        case ye18 => (intro wz hz; go_simp; first | done | with_reducible rfl)
        try simp only [Act.put, List.setIfInBounds_toArray, List.set_cons_zero, List.set_cons_succ]
        refine take_op (i := 19) (v := ?ve19) rfl (by kernel_rfl) (by kernel_rfl) (by kernel_rfl) (fun _ _ _ h => h) rfl hHeld ?ye19 ?re19
        case ye19 => (intro wz hz; go_simp; first | done | with_reducible rfl)
        try simp only [Act.put, List.setIfInBounds_toArray, List.set_cons_zero, List.set_cons_succ]
        refine take_one (i := 20) rfl (by kernel_rfl) rfl (fun K hK => ?_)
        go_simp
        refine Calls.mono (AW.out _ hHeld.1) ?_
        rintro e w12 ⟨rfl, b12⟩
        have hb12 : Below w2.heap.size w2 w12 := hHeld.1.trans (b12.mono hHeld.1.size)
        refine hK.out _ _ ⟨hb12, fun i hi => by rw [Nat.zero_add]; exact (b12.row r10 (World.rowIs.lt r10)).cell hi⟩ (fun hHeld => ?_)
        clear hK K
        try simp only [Act.put, List.setIfInBounds_toArray, List.set_cons_zero, List.set_cons_succ]
        refine take_op (i := 21) (v := ?ve21) rfl (by kernel_rfl) (by kernel_rfl) (by kernel_rfl) (fun _ _ _ h => h) rfl hHeld ?ye21 ?re21
        case ye21 => (intro wz hz; go_simp; first | done | with_reducible rfl)
        try simp only [Act.put, List.setIfInBounds_toArray, List.set_cons_zero, List.set_cons_succ]
        refine take_op (i := 22) (v := ?ve22) rfl (by kernel_rfl) (by kernel_rfl) (by kernel_rfl) (fun _ _ _ h => h) rfl hHeld ?ye22 ?re22
        case ye22 => (intro wz hz; go_simp; first | done | with_reducible rfl)
        try simp only [Act.put, List.setIfInBounds_toArray, List.set_cons_zero, List.set_cons_succ]
        refine wpAnyH_done (by kernel_rfl) ?_ _
        refine NoPanic.normal ?_
        have HB12 : Hid (Below w2.heap.size w2 w12) := (show Below w2.heap.size w2 w12 from hb12)
        clear hHeld hb12 b12 XC AL XA k8 f8 b8 r8 m8 m9 b9 hb9 r9 k9 b10 hb10 r10 hr
        go_wp2
        go_ret
        exact ⟨rfl, HB2.out.trans (HB12.out.mono HB2.out.size)⟩
end Go.Proofs.YtcfbaijibghcaaaDoor
