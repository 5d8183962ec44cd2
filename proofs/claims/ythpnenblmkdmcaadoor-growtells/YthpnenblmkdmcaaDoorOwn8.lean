import Derived.Test.YthpnenblmkdmcaaDoorOwn5
import Derived.Test.YthpnenblmkdmcaaDoorOwn6
import Derived.Test.YthpnenblmkdmcaaDoorOwn7
set_option linter.unusedVariables false
set_option linter.unusedSimpArgs false
/- grow.Extends: its walk. -/
namespace Go.Proofs.YthpnenblmkdmcaaDoor
set_option linter.unusedSimpArgs false
set_option linter.unusedVariables false
open Go.RowKit Go.Deep Go.Shelf

/-- refused by its numbers. -/
def extNo (m n : Int) (len : Nat) : Bool := decide (m < 0) || decide (n < m) || !decide ((len : Int) = gSteps m n)
/-- what Extends tells. -/
def extR (m n : Int) (old fresh : List Int) (path : List (List Int)) : Bool :=
  if extNo m n path.length = true then false
  else if n = 0 then decide (rootS [] = old) && decide (rootS [] = fresh)
  else if m = 0 then decide (rootS [] = old)
  else decide ((gTell (gI m n) old path).1 = old) && decide ((gTell (gI m n) old path).2 = fresh)
def extN (N : List Nt) (m n : Int) (old : List Int) (path : List (List Int)) : List Nt :=
  if extNo m n path.length = true then N else if n = 0 ∨ m = 0 then rootN N [] else gTellN N (gI m n) old path
def extC (m n : Int) (path : List (List Int)) : Int :=
  if extNo m n path.length = true then 0 else if n = 0 ∨ m = 0 then 1 else gCnt (gUps (gI m n) (gRest (gI m n) path))
def extPost (F : Nat → Prop) (kv : Value) (N : List Nt) (c : Int) (m n : Int) (old fresh : List Int) (path : List (List Int)) (w : World) (e : Ending) (w' : World) : Prop :=
  ∃ Fi, e = .returned (okI (extR m n old fresh path)) ∧ bkAt kv w' Fi (extN N m n old path) (c + extC m n path) ∧ (∀ j, Fi j → F j ∨ w.heap.size ≤ j) ∧ Fr F w w'
set_option maxRecDepth 100000 in
set_option maxHeartbeats 4000000 in
theorem extends_k (F : Nat → Prop) (kv : Value) (N : List Nt) (c : Int) (m n : Int) (old fresh : List Int) (path : List (List Int)) (pv : Value) (w : World) (hm : -9223372036854775808 ≤ m ∧ m ≤ 9223372036854775807) (hn : -9223372036854775808 ≤ n ∧ n ≤ 9223372036854775807) (hk : bkAt kv w F N c)
    (ho : isSum old) (hf : isSum fresh) (hp : sumsAt w pv path) (hpl : path.length ≤ 1000) (hpF : 0 < path.length → ∀ j, pv.ownBlock = some j → ¬ F j) (ht : tabIs w) (hF0 : ¬ F 0) (hN : N.length < 90000) (hc : 0 ≤ c ∧ c < 90000000) :
    Calls Tryd.prog 15 #[kv, .int .i64 m, .int .i64 n, .agg (rowV 32 (arrV old)), .agg (rowV 32 (arrV fresh)), pv] w fun e w' => extPost F kv N c m n old fresh path w e w' := by
  obtain ⟨ka, rfl⟩ : ∃ ka, kv = .pointer ka := by
    rcases hk with ⟨e, _⟩ | ⟨k, e, _⟩ <;> exact ⟨_, e⟩
  have hFlt := hk.lt
  have hsl : ∃ a cap, pv = .slice a path.length cap := by
    obtain ⟨_, a, cap, e, _⟩ := hp; exact ⟨a, cap, e⟩
  obtain ⟨pa, pc, rfl⟩ := hsl
  have hz32 := zero_s32
  obtain ⟨w1, hw1⟩ : ∃ w1, w1 = (w.alloc (.cells (rowV 32 (arrV old)) 29)).alloc (.cells (rowV 32 (arrV fresh)) 29) := ⟨_, rfl⟩
  have b1 : Below w.heap.size w w1 := by rw [hw1]; exact (((Below.refl _ _).alloc (Nat.le_refl _) _).alloc (by simp) _)
  have z1 : w1.heap.size = w.heap.size + 2 := by rw [hw1]; simp
  have r9 : w1.rowIs w.heap.size 29 32 (arrV old) := by
    have r := rowIs_box w 29 32 (arrV old)
    rw [hw1]; exact ((Below.refl (w.alloc (.cells (rowV 32 (arrV old)) 29)).heap.size _).alloc (Nat.le_refl _) _).row r (by simp)
  have r10 : w1.rowIs (w.heap.size + 1) 29 32 (arrV fresh) := by
    have r := rowIs_box (w.alloc (.cells (rowV 32 (arrV old)) 29)) 29 32 (arrV fresh)
    rw [World.size_alloc] at r
    rw [hw1]; exact r
  have hmf : ∀ (fn : Fn) (first cap : Array Value) (w : World), (Instr.makeFunc fn first cap).run Tryd.prog w = .ok (.func fn first cap) w := fun _ _ _ _ => rfl
  have XS := steps_any m n hm hn w1
  have q0 : (path.length : Int) ≤ 1000 := by omega
  have HK : Hid (bkAt (.pointer ka) w1 F N c) := (show bkAt (.pointer ka) w1 F N c from hk.below b1 (Nat.le_refl _))
  have HO : Hid (isSum old) := (show isSum old from ho)
  have HF : Hid (isSum fresh) := (show isSum fresh from hf)
  have HP : Hid (sumsAt w1 (.slice pa path.length pc) path) := (show sumsAt w1 (.slice pa path.length pc) path from hp.below b1 (Nat.le_refl _))
  have HPF : Hid (0 < path.length → ∀ j, (Value.slice pa path.length pc).ownBlock = some j → ¬ F j) := (show 0 < path.length → ∀ j, (Value.slice pa path.length pc).ownBlock = some j → ¬ F j from hpF)
  have HT : Hid (tabIs w1) := (show tabIs w1 from ht.below b1 ht.1)
  have HF0 : Hid (¬ F 0) := (show ¬ F 0 from hF0)
  have HFL : Hid (∀ j, F j → j < w.heap.size) := (show ∀ j, F j → j < w.heap.size from hFlt)
  have HN : Hid (N.length < 90000) := (show N.length < 90000 from hN)
  have HC : Hid (0 ≤ c ∧ c < 90000000) := (show 0 ≤ c ∧ c < 90000000 from hc)
  have B1 : Hid (Below w.heap.size w w1) := (show Below w.heap.size w w1 from b1)
  have Z1 : Hid (w1.heap.size = w.heap.size + 2) := (show w1.heap.size = w.heap.size + 2 from z1)
  have R9 : Hid (w1.rowIs w.heap.size 29 32 (arrV old)) := (show w1.rowIs w.heap.size 29 32 (arrV old) from r9)
  have R10 : Hid (w1.rowIs (w.heap.size + 1) 29 32 (arrV fresh)) := (show w1.rowIs (w.heap.size + 1) 29 32 (arrV fresh) from r10)
  have NONE : Hid (∀ w2, Below w1.heap.size w1 w2 → extNo m n path.length = true → ∃ Fi, okI false = okI (extR m n old fresh path) ∧ bkAt (.pointer ka) w2 Fi (extN N m n old path) (c + extC m n path) ∧ (∀ j, Fi j → F j ∨ w.heap.size ≤ j) ∧ Fr F w w2) := (show ∀ w2, Below w1.heap.size w1 w2 → extNo m n path.length = true → _ from fun w2 h2 h => by
    have hz := b1.size
    refine ⟨F, by unfold extR; rw [if_pos h], ?_, fun j hj => Or.inl hj, Fr.of_below F (b1.trans (h2.mono hz))⟩
    unfold extN extC
    rw [if_pos h, if_pos h, Int.add_zero]
    exact HK.out.below h2 (Nat.le_refl _))
  clear hk ho hf hp hpF ht hF0 hFlt hN hc b1 z1 r9 r10
  go_enter Tryd.func15, Tryd.ntmps15
  go_upto_region 1 with fail
  rw [← hw1]
  clear hw1
  by_cases c1 : m < 0
  · have EX : Hid (extNo m n path.length = true) := (show extNo m n path.length = true from by unfold extNo; simp [c1])
    clear XS
    go_wp2
    go_ret
    obtain ⟨Fi, f1, f2, f3, f4⟩ := NONE.out w1 (Below.refl _ _) EX.out
    exact ⟨Fi, by rw [← f1]; rfl, f2, f3, f4⟩
  by_cases c2 : n < m
  · have EX : Hid (extNo m n path.length = true) := (show extNo m n path.length = true from by unfold extNo; simp [c2])
    have c2' : m > n := c2
    clear XS
    go_wp2
    go_ret
    obtain ⟨Fi, f1, f2, f3, f4⟩ := NONE.out w1 (Below.refl _ _) EX.out
    exact ⟨Fi, by rw [← f1]; rfl, f2, f3, f4⟩
  go_wp2_with fail
  refine XS.mono ?_
  rintro e w2 ⟨rfl, b2⟩
  clear XS
  have B2 : Hid (Below w1.heap.size w1 w2) := (show Below w1.heap.size w1 w2 from b2)
  clear b2
  by_cases c3 : (path.length : Int) = gSteps m n
  · have EX : Hid (extNo m n path.length = false) := (show extNo m n path.length = false from by unfold extNo; simp [c1, c2, c3])
    have EY : Hid ((path.length : Int) = gSteps m n) := (show (path.length : Int) = gSteps m n from c3)
    have R9b : Hid (w2.rowIs w.heap.size 29 32 (arrV old)) := (show w2.rowIs w.heap.size 29 32 (arrV old) from B2.out.row R9.out (by have := Z1.out; omega))
    have R10b : Hid (w2.rowIs (w.heap.size + 1) 29 32 (arrV fresh)) := (show w2.rowIs (w.heap.size + 1) 29 32 (arrV fresh) from B2.out.row R10.out (by have := Z1.out; omega))
    have K2 : Hid (bkAt (.pointer ka) w2 F N c) := (show bkAt (.pointer ka) w2 F N c from HK.out.below B2.out (Nat.le_refl _))
    have T2 : Hid (tabIs w2) := (show tabIs w2 from HT.out.below B2.out HT.out.1)
    have S2 : Hid (Below w.heap.size w w2) := (show Below w.heap.size w w2 from B1.out.trans (B2.out.mono B1.out.size))
    have Z2 : Hid (w.heap.size + 2 ≤ w2.heap.size) := (show w.heap.size + 2 ≤ w2.heap.size from by have := B2.out.size; have := Z1.out; omega)
    -- the root of none
    have ROOT : Hid (∀ wz, Below w2.heap.size w2 wz → Calls Tryd.prog 18 #[.pointer ka, .slice none 0 0] wz fun e w' => ∃ Fi, e = .returned (.agg (rowV 32 (arrV (rootS [])))) ∧ bkAt (.pointer ka) w' Fi (rootN N []) (c + 1) ∧ (∀ j, Fi j → F j ∨ w.heap.size + 2 ≤ j) ∧ Fr F w2 w') := (show ∀ wz, Below w2.heap.size w2 wz → _ from fun wz hz => by
      refine (root_k F (.pointer ka) N c [] (.slice none 0 0) wz (K2.out.below hz (Nat.le_refl _)) (sumsAt.nil _) (fun h => by simp at h) (by simp) (T2.out.below hz T2.out.1) HF0.out (by have := HN.out; simp; omega) (by have := HC.out; simp; omega)).mono ?_
      rintro e w' ⟨rfl, h1, h2⟩
      refine ⟨_, rfl, h1, fun j hj => ?_, (Fr.of_below F hz).trans h2 (fun j _ h => h)⟩
      rcases hj with h | h
      · exact Or.inl h
      · have := hz.size; have := Z2.out; exact Or.inr (by omega))
    have ONE : isSum (rootS []) := rootS_sum (fun x hx => by simp at hx)
    have HONE : Hid _ := ONE
    clear ONE c1 c2
    by_cases c4 : n = 0
    · subst c4
      have XR := ROOT.out w2 (Below.refl _ _)
      go_wp2_with fail
      refine XR.mono ?_
      rintro e w3 ⟨Fi, rfl, h1, h2, h3⟩
      clear XR ROOT
      have hz := rowIs_box w3 29 32 (fun _ => .int .u8 0)
      have HZ : Hid ((w3.alloc (.cells (rowV 32 (fun _ => .int .u8 0)) 29)).rowIs w3.heap.size 29 32 (fun _ => .int .u8 0)) := (show (w3.alloc (.cells (rowV 32 (fun _ => .int .u8 0)) 29)).rowIs w3.heap.size 29 32 (fun _ => .int .u8 0) from hz)
      have HH1 : Hid (bkAt (.pointer ka) w3 Fi (rootN N []) (c + 1)) := (show bkAt (.pointer ka) w3 Fi (rootN N []) (c + 1) from h1)
      have HH2 : Hid (∀ j, Fi j → F j ∨ w.heap.size + 2 ≤ j) := (show ∀ j, Fi j → F j ∨ w.heap.size + 2 ≤ j from h2)
      have HH3 : Hid (Fr F w2 w3) := (show Fr F w2 w3 from h3)
      have EXR : Hid (extR m 0 old fresh path = (decide (rootS [] = old) && decide (rootS [] = fresh)) ∧ extN N m 0 old path = rootN N [] ∧ extC m 0 path = 1) := (show _ ∧ _ ∧ _ from ⟨by unfold extR; rw [if_neg (by rw [EX.out]; simp), if_pos rfl], by unfold extN; rw [if_neg (by rw [EX.out]; simp), if_pos (Or.inl rfl)], by unfold extC; rw [if_neg (by rw [EX.out]; simp), if_pos (Or.inl rfl)]⟩)
      generalize rootS [] = E at HONE EXR
      clear hz h1 h2 h3
      go_upto_region 6 with (first | (refine wpList_store_row rfl 29 _ _ rfl rfl w3.heap.size 0 32 (arrV E) rfl rfl hi32' (fun _ _ => rfl) _ _ _ HZ.out (by omega) ?_; intro w5 r5 z5 b5))
      have b35 : Below w3.heap.size w3 w5 := ((Below.refl w3.heap.size w3).alloc (Nat.le_refl _) _).trans (b5.below' (Nat.le_refl _) (by simp))
      have zz3 := HH3.out.size
      have nF9 : ¬ F w.heap.size := fun h => by have := HFL.out _ h; omega
      have nF10 : ¬ F (w.heap.size + 1) := fun h => by have := HFL.out _ h; omega
      have g9 := b35.row (World.rowIs.of_block R9b.out (HH3.out.block _ (by have := Z2.out; omega) nF9)) (by have := Z2.out; omega)
      have g10 := b35.row (World.rowIs.of_block R10b.out (HH3.out.block _ (by have := Z2.out; omega) nF10)) (by have := Z2.out; omega)
      have XU := unless_any E E old fresh w.heap.size (w.heap.size + 1) w5 HONE.out HONE.out HO.out HF.out g9 g10
      have C14 : Hid (∀ j, j < 32 → w5.cell? ⟨w3.heap.size, 0 + j, none⟩ = some (arrV E j)) := (show ∀ j, j < 32 → _ from fun j hj => by rw [r5.cell (by omega), if_pos (by omega), show 0 + j - 0 = j from by omega])
      have B35 : Hid (Below w3.heap.size w3 w5) := (show Below w3.heap.size w3 w5 from b35)
      clear r5 z5 b5 b35 zz3 nF9 nF10 g9 g10
      go_wp2_with (first | (refine wpList_load_seg rfl 29 _ rfl w3.heap.size 0 32 (arrV E) rfl _ Tryd.underlying29 rfl hi32' C14.out ?_))
      refine XU.mono ?_
      rintro e w6 ⟨rfl, b6⟩
      have B6 : Hid (Below w5.heap.size w5 w6) := (show Below w5.heap.size w5 w6 from b6)
      clear XU b6
      go_wp2
      go_ret
      have b36 := B35.out.trans (B6.out.mono B35.out.size)
      refine ⟨Fi, by rw [EXR.out.1]; rfl, ?_, fun j hj => by rcases HH2.out j hj with h | h; exact Or.inl h; exact Or.inr (by omega), (Fr.of_below F S2.out).trans (HH3.out.trans (Fr.of_below F b36) (fun j _ h => h)) (fun j _ h => h)⟩
      rw [EXR.out.2.1, EXR.out.2.2]
      exact HH1.out.below b36 (Nat.le_refl _)
    by_cases c5 : m = 0
    · subst c5
      have c4' : ¬ n = 0 := c4
      have EXR : Hid (extR 0 n old fresh path = (decide (rootS [] = old)) ∧ extN N 0 n old path = rootN N [] ∧ extC 0 n path = 1) := (show _ ∧ _ ∧ _ from ⟨by unfold extR; rw [if_neg (by rw [EX.out]; simp), if_neg c4, if_pos rfl], by unfold extN; rw [if_neg (by rw [EX.out]; simp), if_pos (Or.inr rfl)], by unfold extC; rw [if_neg (by rw [EX.out]; simp), if_pos (Or.inr rfl)]⟩)
      have XR := ROOT.out w2.drew ((Below.refl _ _).drew)
      generalize rootS [] = E at HONE EXR XR
      have HXR : Hid (Calls Tryd.prog 18 #[.pointer ka, .slice none 0 0] w2.drew fun e w' => ∃ Fi, e = .returned (.agg (rowV 32 (arrV E))) ∧ bkAt (.pointer ka) w' Fi (rootN N []) (c + 1) ∧ (∀ j, Fi j → F j ∨ w.heap.size + 2 ≤ j) ∧ Fr F w2 w') := (show Calls _ _ _ _ _ from XR)
      clear ROOT XR
      go_upto_region 8 with fail
      refine wp_region_noPanic ?_
      refine wp_region_held_drew (S := fun w' => w'.rowIs w.heap.size 29 32 (arrV old) ∧ w'.rowIs (w.heap.size + 1) 29 32 (arrV fresh)) (by kernel_rfl) ⟨R9b.out, R10b.out⟩ (fun hHeld => ?_)
      refine take_op (i := 0) (v := ?vm0) rfl (by kernel_rfl) (by kernel_rfl) (by kernel_rfl) (fun _ _ _ h => h) rfl hHeld ?ym0 ?rm0
      case ym0 => (intro wz hz; go_simp; first | done | with_reducible rfl)
      try simp only [Act.put, List.setIfInBounds_toArray, List.set_cons_zero, List.set_cons_succ]
      refine take_op (i := 1) (v := ?vm1) rfl (by kernel_rfl) (by kernel_rfl) (by kernel_rfl) (fun _ _ _ h => h) rfl hHeld ?ym1 ?rm1
      case ym1 => (intro wz hz; go_simp; first | done | with_reducible rfl)
      try simp only [Act.put, List.setIfInBounds_toArray, List.set_cons_zero, List.set_cons_succ]
      refine take_load (i := 3) rfl (by kernel_rfl) (by kernel_rfl) (by kernel_rfl) 29 _ rfl (w.heap.size + 1) 0 32 (arrV fresh) rfl _ Tryd.underlying29 rfl (by kernel_rfl) (fun _ _ _ h => h) rfl hHeld (fun wz hz j hj => by rw [Nat.zero_add]; exact World.rowIs.cell hz.2 hj) ?_
      try simp only [Act.put, List.setIfInBounds_toArray, List.set_cons_zero, List.set_cons_succ]
      refine take_one (i := 2) rfl (by kernel_rfl) rfl (fun K hK => ?_)
      go_simp
      refine Calls.mono HXR.out ?_
      rintro e w3 ⟨Fi, rfl, h1, h2, h3⟩
      have nF9 : ¬ F w.heap.size := fun h => by have := HFL.out _ h; omega
      have nF10 : ¬ F (w.heap.size + 1) := fun h => by have := HFL.out _ h; omega
      have g9 := World.rowIs.of_block R9b.out (h3.block _ (by have := Z2.out; omega) nF9)
      have g10 := World.rowIs.of_block R10b.out (h3.block _ (by have := Z2.out; omega) nF10)
      refine hK.out _ _ ⟨g9, g10⟩ (fun hHeld => ?_)
      clear hK K
      try simp only [Act.put, List.setIfInBounds_toArray, List.set_cons_zero, List.set_cons_succ]
      have XU := unless_any E fresh old fresh w.heap.size (w.heap.size + 1) w3 HONE.out HF.out HO.out HF.out g9 g10
      rw [decide_eq_true (rfl : fresh = fresh), Bool.and_true] at XU
      refine take_one (i := 4) rfl (by kernel_rfl) rfl (fun K hK => ?_)
      go_simp
      refine Calls.mono XU ?_
      rintro e w6 ⟨rfl, b6⟩
      clear XU
      refine hK.out _ _ ⟨b6.row g9 (gRow_lt g9), b6.row g10 (gRow_lt g10)⟩ (fun hHeld => ?_)
      clear hK K
      try simp only [Act.put, List.setIfInBounds_toArray, List.set_cons_zero, List.set_cons_succ]
      refine take_op (i := 5) (v := ?vm5) rfl (by kernel_rfl) (by kernel_rfl) (by kernel_rfl) (fun _ _ _ h => h) rfl hHeld ?ym5 ?rm5
      case ym5 => (intro wz hz; go_simp; first | done | with_reducible rfl)
      try simp only [Act.put, List.setIfInBounds_toArray, List.set_cons_zero, List.set_cons_succ]
      refine wpAnyH_done (by kernel_rfl) ?_ _
      refine NoPanic.normal ?_
      have FIN : Hid (extPost F (.pointer ka) N c 0 n old fresh path w (.returned (okI (decide (E = old)))) w6) := (show extPost F (.pointer ka) N c 0 n old fresh path w (.returned (okI (decide (E = old)))) w6 from by
        refine ⟨Fi, by rw [EXR.out.1], ?_, fun j hj => by rcases h2 j hj with h | h; exact Or.inl h; exact Or.inr (by omega), (Fr.of_below F S2.out).trans (h3.trans (Fr.of_below F b6) (fun j _ h => h)) (fun j _ h => h)⟩
        rw [EXR.out.2.1, EXR.out.2.2]
        exact h1.below b6 (Nat.le_refl _))
      generalize okI (decide (E = old)) = vv at FIN
      clear h1 h2 h3 nF9 nF10 g9 g10 b6 hHeld
      go_wp2
      go_ret
      exact FIN.out
    have EXR : Hid (extR m n old fresh path = (decide ((gTell (gI m n) old path).1 = old) && decide ((gTell (gI m n) old path).2 = fresh)) ∧ extN N m n old path = gTellN N (gI m n) old path ∧ extC m n path = gCnt (gUps (gI m n) (gRest (gI m n) path))) := (show _ ∧ _ ∧ _ from ⟨by unfold extR; rw [if_neg (by rw [EX.out]; simp), if_neg c4, if_neg c5], by unfold extN; rw [if_neg (by rw [EX.out]; simp), if_neg (by omega)], by unfold extC; rw [if_neg (by rw [EX.out]; simp), if_neg (by omega)]⟩)
    obtain ⟨Y, hY⟩ : ∃ Y, Y = gI m n := ⟨_, rfl⟩
    have hYl : Y.length ≤ 63 := by rw [hY]; exact gI_len m n hn.2
    have hpl2 : path.length = Y.length + if gIn Y = true then 1 else 0 := by
      have h := EY.out
      unfold gSteps at h
      rw [← hY] at h
      split at h
      · rename_i h0; rw [if_pos h0]; omega
      · rename_i h0; rw [if_neg h0]; omega
    have hts : isSum (gTell Y old path).1 ∧ isSum (gTell Y old path).2 := by
      rw [gTell_is]
      have hs : isSum (gSeed Y old path) := by
        unfold gSeed
        split
        · rename_i h0
          rw [if_pos h0] at hpl2
          rw [List.getD_eq_getElem?_getD, List.getElem?_eq_getElem (by omega)]
          exact HP.out.1 _ (List.getElem_mem _)
        · exact HO.out
      exact gUps_sum _ _ hs hs
    have HTS : Hid (isSum (gTell Y old path).1 ∧ isSum (gTell Y old path).2) := (show _ ∧ _ from hts)
    have XW := gway_any m n hm hn w2.drew
    rw [← hY] at XW
    have HXW : Hid (Calls Tryd.prog 21 #[.int .i64 m, .int .i64 n] w2.drew fun e w' => ∃ v, e = .returned v ∧ newSteps w' w2.drew.heap.size v Y ∧ Below w2.drew.heap.size w2.drew w') := (show Calls _ _ _ _ _ from XW)
    rw [← hY] at EXR
    have EXR2 : Hid (extR m n old fresh path = (decide ((gTell Y old path).1 = old) && decide ((gTell Y old path).2 = fresh)) ∧ extN N m n old path = gTellN N Y old path ∧ extC m n path = gCnt (gUps Y (gRest Y path))) := (show _ ∧ _ ∧ _ from EXR.out)
    have HYL : Hid (Y.length ≤ 63 ∧ path.length = Y.length + if gIn Y = true then 1 else 0) := (show _ ∧ _ from ⟨hYl, hpl2⟩)
    clear ROOT XW hY hYl hpl2 hts EXR
    go_upto_region 9 with fail
    refine wp_region_noPanic ?_
    refine wp_region_held_drew (S := fun w' => w'.rowIs w.heap.size 29 32 (arrV old) ∧ w'.rowIs (w.heap.size + 1) 29 32 (arrV fresh)) (by kernel_rfl) ⟨R9b.out, R10b.out⟩ (fun hHeld => ?_)
    refine take_op (i := 0) (v := ?vt0) rfl (by kernel_rfl) (by kernel_rfl) (by kernel_rfl) (fun _ _ _ h => h) rfl hHeld ?yt0 ?rt0
    case yt0 => (intro wz hz; go_simp; first | done | with_reducible rfl)
    try simp only [Act.put, List.setIfInBounds_toArray, List.set_cons_zero, List.set_cons_succ]
    refine take_op (i := 1) (v := ?vt1) rfl (by kernel_rfl) (by kernel_rfl) (by kernel_rfl) (fun _ _ _ h => h) rfl hHeld ?yt1 ?rt1
    case yt1 => (intro wz hz; go_simp; first | done | with_reducible rfl)
    try simp only [Act.put, List.setIfInBounds_toArray, List.set_cons_zero, List.set_cons_succ]
    refine take_op (i := 2) (v := ?vt2) rfl (by kernel_rfl) (by kernel_rfl) (by kernel_rfl) (fun _ _ _ h => h) rfl hHeld ?yt2 ?rt2
    case yt2 => (intro wz hz; go_simp; first | done | with_reducible rfl)
    try simp only [Act.put, List.setIfInBounds_toArray, List.set_cons_zero, List.set_cons_succ]
    refine take_op (i := 3) (v := ?vt3) rfl (by kernel_rfl) (by kernel_rfl) (by kernel_rfl) (fun _ _ _ h => h) rfl hHeld ?yt3 ?rt3
    case yt3 => (intro wz hz; go_simp; first | done | with_reducible rfl)
    try simp only [Act.put, List.setIfInBounds_toArray, List.set_cons_zero, List.set_cons_succ]
    refine take_op (i := 6) (v := ?vt6) rfl (by kernel_rfl) (by kernel_rfl) (by kernel_rfl) (fun _ _ _ h => h) rfl hHeld ?yt6 ?rt6
    case yt6 => (intro wz hz; go_simp; first | done | with_reducible rfl)
    try simp only [Act.put, List.setIfInBounds_toArray, List.set_cons_zero, List.set_cons_succ]
    refine take_load (i := 5) rfl (by kernel_rfl) (by kernel_rfl) (by kernel_rfl) 29 _ rfl w.heap.size 0 32 (arrV old) rfl _ Tryd.underlying29 rfl (by kernel_rfl) (fun _ _ _ h => h) rfl hHeld (fun wz hz j hj => by rw [Nat.zero_add]; exact World.rowIs.cell hz.1 hj) ?_
    try simp only [Act.put, List.setIfInBounds_toArray, List.set_cons_zero, List.set_cons_succ]
    refine take_one (i := 4) rfl (by kernel_rfl) rfl (fun K hK => ?_)
    go_simp
    refine Calls.mono HXW.out ?_
    rintro e w3 ⟨wv, rfl, hwv, b3⟩
    have b23 : Below w2.heap.size w2 w3 := ((Below.refl _ _).drew).trans b3
    have z2 := Z2.out
    have g9 := b23.row R9b.out (by omega)
    have g10 := b23.row R10b.out (by omega)
    refine hK.out _ _ ⟨g9, g10⟩ (fun hHeld => ?_)
    clear hK K
    try simp only [Act.put, List.setIfInBounds_toArray, List.set_cons_zero, List.set_cons_succ]
    have b13 : Below w1.heap.size w1 w3 := B2.out.trans (b23.mono B2.out.size)
    have zz1 := Z1.out
    have XT := tell_k F (.pointer ka) N c Y w2.drew.heap.size wv old path (.slice pa path.length pc) w3 HYL.out.1 (K2.out.below b23 (Nat.le_refl _)) hwv (fun j hj h => by have h1 := (ownsRow_block hwv j hj).1; have h2 := HFL.out j h; have h3 : w2.drew.heap.size = w2.heap.size := rfl; omega) HO.out (HP.out.below b13 (Nat.le_refl _)) HPF.out HYL.out.2 (T2.out.below b23 T2.out.1) HF0.out (by have := HN.out; omega) (by have := HC.out; omega)
    unfold sumV at XT
    refine take_one (i := 7) rfl (by kernel_rfl) rfl (fun K hK => ?_)
    go_simp
    refine Calls.mono XT ?_
    rintro e w4 ⟨Fi, rfl, h1, h2, h3⟩
    clear XT
    have z3 := b23.size
    have nF9 : ¬ F w.heap.size := fun h => by have := HFL.out _ h; omega
    have nF10 : ¬ F (w.heap.size + 1) := fun h => by have := HFL.out _ h; omega
    have y9 := World.rowIs.of_block g9 (h3.block _ (by omega) nF9)
    have y10 := World.rowIs.of_block g10 (h3.block _ (by omega) nF10)
    refine hK.out _ _ ⟨y9, y10⟩ (fun hHeld => ?_)
    clear hK K
    try simp only [Act.put, List.setIfInBounds_toArray, List.set_cons_zero, List.set_cons_succ]
    refine take_op (i := 8) (v := ?vt8) rfl (by kernel_rfl) (by kernel_rfl) (by kernel_rfl) (fun _ _ _ h => h) rfl hHeld ?yt8 ?rt8
    case yt8 => (intro wz hz; go_simp; first | done | with_reducible rfl)
    try simp only [Act.put, List.setIfInBounds_toArray, List.set_cons_zero, List.set_cons_succ]
    refine take_op (i := 9) (v := ?vt9) rfl (by kernel_rfl) (by kernel_rfl) (by kernel_rfl) (fun _ _ _ h => h) rfl hHeld ?yt9 ?rt9
    case yt9 => (intro wz hz; go_simp; first | done | with_reducible rfl)
    try simp only [Act.put, List.setIfInBounds_toArray, List.set_cons_zero, List.set_cons_succ]
    have XU := unless_any _ _ old fresh w.heap.size (w.heap.size + 1) w4 HTS.out.1 HTS.out.2 HO.out HF.out y9 y10
    refine take_one (i := 10) rfl (by kernel_rfl) rfl (fun K hK => ?_)
    go_simp
    refine Calls.mono XU ?_
    rintro e w6 ⟨rfl, b6⟩
    clear XU
    refine hK.out _ _ ⟨b6.row y9 (gRow_lt y9), b6.row y10 (gRow_lt y10)⟩ (fun hHeld => ?_)
    clear hK K
    try simp only [Act.put, List.setIfInBounds_toArray, List.set_cons_zero, List.set_cons_succ]
    refine take_op (i := 11) (v := ?vt11) rfl (by kernel_rfl) (by kernel_rfl) (by kernel_rfl) (fun _ _ _ h => h) rfl hHeld ?yt11 ?rt11
    case yt11 => (intro wz hz; go_simp; first | done | with_reducible rfl)
    try simp only [Act.put, List.setIfInBounds_toArray, List.set_cons_zero, List.set_cons_succ]
    refine wpAnyH_done (by kernel_rfl) ?_ _
    refine NoPanic.normal ?_
    have FIN : Hid (extPost F (.pointer ka) N c m n old fresh path w (.returned (okI (decide ((gTell Y old path).1 = old) && decide ((gTell Y old path).2 = fresh)))) w6) := (show extPost F (.pointer ka) N c m n old fresh path w (.returned (okI (decide ((gTell Y old path).1 = old) && decide ((gTell Y old path).2 = fresh)))) w6 from by
      have b03 : Below w.heap.size w w3 := S2.out.trans (b23.mono S2.out.size)
      refine ⟨Fi, by rw [EXR2.out.1], ?_, fun j hj => by rcases h2 j hj with h | h; exact Or.inl h; exact Or.inr (by have := b03.size; omega), (Fr.of_below F b03).trans (h3.trans (Fr.of_below F b6) (fun j _ h => h)) (fun j _ h => h)⟩
      rw [EXR2.out.2.1, EXR2.out.2.2]
      exact h1.below b6 (Nat.le_refl _))
    generalize okI (decide ((gTell Y old path).1 = old) && decide ((gTell Y old path).2 = fresh)) = vv at FIN
    clear h1 h2 h3 nF9 nF10 y9 y10 g9 g10 b6 hHeld
    go_wp2
    go_ret
    exact FIN.out
  · have EX : Hid (extNo m n path.length = true) := (show extNo m n path.length = true from by unfold extNo; simp [c3])
    have c3' : ((path.length : Int) == gSteps m n) = false := by simp [c3]
    go_wp2
    go_ret
    obtain ⟨Fi, f1, f2, f3, f4⟩ := NONE.out w2 B2.out EX.out
    exact ⟨Fi, by rw [← f1]; rfl, f2, f3, f4⟩
end Go.Proofs.YthpnenblmkdmcaaDoor

/- What a path shows, and what it binds. Plain mathematics. -/
namespace Go.Proofs.YthpnenblmkdmcaaDoor
set_option linter.unusedSimpArgs false
set_option linter.unusedVariables false
open Go.RowKit Go.Deep

theorem take_half {L : List (List Int)} {m : Nat} (h2L : 2 ≤ L.length) (h1 : halfN L.length < m) (h2 : m ≤ L.length) : rootS (L.take m) = nodeS [rootS (L.take (halfN L.length)), rootS ((L.drop (halfN L.length)).take (m - halfN L.length))] := by
  have hh := halfN_is h2L
  have hl : (L.take m).length = m := by rw [List.length_take]; omega
  have hm : halfN (L.take m).length = halfN L.length := by
    have hp := halfN_pow h2L
    rw [hl, hp]
    exact halfN_of (k := Nat.log2 (L.length - 1)) (by rw [← hp]; omega) (by rw [← hp]; omega)
  rw [rootS_more (L := L.take m) (by omega), hm, List.take_take, List.drop_take, Nat.min_eq_left (by omega)]
/-- up the way, from what is kept. -/
def gUpL : List (Nat × Bool) → List (List Int) → List Int × List Int → List Int × List Int
  | [], _, s => s
  | x :: r, L, s => gUp (gUpL r (gKept x L) s) (x.2, rootS (gOther x L))
theorem gUps_path : ∀ (w : List (Nat × Bool)) (L : List (List Int)) (s : List Int × List Int), (gUps w ((gDown w L).reverse.map rootS)).foldl gUp s = gUpL w L s
  | [], L, s => rfl
  | x :: r, L, s => by
    rw [gDown, List.reverse_cons, List.map_append, List.map_singleton, gUps_snoc (by rw [List.length_map, List.length_reverse, gDown_len]), List.foldl_append, gUps_path r (gKept x L) s]
    rfl
theorem gUpL_root : ∀ (k : Nat) (L : List (List Int)) (m : Nat), L.length ≤ k → 1 ≤ m → m ≤ L.length → gUpL (gL m L.length) L (rootS (gKeptF (gL m L.length) L), rootS (gKeptF (gL m L.length) L)) = (rootS (L.take m), rootS L)
  | 0, L, m, h, h1, h2 => by omega
  | k + 1, L, m, h, h1, h2 => by
    by_cases e : m < L.length
    · have h2L : 2 ≤ L.length := by omega
      have hh := halfN_is h2L
      have ht := half_take h2L
      by_cases hl : m ≤ halfN L.length
      · rw [gL_right h1 e hl, gKeptF_cons, gUpL]
        have eK : gKept (halfN L.length, true) L = L.take (halfN L.length) := by unfold gKept; rw [if_pos rfl]
        have eO : gOther (halfN L.length, true) L = L.drop (halfN L.length) := by unfold gOther; rw [if_pos rfl]
        rw [eK, eO]
        have ih := gUpL_root k (L.take (halfN L.length)) m (by omega) h1 (by omega)
        rw [ht.1] at ih
        rw [ih, rootS_more h2L]
        unfold gUp
        rw [if_pos rfl, List.take_take, Nat.min_eq_left hl]
      · rw [gL_left h1 e hl, gKeptF_cons, gUpL]
        have eK : gKept (halfN L.length, false) L = L.drop (halfN L.length) := by unfold gKept; rw [if_neg (by simp)]
        have eO : gOther (halfN L.length, false) L = L.take (halfN L.length) := by unfold gOther; rw [if_neg (by simp)]
        rw [eK, eO]
        have ih := gUpL_root k (L.drop (halfN L.length)) (m - halfN L.length) (by omega) (by omega) (by omega)
        rw [ht.2.1] at ih
        rw [ih, take_half h2L (by omega) h2, rootS_more h2L]
        unfold gUp
        rw [if_neg (by simp)]
    · obtain rfl : m = L.length := by omega
      rw [gL_end (Nat.le_refl _), List.take_length]; rfl
theorem gKept_first : ∀ (k : Nat) (L : List (List Int)) (m : Nat), L.length ≤ k → 1 ≤ m → m ≤ L.length → gIn (gL m L.length) = false → gKeptF (gL m L.length) L = L.take m
  | 0, L, m, h, h1, h2, _ => by omega
  | k + 1, L, m, h, h1, h2, hi => by
    by_cases e : m < L.length
    · have h2L : 2 ≤ L.length := by omega
      have hh := halfN_is h2L
      have ht := half_take h2L
      by_cases hl : m ≤ halfN L.length
      · rw [gL_right h1 e hl] at hi ⊢
        rw [gIn_cons] at hi
        have hi2 : gIn (gL m (halfN L.length)) = false := by simpa using hi
        have eK : gKept (halfN L.length, true) L = L.take (halfN L.length) := by unfold gKept; rw [if_pos rfl]
        rw [gKeptF_cons, eK]
        have ih := gKept_first k (L.take (halfN L.length)) m (by omega) h1 (by omega) (by rw [ht.1]; exact hi2)
        rw [ht.1] at ih
        rw [ih, List.take_take, Nat.min_eq_left hl]
      · rw [gL_left h1 e hl, gIn_cons] at hi
        simp at hi
    · obtain rfl : m = L.length := by omega
      rw [gL_end (Nat.le_refl _), List.take_length]; rfl
/-- what a list's own path leaves, and begins with. -/
theorem gRest_path (L : List (List Int)) (m : Nat) (h1 : 1 ≤ m) (h2 : m ≤ L.length) (old : List Int) :
    gRest (gL m L.length) (gPath L m) = (gDown (gL m L.length) L).reverse.map rootS ∧ gSeed (gL m L.length) old (gPath L m) = if gIn (gL m L.length) = true then rootS (gKeptF (gL m L.length) L) else old := by
  have hp : gPath L m = ((gDown (gL m L.length) L ++ if gIn (gL m L.length) = true then [gKeptF (gL m L.length) L] else []).reverse.map rootS) := by unfold gPath gShown; rw [gI_nat h1]
  unfold gRest gSeed
  cases hi : gIn (gL m L.length) with
  | true =>
    rw [hp, hi, if_pos rfl, if_pos rfl, if_pos rfl, if_pos rfl, List.reverse_append, List.reverse_singleton, List.singleton_append, List.map_cons]
    exact ⟨rfl, rfl⟩
  | false =>
    rw [hp, hi]
    simp
/-- P5.4. -/
theorem gTell_path (L : List (List Int)) (m : Nat) (h1 : 1 ≤ m) (h2 : m ≤ L.length) : gTell (gI m L.length) (rootS (L.take m)) (gPath L m) = (rootS (L.take m), rootS L) := by
  obtain ⟨e1, e2⟩ := gRest_path L m h1 h2 (rootS (L.take m))
  rw [gI_nat h1, gTell_is, e1, e2, gUps_path]
  have h := gUpL_root L.length L m (Nat.le_refl _) h1 h2
  cases hi : gIn (gL m L.length) with
  | true => rw [if_pos rfl]; exact h
  | false =>
    rw [if_neg (by simp)]
    rw [gKept_first L.length L m (Nat.le_refl _) h1 h2 hi] at h
    exact h
theorem extNo_path (L : List (List Int)) (m : Nat) (h2 : m ≤ L.length) : extNo m L.length (gPath L m).length = false := by
  unfold extNo
  rw [decide_eq_false (by omega), decide_eq_false (by omega), decide_eq_true (gPath_len L m)]; rfl
theorem ext_path (L : List (List Int)) (m : Nat) (h2 : m ≤ L.length) : extR m L.length (rootS (L.take m)) (rootS L) (gPath L m) = true := by
  unfold extR
  rw [if_neg (by rw [extNo_path L m h2]; simp)]
  by_cases h0 : L.length = 0
  · have hL : L = [] := List.eq_nil_of_length_eq_zero h0
    subst hL
    simp
  · rw [if_neg (by omega)]
    by_cases hm : m = 0
    · subst hm
      simp
    · rw [if_neg (by omega), gTell_path L m (by omega) h2]
      simp
theorem ext_other (L : List (List Int)) (m : Nat) (h1 : 1 ≤ m) (h2 : m ≤ L.length) (other : List Int) (ho : other ≠ rootS L) : extR m L.length (rootS (L.take m)) other (gPath L m) = false := by
  unfold extR
  rw [if_neg (by rw [extNo_path L m h2]; simp), if_neg (by omega), if_neg (by omega), gTell_path L m h1 h2]
  simp only
  rw [decide_eq_false (p := rootS L = other) (fun e => ho e.symm), Bool.and_false]
theorem addN_hasO {N : List Nt} {x y : Nt} (h : y ∈ N) : y ∈ addN N x := addN_has _ _ _ (Or.inl h)
theorem addN_hasN {N : List Nt} {x : Nt} : x ∈ addN N x := addN_has _ _ _ (Or.inr rfl)
theorem gUpN_right (y : List Nt × (List Int × List Int)) (x : List Int) : (gUpN y (true, x)).1 = addN y.1 (ntOf [y.2.2, x]) := rfl
theorem gUpN_left (y : List Nt × (List Int × List Int)) (x : List Int) : (gUpN y (false, x)).1 = addN (addN y.1 (ntOf [x, y.2.1])) (ntOf [x, y.2.2]) := rfl
theorem gUpN_snd2 (y : List Nt × (List Int × List Int)) (x : Bool × List Int) : (gUpN y x).2 = gUp y.2 x := rfl
/-- P5.5: what leads to a list's root. -/
theorem bind_grow (A B : Nt → Prop) (hAB : noClash A B) : ∀ (k : Nat) (L : List (List Int)) (m : Nat) (s : List Int) (rest : List (List Int)) (N M : List Nt), L.length ≤ k → 1 ≤ m → m ≤ L.length → (∀ x ∈ L, isSum x) → isSum s → (∀ x ∈ rest, isSum x) →
    rest.length = (gL m L.length).length → (∀ x ∈ rootN N L, A x) → (∀ x ∈ ((gUps (gL m L.length) rest).foldl gUpN (M, (s, s))).1, B x) → ((gUps (gL m L.length) rest).foldl gUp (s, s)).2 = rootS L →
    s = rootS (gKeptF (gL m L.length) L) ∧ rest = (gDown (gL m L.length) L).reverse.map rootS
  | 0, L, m, s, rest, N, M, h, h1, h2, hL, hs, hr, hlen, hA, hB, e => by omega
  | k + 1, L, m, s, rest, N, M, h, h1, h2, hL, hs, hr, hlen, hA, hB, e => by
    by_cases ee : m < L.length
    · have h2L : 2 ≤ L.length := by omega
      have hh := halfN_is h2L
      have ht := half_take h2L
      have sT : ∀ x ∈ L.take (halfN L.length), isSum x := fun x hx => hL x (List.mem_of_mem_take hx)
      have sD : ∀ x ∈ L.drop (halfN L.length), isSum x := fun x hx => hL x (List.mem_of_mem_drop hx)
      have hAr : A (ntOf [rootS (L.take (halfN L.length)), rootS (L.drop (halfN L.length))]) := hA _ (by rw [rootN_more N h2L]; exact addN_hasN)
      obtain ⟨q, y, rfl⟩ : ∃ q y, rest = q ++ [y] := by
        rcases List.eq_nil_or_concat rest with rfl | ⟨q, y, rfl⟩
        · by_cases hl : m ≤ halfN L.length
          · rw [gL_right h1 ee hl] at hlen; simp at hlen
          · rw [gL_left h1 ee hl] at hlen; simp at hlen
        · exact ⟨q, y, by simp⟩
      have hq : ∀ x ∈ q, isSum x := fun x hx => hr x (List.mem_append_left _ hx)
      have hy : isSum y := hr y (by simp)
      rw [List.length_append, List.length_singleton] at hlen
      by_cases hl : m ≤ halfN L.length
      · rw [gL_right h1 ee hl, List.length_cons] at hlen
        have eK : gKept (halfN L.length, true) L = L.take (halfN L.length) := by unfold gKept; rw [if_pos rfl]
        have eO : gOther (halfN L.length, true) L = L.drop (halfN L.length) := by unfold gOther; rw [if_pos rfl]
        rw [gL_right h1 ee hl, gUps_snoc (by omega), List.foldl_append, List.foldl_cons, List.foldl_nil] at e hB
        have hss := gUps_sum (gUps (gL m (halfN L.length)) q) (s, s) hs hs
        have hsn := gUpN_snd (gUps (gL m (halfN L.length)) q) M (s, s)
        obtain ⟨⟨o, f⟩, hof⟩ : ∃ p, (gUps (gL m (halfN L.length)) q).foldl gUp (s, s) = p := ⟨_, rfl⟩
        rw [hof] at e hss hsn
        unfold gUp at e
        rw [if_pos rfl, rootS_more h2L] at e
        simp only at e hss
        have hB1 : ∀ x ∈ ((gUps (gL m (halfN L.length)) q).foldl gUpN (M, (s, s))).1, B x := fun x hx => hB x (by show x ∈ (gUpN _ (true, y)).1; rw [gUpN_right]; exact addN_hasO hx)
        have hBr : B (ntOf [f, y]) := hB _ (by show ntOf [f, y] ∈ (gUpN _ (true, y)).1; rw [gUpN_right, hsn]; exact addN_hasN)
        obtain ⟨e1, e2⟩ := same_two hAB (rootS_sum sT) (rootS_sum sD) hss.2 hy hAr hBr e.symm
        have ih := bind_grow A B hAB k (L.take (halfN L.length)) m s q N M (by omega) h1 (by omega) sT hs hq (by rw [ht.1]; omega)
          (fun x hx => hA x (by rw [rootN_more N h2L]; exact addN_hasO (rootN_has hx))) (by rw [ht.1]; exact hB1) (by rw [ht.1, hof]; exact e1.symm)
        rw [ht.1] at ih
        rw [gL_right h1 ee hl, gKeptF_cons, gDown, eK, eO, List.reverse_cons, List.map_append, List.map_singleton]
        exact ⟨ih.1, by rw [← ih.2, e2]⟩
      · rw [gL_left h1 ee hl, List.length_cons] at hlen
        have eK : gKept (halfN L.length, false) L = L.drop (halfN L.length) := by unfold gKept; rw [if_neg (by simp)]
        have eO : gOther (halfN L.length, false) L = L.take (halfN L.length) := by unfold gOther; rw [if_neg (by simp)]
        rw [gL_left h1 ee hl, gUps_snoc (by omega), List.foldl_append, List.foldl_cons, List.foldl_nil] at e hB
        have hss := gUps_sum (gUps (gL (m - halfN L.length) (L.length - halfN L.length)) q) (s, s) hs hs
        have hsn := gUpN_snd (gUps (gL (m - halfN L.length) (L.length - halfN L.length)) q) M (s, s)
        obtain ⟨⟨o, f⟩, hof⟩ : ∃ p, (gUps (gL (m - halfN L.length) (L.length - halfN L.length)) q).foldl gUp (s, s) = p := ⟨_, rfl⟩
        rw [hof] at e hss hsn
        unfold gUp at e
        rw [if_neg (by simp), rootS_more h2L] at e
        simp only at e hss
        have hB1 : ∀ x ∈ ((gUps (gL (m - halfN L.length) (L.length - halfN L.length)) q).foldl gUpN (M, (s, s))).1, B x := fun x hx => hB x (by show x ∈ (gUpN _ (false, y)).1; rw [gUpN_left]; exact addN_hasO (addN_hasO hx))
        have hBr : B (ntOf [y, f]) := hB _ (by show ntOf [y, f] ∈ (gUpN _ (false, y)).1; rw [gUpN_left, hsn]; exact addN_hasN)
        obtain ⟨e1, e2⟩ := same_two hAB (rootS_sum sT) (rootS_sum sD) hy hss.2 hAr hBr e.symm
        have ih := bind_grow A B hAB k (L.drop (halfN L.length)) (m - halfN L.length) s q (rootN N (L.take (halfN L.length))) M (by omega) (by omega) (by omega) sD hs hq (by rw [ht.2.1]; omega)
          (fun x hx => hA x (by rw [rootN_more N h2L]; exact addN_hasO hx)) (by rw [ht.2.1]; exact hB1) (by rw [ht.2.1, hof]; exact e2.symm)
        rw [ht.2.1] at ih
        rw [gL_left h1 ee hl, gKeptF_cons, gDown, eK, eO, List.reverse_cons, List.map_append, List.map_singleton]
        exact ⟨ih.1, by rw [← ih.2, e1]⟩
    · obtain rfl : m = L.length := by omega
      rw [gL_end (Nat.le_refl _)] at hlen e ⊢
      have hr0 : rest = [] := List.eq_nil_of_length_eq_zero hlen
      subst hr0
      exact ⟨e, rfl⟩
/-- what is told to be old, with the list's root as fresh. -/
theorem bind_ext (L : List (List Int)) (m : Nat) (h2 : m ≤ L.length) (old : List Int) (path : List (List Int)) (hL : ∀ x ∈ L, isSum x) (ho : isSum old) (hp : ∀ x ∈ path, isSum x) (M : List Nt)
    (hAB : noClash (fun x => x ∈ rootN [] L) (fun x => x ∈ extN M m L.length old path)) (he : extR m L.length old (rootS L) path = true) : old = rootS (L.take m) := by
  unfold extR at he
  by_cases hn : extNo m L.length path.length = true
  · rw [if_pos hn] at he; cases he
  rw [if_neg hn] at he
  unfold extN at hAB
  rw [if_neg hn] at hAB
  by_cases h0 : (L.length : Int) = 0
  · rw [if_pos h0] at he
    have hL0 : L = [] := List.eq_nil_of_length_eq_zero (by omega)
    subst hL0
    simp at he
    rw [List.take_nil]; exact he.symm
  rw [if_neg h0] at he
  by_cases hm : (m : Int) = 0
  · rw [if_pos hm] at he
    obtain rfl : m = 0 := by omega
    simp at he
    rw [List.take_zero]; exact he.symm
  rw [if_neg hm] at he
  rw [if_neg (by omega), gI_nat (by omega)] at hAB
  rw [gI_nat (by omega), Bool.and_eq_true, decide_eq_true_iff, decide_eq_true_iff] at he
  obtain ⟨e1, e2⟩ := he
  have hlen : (path.length : Int) = gSteps m L.length := by
    unfold extNo at hn
    by_cases hh : (path.length : Int) = gSteps m L.length
    · exact hh
    · exact absurd (by simp [hh]) hn
  unfold gSteps at hlen
  rw [gI_nat (by omega)] at hlen
  unfold gTellN at hAB
  rw [gTell_is] at e1 e2
  have hrl : (gRest (gL m L.length) path).length = (gL m L.length).length := by
    unfold gRest
    split
    · rename_i hi; rw [if_pos hi] at hlen; rw [List.length_drop]; omega
    · rename_i hi; rw [if_neg hi] at hlen; omega
  have hrs : ∀ x ∈ gRest (gL m L.length) path, isSum x := fun x hx => by
    unfold gRest at hx
    split at hx
    · exact hp x (List.mem_of_mem_drop hx)
    · exact hp x hx
  have hss : isSum (gSeed (gL m L.length) old path) := by
    unfold gSeed
    split
    · rename_i hi
      rw [if_pos hi] at hlen
      rw [List.getD_eq_getElem?_getD, List.getElem?_eq_getElem (by omega)]
      exact hp _ (List.getElem_mem _)
    · exact ho
  obtain ⟨b1, b2⟩ := bind_grow _ _ hAB L.length L m _ _ [] M (Nat.le_refl _) (by omega) h2 hL hss hrs hrl (fun x hx => hx) (fun x hx => hx) e2
  have hroot := gUpL_root L.length L m (Nat.le_refl _) (by omega) h2
  rw [b2, gUps_path, b1, hroot] at e1
  exact e1.symm
end Go.Proofs.YthpnenblmkdmcaaDoor

/- The document's Node and Root. -/
namespace Go.Proofs.YthpnenblmkdmcaaDoor
set_option linter.unusedSimpArgs false
set_option linter.unusedVariables false
open Go.RowKit Go.Deep

theorem build_sl2 (a b : Value) (ha : a.oneCell' = true) (hb : b.oneCell' = true) (w : World) (x y : Option Addr) (m n c d : Nat) (ea : a = .slice x m c) (eb : b = .slice y n d) : (Instr.buildSlice 81 2 #[(0, a), (1, b)]).run Tryd.prog w = .ok (.slice (some ⟨w.heap.size, 0, none⟩) 2 2) (w.alloc (.cells #[a, b] 40)) := by
  subst ea eb
  show (_ : Result Value) = _
  kernel_rfl
theorem row_bytes {w : World} {b : Nat} {t : TypeId} {p : List Int} (h : w.rowIs b t 32 (arrV p)) (hp : isSum p) : isBytes w (.slice (some ⟨b, 0, none⟩) 32 32) p :=
  Or.inr ⟨b, 0, 32, by rw [hp.1], by rw [hp.1]; exact Nat.le_refl _, by unfold maxLen; omega, h.lt, fun i hi => by rw [Nat.zero_add, h.cell (by rw [hp.1] at hi; exact hi)]; rfl, hp.2⟩
set_option maxHeartbeats 2000000 in
set_option maxRecDepth 100000 in
theorem rnode_any (p q : List Int) (w : World) (hp : isSum p) (hq : isSum q) :
    Calls Tryd.prog 45 #[.agg (rowV 32 (arrV p)), .agg (rowV 32 (arrV q))] w fun e w' => e = .returned (sumV (nodeS [p, q])) ∧ Below w.heap.size w w' := by
  have hz32 := zero_s32
  obtain ⟨w1, hw1⟩ : ∃ w1, w1 = w.alloc (.cells (rowV 32 (arrV p)) 29) := ⟨_, rfl⟩
  have r1 : w1.rowIs w.heap.size 29 32 (arrV p) := by rw [hw1]; exact rowIs_box w _ _ _
  have b1 : Below w.heap.size w w1 := by rw [hw1]; exact (Below.refl _ _).alloc (Nat.le_refl _) _
  have s1 : w1.heap.size = w.heap.size + 1 := by rw [hw1]; simp
  obtain ⟨w2, hw2⟩ : ∃ w2, w2 = w1.alloc (.cells (rowV 32 (arrV q)) 29) := ⟨_, rfl⟩
  have r2 : w2.rowIs w1.heap.size 29 32 (arrV q) := by rw [hw2]; exact rowIs_box w1 _ _ _
  have b2 : Below w1.heap.size w1 w2 := by rw [hw2]; exact (Below.refl _ _).alloc (Nat.le_refl _) _
  have s2 : w2.heap.size = w.heap.size + 2 := by rw [hw2]; simp; omega
  obtain ⟨w3, hw3⟩ : ∃ w3, w3 = w2.alloc (.cells (rowV 32 (fun _ => .int .u8 0)) 29) := ⟨_, rfl⟩
  have r3 : w3.rowIs w2.heap.size 29 32 (fun _ => .int .u8 0) := by rw [hw3]; exact rowIs_box w2 _ _ _
  have b3 : Below w2.heap.size w2 w3 := by rw [hw3]; exact (Below.refl _ _).alloc (Nat.le_refl _) _
  have s3 : w3.heap.size = w.heap.size + 3 := by rw [hw3]; simp; omega
  rw [s1] at r2
  rw [s2] at r3
  have bw3 : Below w.heap.size w w3 := (b1.trans (b2.mono (by omega))).trans (b3.mono (by omega))
  have p3 : w3.rowIs w.heap.size 29 32 (arrV p) := b3.row (b2.row r1 (by omega)) (by omega)
  have q3 : w3.rowIs (w.heap.size + 1) 29 32 (arrV q) := b3.row r2 (by omega)
  obtain ⟨w4, hw4⟩ : ∃ w4, w4 = w3.drew.alloc (.cells #[.slice (some ⟨w.heap.size, 0, none⟩) 32 32, .slice (some ⟨w.heap.size + 1, 0, none⟩) 32 32] 40) := ⟨_, rfl⟩
  have b4 : Below w3.heap.size w3 w4 := by rw [hw4]; exact ((Below.refl w3.heap.size w3).drew).alloc (Nat.le_refl _) _
  have s4 : w3.heap.size < w4.heap.size := by rw [hw4]; simp
  have bs := build_sl2 (.slice (some ⟨w.heap.size, 0, none⟩) 32 32) (.slice (some ⟨w.heap.size + 1, 0, none⟩) 32 32) rfl rfl w3.drew _ _ _ _ _ _ rfl rfl
  rw [← hw4] at bs
  have hpp : isParts w4 (.slice (some ⟨w3.drew.heap.size, 0, none⟩) 2 2) 2 (fun i => [p, q].getD i []) := by
    have hr := rowIs_new w3.drew #[.slice (some ⟨w.heap.size, 0, none⟩) 32 32, .slice (some ⟨w.heap.size + 1, 0, none⟩) 32 32] 40 2 (fun i => if i = 0 then .slice (some ⟨w.heap.size, 0, none⟩) 32 32 else .slice (some ⟨w.heap.size + 1, 0, none⟩) 32 32) rfl (fun i hi => by
      have : i = 0 ∨ i = 1 := by omega
      rcases this with rfl | rfl <;> rfl)
    rw [← hw4] at hr
    refine Or.inr ⟨w3.drew.heap.size, 0, 2, fun i => if i = 0 then .slice (some ⟨w.heap.size, 0, none⟩) 32 32 else .slice (some ⟨w.heap.size + 1, 0, none⟩) 32 32, rfl, s4, by unfold maxLen; omega, fun i hi => ?_⟩
    rw [Nat.zero_add]
    refine ⟨hr.cell hi, ?_⟩
    have : i = 0 ∨ i = 1 := by omega
    rcases this with rfl | rfl
    · exact Or.inl (row_bytes (b4.row p3 (by omega)) hp)
    · exact Or.inl (row_bytes (b4.row q3 (by omega)) hq)
  have X := rof_any 2 2 _ _ w4 hpp.any (nodeS_light [p, q] (by simp) (fun x hx => by
    rcases List.mem_cons.1 hx with rfl | hx
    · exact hp
    · rw [List.mem_singleton.1 hx]; exact hq))
  have X' : Calls Tryd.prog 29 #[.int .i64 2, .slice (some ⟨w3.drew.heap.size, 0, none⟩) 2 2] w4 fun e w' => e = .returned (.agg (rowV 32 (arrV (nodeS [p, q])))) ∧ Below w4.heap.size w4 w' := X
  clear X hw4
  unfold sumV
  go_enter Tryd.func45, Tryd.ntmps45
  go_upto_region 1 with fail
  rw [← hw1]
  rw [← hw2]
  rw [← hw3]
  have S : Hid (w1.heap.size = w.heap.size + 1 ∧ w2.heap.size = w.heap.size + 2 ∧ w3.heap.size = w.heap.size + 3 ∧ w3.heap.size < w4.heap.size) := (show w1.heap.size = w.heap.size + 1 ∧ w2.heap.size = w.heap.size + 2 ∧ w3.heap.size = w.heap.size + 3 ∧ w3.heap.size < w4.heap.size from ⟨s1, s2, s3, s4⟩)
  have BW : Hid _ := bw3
  have B4 : Hid _ := b4
  have R3 : Hid _ := r3
  clear hw1 hw2 hw3 hz32 s1 s2 s3 s4 bw3 b4 r3 r1 r2 b1 b2 b3 p3 q3 hpp
  refine wp_region_noPanic ?_
  refine wp_region_held_drew (S := fun w' => True) (by kernel_rfl) trivial (fun hHeld => ?_)
  refine take_op (i := 0) (v := ?va0) rfl (by kernel_rfl) (by kernel_rfl) (by kernel_rfl) (fun _ _ _ h => h) rfl hHeld ?ya0 ?ra0
  case ya0 => (intro wz hz; go_simp; first | done | with_reducible rfl)
  try simp only [Act.put, List.setIfInBounds_toArray, List.set_cons_zero, List.set_cons_succ]
  refine take_op (i := 1) (v := ?va1) rfl (by kernel_rfl) (by kernel_rfl) (by kernel_rfl) (fun _ _ _ h => h) rfl hHeld ?ya1 ?ra1
  case ya1 => (intro wz hz; go_simp; first | done | with_reducible rfl)
  try simp only [Act.put, List.setIfInBounds_toArray, List.set_cons_zero, List.set_cons_succ]
  refine take_one (i := 2) rfl (by kernel_rfl) rfl (fun K hK => ?_)
  refine wp_of_run (exec_bslice2' 81 2 0 1 (.tmp 5) (.tmp 6) _ _ rfl rfl rfl bs) ?_
  refine hK.out _ _ trivial (fun hHeld => ?_)
  clear hK K bs
  try simp only [Act.put, List.setIfInBounds_toArray, List.set_cons_zero, List.set_cons_succ]
  refine take_one (i := 3) rfl (by kernel_rfl) rfl (fun K hK => ?_)
  go_simp
  refine Calls.mono X' ?_
  rintro e w5 ⟨rfl, b5⟩
  clear X'
  have hs := S.out
  have s5 := b5.size
  have r5 : w5.rowIs (w.heap.size + 2) 29 32 (fun _ => .int .u8 0) := b5.row (B4.out.row R3.out (by omega)) (by omega)
  have bw5 : Below w.heap.size w w5 := (BW.out.trans (B4.out.mono (by omega))).trans (b5.mono (by omega))
  refine hK.out _ _ trivial (fun hHeld => ?_)
  clear hK K
  try simp only [Act.put, List.setIfInBounds_toArray, List.set_cons_zero, List.set_cons_succ]
  refine take_one (i := 4) rfl (by kernel_rfl) rfl (fun K hK => ?_)
  have hst := stow32T_run w5 (w.heap.size + 2) (nodeS [p, q]) r5
  have h9 := stow32T_row w5 (w.heap.size + 2) (nodeS [p, q]) r5
  have r9 := h9.1
  have hz9 := h9.2.1
  have hb9 := h9.2.2
  clear h9
  unfold Oper.wp execOp
  simp only [Instr.storeAt, Instr.sureAddr, Sem.run_bind, Sem.run_pure, Result.andThen_ok]
  simp [Act.eval, hst, Oper.upon]
  clear hst
  generalize w5.setCells ((w.heap.size + 2)) 0 (rowV 32 (arrV ((nodeS [p, q])))).toList = w9 at r9 hz9 hb9 ⊢
  refine hK.out _ _ trivial (fun hHeld => ?_)
  clear hK K hHeld
  try simp only [Act.put, List.setIfInBounds_toArray, List.set_cons_zero, List.set_cons_succ]
  refine wpAnyH_done (by kernel_rfl) ?_ _
  refine NoPanic.normal ?_
  have RES : Hid (Below w.heap.size w w9) := (show Below w.heap.size w w9 from bw5.trans (hb9.below' (by omega) bw5.size))
  clear bw5 b5 hb9 r5 hs
  go_wp2
  exact bodyPost_ret (results_cell_seg rfl _ _ (w.heap.size + 2) 29 32 (arrV (nodeS [p, q])) _ rfl Tryd.underlying29 rfl hi32' r9) rfl ⟨rfl, RES.out⟩
set_option maxHeartbeats 2000000 in
set_option maxRecDepth 100000 in
theorem rroot_small (L : List (List Int)) (v : Value) (w : World) (hn : L.length ≤ 1) (h : sumsAt w v L) :
    Calls Tryd.prog 39 #[v] w fun e w' => e = .returned (sumV (rootS L)) ∧ Below w.heap.size w w' := by
  have hz32 := zero_s32
  obtain ⟨w1, hw1⟩ : ∃ w1, w1 = w.alloc (.cells (rowV 32 (fun _ => .int .u8 0)) 29) := ⟨_, rfl⟩
  have r1 : w1.rowIs w.heap.size 29 32 (fun _ => .int .u8 0) := by rw [hw1]; exact rowIs_box w _ _ _
  have b1 : Below w.heap.size w w1 := by rw [hw1]; exact (Below.refl _ _).alloc (Nat.le_refl _) _
  have s1 : w1.heap.size = w.heap.size + 1 := by rw [hw1]; simp
  by_cases h0 : L.length = 0
  · have X := rof_any 2 0 (.slice none 0 0) (fun i => ([] : List (List Int)).getD i []) w1 (Or.inl (Or.inl ⟨rfl, rfl⟩)) (nodeS_light [] (by simp) (fun x hx => by simp at hx))
    have ES := rootS_none h0
    have X' : Calls Tryd.prog 29 #[.int .i64 2, .slice none 0 0] w1 fun e w' => e = .returned (.agg (rowV 32 (arrV (rootS L)))) ∧ Below w1.heap.size w1 w' := by rw [ES]; exact X
    unfold sumV
    clear X ES
    obtain ⟨_, a, cap, rfl, _, _, _⟩ := h
    rw [h0]
    go_enter Tryd.func39, Tryd.ntmps39
    go_upto_region 1 with fail
    rw [← hw1]
    have S1 : Hid _ := s1
    clear hw1 hz32 s1
    go_wp2_with fail
    refine X'.mono ?_
    rintro e wx ⟨rfl, bx⟩
    clear X'
    have s1 := S1.out
    have sx := bx.size
    have rx := bx.row r1 (by omega)
    have BX : Hid _ := b1.trans (bx.mono (by omega))
    clear bx s1 r1
    go_wp2_with (first | (refine wpList_store_row rfl 29 _ _ rfl rfl w.heap.size 0 32 (arrV (rootS L)) rfl rfl hi32' (fun _ _ => rfl) _ _ _ rx (by omega) ?_; intro w6 r6 hz6 hb6))
    exact bodyPost_ret (results_cell_seg rfl _ _ w.heap.size 29 32 (arrV (rootS L)) _ rfl Tryd.underlying29 rfl hi32' (r6.congr fun i hi => by rw [if_pos (by omega), Nat.sub_zero])) rfl ⟨rfl, BX.out.trans (hb6.below' (Nat.le_refl _) (Below.size BX.out))⟩
  · have h1 : L.length = 1 := by omega
    have ES : rootS L = L[0] := by rw [rootS_one h1, List.getD_eq_getElem?_getD, List.getElem?_eq_getElem (by omega)]; rfl
    obtain ⟨hs, a, cap, rfl, hc1, hm1, hcl⟩ := h
    obtain ⟨g, o, rfl, hg, hcell⟩ := hcl (by omega)
    have ld : ∀ j, j < 32 → w1.cell? ⟨g, o + j, none⟩ = some (arrV (rootS L) j) := fun j hj => by
      have := hcell 0 (by omega) j hj
      rw [show o + 0 * 32 + j = o + j by omega] at this
      rw [b1.cell (p := ⟨g, o + j, none⟩) hg, this, ES]
    have LD : Hid _ := ld
    clear ld hcell hcl hs ES
    rw [h1]
    unfold sumV
    go_enter Tryd.func39, Tryd.ntmps39
    go_upto_region 1 with fail
    rw [← hw1]
    have S1 : Hid _ := s1
    clear hw1 hz32 s1
    go_wp2_with (first | (refine wpList_load_seg rfl 29 _ rfl g o 32 (arrV (rootS L)) rfl _ Tryd.underlying29 rfl hi32' LD.out ?_) | (refine wpList_store_row rfl 29 _ _ rfl rfl w.heap.size 0 32 (arrV (rootS L)) rfl rfl hi32' (fun _ _ => rfl) _ _ _ r1 (by omega) ?_; intro w6 r6 hz6 hb6))
    have s1 := S1.out
    exact bodyPost_ret (results_cell_seg rfl _ _ w.heap.size 29 32 (arrV (rootS L)) _ rfl Tryd.underlying29 rfl hi32' (r6.congr fun i hi => by rw [if_pos (by omega), Nat.sub_zero])) rfl ⟨rfl, b1.trans (hb6.below' (Nat.le_refl _) (by omega))⟩
set_option maxHeartbeats 2000000 in
set_option maxRecDepth 100000 in
theorem rroot_any : ∀ (n : Nat) (L : List (List Int)) (v : Value) (w : World), L.length ≤ n → n ≤ 1000 → sumsAt w v L →
    Calls Tryd.prog 39 #[v] w fun e w' => e = .returned (sumV (rootS L)) ∧ Below w.heap.size w w' := by
  intro n
  induction n with
  | zero =>
    intro L v w hn h1000 h
    exact rroot_small L v w (by omega) h
  | succ n ih =>
  intro L v w hn h1000 h
  by_cases hsm : L.length ≤ 1
  · exact rroot_small L v w hsm h
  have h2 : 2 ≤ L.length := by omega
  have hh := half_take h2
  have hz32 := zero_s32
  obtain ⟨w1, hw1⟩ : ∃ w1, w1 = w.alloc (.cells (rowV 32 (fun _ => .int .u8 0)) 29) := ⟨_, rfl⟩
  have r1 : w1.rowIs w.heap.size 29 32 (fun _ => .int .u8 0) := by rw [hw1]; exact rowIs_box w _ _ _
  have b1 : Below w.heap.size w w1 := by rw [hw1]; exact (Below.refl _ _).alloc (Nat.le_refl _) _
  have s1 : w1.heap.size = w.heap.size + 1 := by rw [hw1]; simp
  have X1 := rhalf_any (L.length : Int) (by omega) (by omega) w1
  obtain ⟨ua, ra, sa, oa, xa, ya, rfl⟩ := h.to' (halfN L.length) (by omega)
  obtain ⟨ub, rb, sb, ob, xb, yb, rfl⟩ := h.from' (halfN L.length) (by omega)
  obtain ⟨TL, hTL⟩ : ∃ TL, TL = L.take (halfN L.length) := ⟨_, rfl⟩
  obtain ⟨DL, hDL⟩ : ∃ DL, DL = L.drop (halfN L.length) := ⟨_, rfl⟩
  have ES : rootS L = nodeS [rootS TL, rootS DL] := by rw [hTL, hDL]; exact rootS_more h2
  have hsT : isSum (rootS TL) := rootS_sum (by rw [hTL]; exact sa.1)
  have hsD : isSum (rootS DL) := rootS_sum (by rw [hDL]; exact sb.1)
  have lT : TL.length = halfN L.length := by rw [hTL]; exact hh.1
  have lD : DL.length = L.length - halfN L.length := by rw [hDL]; exact hh.2.1
  rw [← hTL] at sa
  rw [← hDL] at sb
  have XA := ih TL _ w1.drew (by omega) (by omega) ((sa.below b1 (Nat.le_refl _)).below ((Below.refl _ _).drew) (Nat.le_refl _))
  unfold sumV at XA ⊢
  have HES : Hid _ := ES
  have hsl : ∃ a cap, v = .slice a L.length cap := by
    obtain ⟨_, a, cap, e, _⟩ := h; exact ⟨a, cap, e⟩
  obtain ⟨va, vc, rfl⟩ := hsl
  have q0 : (2 : Int) ≤ (L.length : Int) := by omega
  have q1 : (L.length : Int) ≤ 1001 := by omega
  have n0 : ¬ (L.length : Int) = 0 := by omega
  have n1 : ¬ (L.length : Int) = 1 := by omega
  have hI : halfI (L.length : Int) = (halfN L.length : Int) := by unfold halfI; rw [Int.toNat_natCast]
  rw [hI] at X1
  have hh2 := hh.2.2
  clear hI ES hTL hDL hh hsm
  go_enter Tryd.func39, Tryd.ntmps39
  go_upto_region 1 with fail
  rw [← hw1]
  have S1 : Hid _ := s1
  have R1 : Hid _ := r1
  have B1 : Hid _ := b1
  have SB : Hid _ := sb
  clear hw1 hz32 s1 r1 b1 sa sb h oa ob
  go_wp2_with fail
  refine X1.mono ?_
  rintro e w' ⟨rfl, hw⟩
  obtain rfl := hw.symm
  clear X1 hw
  go_upto_region 6 with fail
  refine wp_region_noPanic ?_
  refine wp_region_held_drew (S := fun w' => True) (by kernel_rfl) trivial (fun hHeld => ?_)
  refine take_op (i := 0) (v := ?va0) rfl (by kernel_rfl) (by kernel_rfl) (by kernel_rfl) (fun _ _ _ h => h) rfl hHeld ?ya0 ?ra0
  case ya0 => (intro wz hz; go_simp; first | done | with_reducible rfl)
  try simp only [Act.put, List.setIfInBounds_toArray, List.set_cons_zero, List.set_cons_succ]
  refine take_op (i := 1) (v := ?va1) rfl (by kernel_rfl) (by kernel_rfl) (by kernel_rfl) (fun _ _ _ h => h) rfl hHeld ?ya1 ?ra1
  case ya1 => (intro wz hz; go_simp; first | done | with_reducible rfl)
  try simp only [Act.put, List.setIfInBounds_toArray, List.set_cons_zero, List.set_cons_succ]
  refine take_op (i := 2) (v := ?va2) rfl (by kernel_rfl) (by kernel_rfl) (by kernel_rfl) (fun _ _ _ h => h) rfl hHeld ?ya2 ?ra2
  case ya2 => (intro wz hz; have hcz := ra wz; go_simp; first | done | with_reducible rfl)
  try simp only [Act.put, List.setIfInBounds_toArray, List.set_cons_zero, List.set_cons_succ]
  refine take_op (i := 4) (v := ?va4) rfl (by kernel_rfl) (by kernel_rfl) (by kernel_rfl) (fun _ _ _ h => h) rfl hHeld ?ya4 ?ra4
  case ya4 => (intro wz hz; go_simp; first | done | with_reducible rfl)
  try simp only [Act.put, List.setIfInBounds_toArray, List.set_cons_zero, List.set_cons_succ]
  refine take_op (i := 5) (v := ?va5) rfl (by kernel_rfl) (by kernel_rfl) (by kernel_rfl) (fun _ _ _ h => h) rfl hHeld ?ya5 ?ra5
  case ya5 => (intro wz hz; go_simp; first | done | with_reducible rfl)
  try simp only [Act.put, List.setIfInBounds_toArray, List.set_cons_zero, List.set_cons_succ]
  refine take_op (i := 6) (v := ?va6) rfl (by kernel_rfl) (by kernel_rfl) (by kernel_rfl) (fun _ _ _ h => h) rfl hHeld ?ya6 ?ra6
  case ya6 => (intro wz hz; have hcz := rb wz; go_simp; first | done | with_reducible rfl)
  try simp only [Act.put, List.setIfInBounds_toArray, List.set_cons_zero, List.set_cons_succ]
  refine take_one (i := 3) rfl (by kernel_rfl) rfl (fun K hK => ?_)
  go_simp
  refine Calls.mono XA ?_
  rintro e w5 ⟨rfl, b5⟩
  clear XA
  have s1 := S1.out
  have b5' : Below w1.heap.size w1 w5 := ((Below.refl w1.heap.size w1).drew).trans b5
  have b5w : Below w.heap.size w w5 := B1.out.trans (b5'.mono (by omega))
  have s5 := b5'.size
  have XB := ih DL _ w5 (by omega) (by omega) (sumsAt.below SB.out b5w (Nat.le_refl _))
  unfold sumV at XB
  refine hK.out _ _ trivial (fun hHeld => ?_)
  clear hK K
  try simp only [Act.put, List.setIfInBounds_toArray, List.set_cons_zero, List.set_cons_succ]
  refine take_one (i := 7) rfl (by kernel_rfl) rfl (fun K hK => ?_)
  go_simp
  refine Calls.mono XB ?_
  rintro e w10 ⟨rfl, b10⟩
  clear XB
  have b10w : Below w.heap.size w w10 := b5w.trans (b10.mono (by omega))
  have s10 := b10.size
  have r10 : w10.rowIs w.heap.size 29 32 (fun _ => .int .u8 0) := b10.row (b5'.row R1.out (by omega)) (by omega)
  refine hK.out _ _ trivial (fun hHeld => ?_)
  clear hK K
  try simp only [Act.put, List.setIfInBounds_toArray, List.set_cons_zero, List.set_cons_succ]
  have XC := rnode_any (rootS TL) (rootS DL) w10 hsT hsD
  unfold sumV at XC
  refine take_one (i := 8) rfl (by kernel_rfl) rfl (fun K hK => ?_)
  go_simp
  refine Calls.mono XC ?_
  rintro e w12 ⟨rfl, b12⟩
  clear XC
  have s12 := b12.size
  have b12w : Below w.heap.size w w12 := b10w.trans (b12.mono (by omega))
  have r12 : w12.rowIs w.heap.size 29 32 (fun _ => .int .u8 0) := b12.row r10 (by omega)
  rw [← HES.out]
  refine hK.out _ _ trivial (fun hHeld => ?_)
  clear hK K
  try simp only [Act.put, List.setIfInBounds_toArray, List.set_cons_zero, List.set_cons_succ]
  refine take_one (i := 9) rfl (by kernel_rfl) rfl (fun K hK => ?_)
  have hst := stow32T_run w12 w.heap.size (rootS L) r12
  have h9 := stow32T_row w12 w.heap.size (rootS L) r12
  have r9 := h9.1
  have hz9 := h9.2.1
  have hb9 := h9.2.2
  clear h9
  unfold Oper.wp execOp
  simp only [Instr.storeAt, Instr.sureAddr, Sem.run_bind, Sem.run_pure, Result.andThen_ok]
  simp [Act.eval, hst, Oper.upon]
  clear hst
  generalize w12.setCells (w.heap.size) 0 (rowV 32 (arrV ((rootS L)))).toList = w9 at r9 hz9 hb9 ⊢
  refine hK.out _ _ trivial (fun hHeld => ?_)
  clear hK K hHeld
  try simp only [Act.put, List.setIfInBounds_toArray, List.set_cons_zero, List.set_cons_succ]
  refine wpAnyH_done (by kernel_rfl) ?_ _
  refine NoPanic.normal ?_
  have RES : Hid (Below w.heap.size w w9) := (show Below w.heap.size w w9 from b12w.trans (hb9.below' (Nat.le_refl _) b12w.size))
  clear b12w b12 b10 b10w b5 b5w b5' hb9 r12 r10
  go_wp2
  exact bodyPost_ret (results_cell_seg rfl _ _ w.heap.size 29 32 (arrV (rootS L)) _ rfl Tryd.underlying29 rfl hi32' r9) rfl ⟨rfl, RES.out⟩
end Go.Proofs.YthpnenblmkdmcaaDoor

/- The document's Steps, Between. -/
namespace Go.Proofs.YthpnenblmkdmcaaDoor
set_option linter.unusedSimpArgs false
set_option linter.unusedVariables false
open Go.RowKit Go.Deep

def sN (m n : Nat) (first : Bool) : Nat := (gL m n).length + if first = true ∧ gIn (gL m n) = false then 0 else 1
theorem sN_end (m : Nat) (first : Bool) : sN m m first = if first = true then 0 else 1 := by
  unfold sN; rw [gL_end (Nat.le_refl _)]; cases first <;> simp [gIn]
theorem sN_right {m n : Nat} (h1 : 1 ≤ m) (h : m < n) (hl : m ≤ halfN n) (first : Bool) : sN m n first = sN m (halfN n) first + 1 := by
  unfold sN; rw [gL_right h1 h hl, List.length_cons, gIn_cons]; simp only [Bool.not_true, Bool.false_or]; omega
theorem sN_left {m n : Nat} (h1 : 1 ≤ m) (h : m < n) (hl : ¬ m ≤ halfN n) (first : Bool) : sN m n first = sN (m - halfN n) (n - halfN n) false + 1 := by
  unfold sN; rw [gL_left h1 h hl, List.length_cons, gIn_cons]; simp
theorem sN_le (m n : Nat) (h1 : 1 ≤ m) (hn : (n : Int) ≤ 9223372036854775807) (first : Bool) : sN m n first ≤ 64 := by
  have := gL_len 63 m n h1 (by have : (2 : Nat) ^ 63 = 9223372036854775808 := rfl; omega)
  unfold sN; split <;> omega
theorem sN_steps {m n : Nat} (h1 : 1 ≤ m) : (sN m n true : Int) = gSteps m n := by
  unfold sN gSteps
  rw [gI_nat h1]
  cases gIn (gL m n) <;> simp
set_option maxHeartbeats 2000000 in
theorem rsteps_any : ∀ (k m n : Nat) (first : Bool) (w : World), n ≤ k → 1 ≤ m → m ≤ n → (n : Int) ≤ 9223372036854775807 →
    Calls Tryd.prog 26 #[.int .i64 (m : Int), .int .i64 (n : Int), .bool first] w fun e w' => e = .returned (.int .i64 (sN m n first : Int)) ∧ w' = w := by
  intro k
  induction k with
  | zero => intro m n first w h h1 h2 _; omega
  | succ k ih =>
    intro m n first w h h1 h2 hn
    by_cases e : m = n
    · subst e
      have E : Hid ((sN m m first : Int) = if first = true then 0 else 1) := (show (sN m m first : Int) = if first = true then 0 else 1 from by rw [sN_end]; cases first <;> simp)
      clear ih
      cases first with
      | true =>
        go_enter Tryd.func26, Tryd.ntmps26
        go_wp2
        go_ret
        exact ⟨by rw [E.out]; rfl, rfl⟩
      | false =>
        go_enter Tryd.func26, Tryd.ntmps26
        go_wp2
        go_ret
        exact ⟨by rw [E.out]; rfl, rfl⟩
    have hlt : m < n := by omega
    have hh := halfN_is (n := n) (by omega)
    have XH := rhalf_any (n : Int) (by omega) hn w
    have hI : halfI (n : Int) = (halfN n : Int) := by unfold halfI; rw [Int.toNat_natCast]
    rw [hI] at XH
    have ER : Hid (m ≤ halfN n → sN m n first = sN m (halfN n) first + 1) := (show _ from fun hl => sN_right h1 hlt hl first)
    have EL : Hid (¬ m ≤ halfN n → sN m n first = sN (m - halfN n) (n - halfN n) false + 1) := (show _ from fun hl => sN_left h1 hlt hl first)
    have YR := fun hl : m ≤ halfN n => ih m (halfN n) first w (by omega) h1 hl (by omega)
    have YL := fun hl : ¬ m ≤ halfN n => ih (m - halfN n) (n - halfN n) false w (by omega) (by omega) (by omega) (by omega)
    have LR := fun hl : m ≤ halfN n => sN_le m (halfN n) h1 (by omega) first
    have LL := fun hl : ¬ m ≤ halfN n => sN_le (m - halfN n) (n - halfN n) (by omega) (by omega) false
    generalize halfN n = q at XH ER EL YR YL LR LL hh
    have ne : ¬ (m : Int) = (n : Int) := by omega
    clear ih hI
    by_cases hl : m ≤ q
    · have X := YR hl
      have hle := LR hl
      have c1 : (m : Int) ≤ (q : Int) := by omega
      have E : Hid ((sN m n first : Int) = (sN m q first : Int) + 1) := (show (sN m n first : Int) = (sN m q first : Int) + 1 from by rw [ER.out hl]; omega)
      have l1 : (sN m q first : Int) ≤ 64 := by omega
      have l0 : (0 : Int) ≤ (sN m q first : Int) := by omega
      clear YR YL LR LL hle
      generalize sN m q first = z at X E l1 l0
      go_enter Tryd.func26, Tryd.ntmps26
      go_wp2_with fail
      refine XH.mono ?_
      rintro e w' ⟨rfl, hw⟩
      obtain rfl := hw.symm
      clear XH hw
      go_wp2_with fail
      refine X.mono ?_
      rintro e w' ⟨rfl, hw⟩
      obtain rfl := hw.symm
      clear X hw
      go_wp2
      go_ret
      exact ⟨by rw [E.out]; rfl, rfl⟩
    · have X := YL hl
      have hle := LL hl
      have c1 : ¬ (m : Int) ≤ (q : Int) := by omega
      have E : Hid ((sN m n first : Int) = (sN (m - q) (n - q) false : Int) + 1) := (show (sN m n first : Int) = (sN (m - q) (n - q) false : Int) + 1 from by rw [EL.out hl]; omega)
      have l1 : (sN (m - q) (n - q) false : Int) ≤ 64 := by omega
      have l0 : (0 : Int) ≤ (sN (m - q) (n - q) false : Int) := by omega
      rw [show ((m - q : Nat) : Int) = (m : Int) - (q : Int) by omega, show ((n - q : Nat) : Int) = (n : Int) - (q : Int) by omega] at X
      clear YR YL LR LL hle
      generalize sN (m - q) (n - q) false = z at X E l1 l0
      go_enter Tryd.func26, Tryd.ntmps26
      go_wp2_with fail
      refine XH.mono ?_
      rintro e w' ⟨rfl, hw⟩
      obtain rfl := hw.symm
      clear XH hw
      go_wp2_with fail
      refine X.mono ?_
      rintro e w' ⟨rfl, hw⟩
      obtain rfl := hw.symm
      clear X hw
      go_wp2
      go_ret
      exact ⟨by rw [E.out]; rfl, rfl⟩
def edgeB (m n : Int) : Bool := decide (1 ≤ m) && decide (m ≤ n)
theorem edge_any (m n : Int) (w : World) : Calls Tryd.prog 24 #[.int .i64 m, .int .i64 n] w fun e w' => e = .returned (.bool (edgeB m n)) ∧ w' = w := by
  by_cases h1 : 1 ≤ m
  · have h1' : m ≥ 1 := h1
    by_cases h2 : m ≤ n
    · have E : Hid (edgeB m n = true) := (show edgeB m n = true from by simp [edgeB, h1, h2])
      go_enter Tryd.func24, Tryd.ntmps24
      go_wp2
      go_ret
      exact ⟨by rw [E.out]; rfl, rfl⟩
    · have E : Hid (edgeB m n = false) := (show edgeB m n = false from by simp [edgeB, h2])
      go_enter Tryd.func24, Tryd.ntmps24
      go_wp2
      go_ret
      exact ⟨by rw [E.out]; rfl, rfl⟩
  · have h1' : ¬ m ≥ 1 := h1
    have E : Hid (edgeB m n = false) := (show edgeB m n = false from by simp [edgeB, h1])
    go_enter Tryd.func24, Tryd.ntmps24
    go_wp2
    go_ret
    exact ⟨by rw [E.out]; rfl, rfl⟩
theorem rSteps_any (m n : Int) (hn : n ≤ 9223372036854775807) (w : World) : Calls Tryd.prog 14 #[.int .i64 m, .int .i64 n] w fun e w' => e = .returned (.int .i64 (gSteps m n)) ∧ w' = w := by
  have X := edge_any m n w
  by_cases h : 1 ≤ m ∧ m ≤ n
  · have E : edgeB m n = true := by simp [edgeB, h.1, h.2]
    rw [E] at X
    obtain ⟨a, rfl⟩ : ∃ a : Nat, m = (a : Int) := ⟨m.toNat, by omega⟩
    obtain ⟨b, rfl⟩ : ∃ b : Nat, n = (b : Int) := ⟨n.toNat, by omega⟩
    have Y := rsteps_any b a b true w (Nat.le_refl _) (by omega) (by omega) hn
    rw [sN_steps (by omega)] at Y
    clear E
    go_enter Tryd.func14, Tryd.ntmps14
    go_wp2_with fail
    refine X.mono ?_
    rintro e w' ⟨rfl, hw⟩
    obtain rfl := hw.symm
    clear X hw
    go_wp2_with fail
    refine Y.mono ?_
    rintro e w' ⟨rfl, hw⟩
    obtain rfl := hw.symm
    clear Y hw
    go_wp2
    go_ret
    exact ⟨rfl, rfl⟩
  · have E : edgeB m n = false := by unfold edgeB; by_cases h1 : 1 ≤ m <;> by_cases h2 : m ≤ n <;> simp [h1, h2] at h ⊢
    rw [E] at X
    have G : Hid (gSteps m n = 0) := (show gSteps m n = 0 from by unfold gSteps; rw [gI_no (by omega)]; rfl)
    clear E
    go_enter Tryd.func14, Tryd.ntmps14
    go_wp2_with fail
    refine X.mono ?_
    rintro e w' ⟨rfl, hw⟩
    obtain rfl := hw.symm
    clear X hw
    go_wp2
    go_ret
    exact ⟨by rw [G.out]; rfl, rfl⟩
/-- the path, and whether something was left aside to the left by now. -/
def bP (L : List (List Int)) (m : Nat) (first : Bool) : List (List Int) := (if first = true ∧ gIn (gL m L.length) = false then [] else [rootS (gKeptF (gL m L.length) L)]) ++ (gDown (gL m L.length) L).reverse.map rootS
theorem bP_end (L : List (List Int)) (first : Bool) : bP L L.length first = if first = true then [] else [rootS L] := by
  unfold bP; rw [gL_end (Nat.le_refl _)]; cases first <;> simp [gIn, gKeptF, gDown]
theorem bP_right {L : List (List Int)} {m : Nat} (h1 : 1 ≤ m) (h : m < L.length) (hl : m ≤ halfN L.length) (first : Bool) : bP L m first = bP (L.take (halfN L.length)) m first ++ [rootS (L.drop (halfN L.length))] := by
  have ht := half_take (L := L) (by omega)
  have eK : gKept (halfN L.length, true) L = L.take (halfN L.length) := by unfold gKept; rw [if_pos rfl]
  have eO : gOther (halfN L.length, true) L = L.drop (halfN L.length) := by unfold gOther; rw [if_pos rfl]
  unfold bP
  rw [gL_right h1 h hl, gIn_cons, gKeptF_cons, gDown, eK, eO, ht.1]
  simp
theorem bP_left {L : List (List Int)} {m : Nat} (h1 : 1 ≤ m) (h : m < L.length) (hl : ¬ m ≤ halfN L.length) (first : Bool) : bP L m first = bP (L.drop (halfN L.length)) (m - halfN L.length) false ++ [rootS (L.take (halfN L.length))] := by
  have ht := half_take (L := L) (by omega)
  have eK : gKept (halfN L.length, false) L = L.drop (halfN L.length) := by unfold gKept; rw [if_neg (by simp)]
  have eO : gOther (halfN L.length, false) L = L.take (halfN L.length) := by unfold gOther; rw [if_neg (by simp)]
  unfold bP
  rw [gL_left h1 h hl, gIn_cons, gKeptF_cons, gDown, eK, eO, ht.2.1]
  simp
theorem bP_len (L : List (List Int)) (m : Nat) (h1 : 1 ≤ m) (hL : L.length ≤ 1000) (first : Bool) : (bP L m first).length ≤ 100 := by
  have := gL_len 63 m L.length h1 (by have : (2 : Nat) ^ 63 = 9223372036854775808 := rfl; omega)
  unfold bP
  rw [List.length_append, List.length_map, List.length_reverse, gDown_len]
  split <;> simp <;> omega
theorem bP_path (L : List (List Int)) (m : Nat) (h1 : 1 ≤ m) : bP L m true = gPath L m := by
  unfold bP gPath gShown
  rw [gI_nat h1]
  cases gIn (gL m L.length) <;> simp
set_option maxHeartbeats 4000000 in
set_option maxRecDepth 100000 in
theorem rbetween_any : ∀ (n : Nat) (L : List (List Int)) (m : Nat) (first : Bool) (v : Value) (w : World), L.length ≤ n → n ≤ 1000 → 1 ≤ m → m ≤ L.length → sumsAt w v L →
    Calls Tryd.prog 25 #[v, .int .i64 (m : Int), .bool first] w fun e w' => ∃ u, e = .returned u ∧ newSums w' w.heap.size u (bP L m first) ∧ Below w.heap.size w w' := by
  intro n
  induction n with
  | zero => intro L m first v w hn _ h1 h2 h; omega
  | succ n ih =>
  intro L m first v w hn h1000 h1 h2 h
  have hsl : ∃ a cap, v = .slice a L.length cap := by
    obtain ⟨_, a, cap, e, _⟩ := h; exact ⟨a, cap, e⟩
  obtain ⟨va, vc, rfl⟩ := hsl
  have q1 : (L.length : Int) ≤ 1000 := by omega
  by_cases e : m = L.length
  · subst e
    have E := bP_end L first
    cases first with
    | true =>
      have E2 : Hid (bP L L.length true = []) := (show bP L L.length true = [] from by rw [E]; rfl)
      clear ih h E
      go_enter Tryd.func25, Tryd.ntmps25
      go_wp2
      go_ret
      exact ⟨_, rfl, by rw [E2.out]; exact newSums.nil _ _, Below.refl _ _⟩
    | false =>
      have E2 : Hid (bP L L.length false = [rootS L]) := (show bP L L.length false = [rootS L] from by rw [E]; rfl)
      have XR := rroot_any 1000 L _ w (by omega) (Nat.le_refl _) h
      have HR : Hid (isSum (rootS L)) := (show isSum (rootS L) from rootS_sum h.1)
      unfold sumV at XR
      clear ih h E
      go_enter Tryd.func25, Tryd.ntmps25
      go_wp2_with fail
      refine XR.mono ?_
      rintro e w1 ⟨rfl, b1⟩
      obtain ⟨w2, hw2⟩ : ∃ w2, w2 = w1.alloc (.cells (rowV 32 (arrV (rootS L))) 29) := ⟨_, rfl⟩
      have b2 : Below w1.heap.size w1 w2 := by rw [hw2]; exact (Below.refl _ _).alloc (Nat.le_refl _) _
      have n2 : newSums w2 w.heap.size (.slice (some ⟨w1.heap.size, 0, none⟩) 1 1) [rootS L] := by
        refine ⟨fun x hx => by rw [List.mem_singleton.1 hx]; exact HR.out, by simp [sumC_len], Or.inr ⟨w1.heap.size, 1, rowV 32 (arrV (rootS L)), rfl, b1.size, by rw [hw2]; exact World.alloc_heap_new w1 _, Nat.le_refl _, by unfold maxLen; omega, by rw [rowV_size], by simp [sumC, List.take_of_length_le, rowV_size]⟩⟩
      have FIN : Hid (newSums w2 w.heap.size (.slice (some ⟨w1.heap.size, 0, none⟩) 1 1) (bP L L.length false) ∧ Below w.heap.size w w2) := (show _ ∧ _ from ⟨by rw [E2.out]; exact n2, b1.trans (b2.mono b1.size)⟩)
      have BO := build_one (arrV (rootS L)) w1
      rw [← hw2] at BO
      have HBO : Hid _ := BO
      generalize arrV (rootS L) = f at HBO
      clear XR b1 b2 n2 hw2 E2 HR BO
      go_wp2_with (first | (refine wpList_runG (v := .slice (some ⟨w1.heap.size, 0, none⟩) 1 1) (w' := w2) rfl (exec_bslice1' 22 1 0 (.tmp 14) (.agg (rowV 32 f)) rfl rfl HBO.out) ?_))
      go_ret
      exact ⟨_, rfl, FIN.out⟩
  have hlt : m < L.length := by omega
  have h2L : 2 ≤ L.length := by omega
  have hh := half_take h2L
  have XH := rhalf_any (L.length : Int) (by omega) (by omega) w
  have hI : halfI (L.length : Int) = (halfN L.length : Int) := by unfold halfI; rw [Int.toNat_natCast]
  rw [hI] at XH
  obtain ⟨ua, ra, sa, oa, xa, ya, rfl⟩ := h.to' (halfN L.length) (by omega)
  obtain ⟨ub, rb, sb, ob, xb, yb, rfl⟩ := h.from' (halfN L.length) (by omega)
  have PLr := fun hl => bP_right h1 hlt hl first
  have PLl := fun hl => bP_left h1 hlt hl first
  obtain ⟨TL, hTL⟩ : ∃ TL, TL = L.take (halfN L.length) := ⟨_, rfl⟩
  obtain ⟨DL, hDL⟩ : ∃ DL, DL = L.drop (halfN L.length) := ⟨_, rfl⟩
  rw [← hTL] at sa PLl PLr hh
  rw [← hDL] at sb PLl PLr hh
  obtain ⟨q, hq⟩ : ∃ q, q = halfN L.length := ⟨_, rfl⟩
  rw [← hq] at hh PLl PLr XH ra rb sa sb
  have hsT : isSum (rootS TL) := rootS_sum sa.1
  have hsD : isSum (rootS DL) := rootS_sum sb.1
  have m0 : (0 : Int) ≤ (q : Int) := by omega
  have m1 : (q : Int) < (L.length : Int) := by omega
  have m2 : (q : Int) ≤ (L.length : Int) := by omega
  have e2 : ¬ (m : Int) = (L.length : Int) := by omega
  have szl : Hid (∀ wz, Below w.heap.size w wz → sumsAt wz (.slice xa q ya) TL ∧ sumsAt wz (.slice xb (L.length - q) yb) DL) := (show _ from fun wz hz => ⟨sa.below hz (Nat.le_refl _), sb.below hz (Nat.le_refl _)⟩)
  by_cases hl : m ≤ q
  · have Y := ih TL m first _ w.drew (by omega) (by omega) h1 (by omega) (szl.out w.drew ((Below.refl _ _).drew)).1
    have EP : Hid (bP L m first = bP TL m first ++ [rootS DL]) := (show _ from PLr hl)
    have HLn : Hid ((bP TL m first).length ≤ 100 ∧ TL.length ≤ 1000 ∧ DL.length ≤ 1000) := (show _ from ⟨bP_len TL m h1 (by omega) first, by omega, by omega⟩)
    have hli : (m : Int) ≤ (q : Int) := by omega
    have HSD : Hid (isSum (rootS DL)) := (show isSum (rootS DL) from hsD)
    clear ih h sa sb PLl PLr hh hI hTL hDL hq hsT hsD hn h2L oa ob
    go_enter Tryd.func25, Tryd.ntmps25
    go_wp2_with fail
    refine XH.mono ?_
    rintro e w' ⟨rfl, hw⟩
    obtain rfl := hw.symm
    clear XH hw
    go_upto_region 7 with fail
    refine wp_region_noPanic ?_
    refine wp_region_held_drew (S := fun w' => True) (by kernel_rfl) trivial (fun hHeld => ?_)
    refine take_op (i := 0) (v := ?va0) rfl (by kernel_rfl) (by kernel_rfl) (by kernel_rfl) (fun _ _ _ h => h) rfl hHeld ?ya0 ?ra0
    case ya0 => (intro wz hz; go_simp; first | done | with_reducible rfl)
    try simp only [Act.put, List.setIfInBounds_toArray, List.set_cons_zero, List.set_cons_succ]
    refine take_op (i := 1) (v := ?va1) rfl (by kernel_rfl) (by kernel_rfl) (by kernel_rfl) (fun _ _ _ h => h) rfl hHeld ?ya1 ?ra1
    case ya1 => (intro wz hz; go_simp; first | done | with_reducible rfl)
    try simp only [Act.put, List.setIfInBounds_toArray, List.set_cons_zero, List.set_cons_succ]
    refine take_op (i := 2) (v := ?va2) rfl (by kernel_rfl) (by kernel_rfl) (by kernel_rfl) (fun _ _ _ h => h) rfl hHeld ?ya2 ?ra2
    case ya2 => (intro wz hz; have hcz := ra wz; go_simp; first | done | with_reducible rfl)
    try simp only [Act.put, List.setIfInBounds_toArray, List.set_cons_zero, List.set_cons_succ]
    refine take_op (i := 3) (v := ?va3) rfl (by kernel_rfl) (by kernel_rfl) (by kernel_rfl) (fun _ _ _ h => h) rfl hHeld ?ya3 ?ra3
    case ya3 => (intro wz hz; go_simp; first | done | with_reducible rfl)
    try simp only [Act.put, List.setIfInBounds_toArray, List.set_cons_zero, List.set_cons_succ]
    refine take_op (i := 4) (v := ?va4) rfl (by kernel_rfl) (by kernel_rfl) (by kernel_rfl) (fun _ _ _ h => h) rfl hHeld ?ya4 ?ra4
    case ya4 => (intro wz hz; go_simp; first | done | with_reducible rfl)
    try simp only [Act.put, List.setIfInBounds_toArray, List.set_cons_zero, List.set_cons_succ]
    refine take_op (i := 6) (v := ?va6) rfl (by kernel_rfl) (by kernel_rfl) (by kernel_rfl) (fun _ _ _ h => h) rfl hHeld ?ya6 ?ra6
    case ya6 => (intro wz hz; go_simp; first | done | with_reducible rfl)
    try simp only [Act.put, List.setIfInBounds_toArray, List.set_cons_zero, List.set_cons_succ]
    refine take_op (i := 7) (v := ?va7) rfl (by kernel_rfl) (by kernel_rfl) (by kernel_rfl) (fun _ _ _ h => h) rfl hHeld ?ya7 ?ra7
    case ya7 => (intro wz hz; go_simp; first | done | with_reducible rfl)
    try simp only [Act.put, List.setIfInBounds_toArray, List.set_cons_zero, List.set_cons_succ]
    refine take_op (i := 8) (v := ?va8) rfl (by kernel_rfl) (by kernel_rfl) (by kernel_rfl) (fun _ _ _ h => h) rfl hHeld ?ya8 ?ra8
    case ya8 => (intro wz hz; have hcz := rb wz; go_simp; first | done | with_reducible rfl)
    try simp only [Act.put, List.setIfInBounds_toArray, List.set_cons_zero, List.set_cons_succ]
    refine take_one (i := 5) rfl (by kernel_rfl) rfl (fun K hK => ?_)
    go_simp
    refine Calls.mono Y ?_
    rintro e x1 ⟨u1, rfl, n1, b1⟩
    clear Y
    have b1' : Below w.heap.size w x1 := ((Below.refl w.heap.size w).drew).trans b1
    have Y2 := rroot_any 1000 _ _ x1 HLn.out.2.2 (Nat.le_refl _) (szl.out x1 b1').2
    unfold sumV at Y2
    refine hK.out _ _ trivial (fun hHeld => ?_)
    clear hK K
    try simp only [Act.put, List.setIfInBounds_toArray, List.set_cons_zero, List.set_cons_succ]
    refine take_one (i := 9) rfl (by kernel_rfl) rfl (fun K hK => ?_)
    go_simp
    refine Calls.mono Y2 ?_
    rintro e x2 ⟨rfl, b2⟩
    clear Y2
    have n2 := n1.below b2 (Nat.le_refl _)
    have b2' : Below w.heap.size w x2 := b1'.trans (b2.mono b1'.size)
    obtain ⟨a8, c8, x3, hr8, n8, b8⟩ := path_more w x2 u1 _ (rootS DL) HSD.out n2 b2' HLn.out.1
    obtain ⟨ya1, yc1, hu1, _⟩ := ownsRow_slice n1.2
    subst hu1
    refine hK.out _ _ trivial (fun hHeld => ?_)
    clear hK K n1 n2 b1 b2
    try simp only [Act.put, List.setIfInBounds_toArray, List.set_cons_zero, List.set_cons_succ]
    refine take_one (i := 10) rfl (by kernel_rfl) rfl (fun K hK => ?_)
    refine wp_of_run (exec_bslice1' 22 1 0 (.tmp 31) (.agg (rowV 32 (arrV (rootS DL)))) rfl rfl (build_one (arrV (rootS DL)) x2)) ?_
    refine hK.out _ _ trivial (fun hHeld => ?_)
    clear hK K
    try simp only [Act.put, List.setIfInBounds_toArray, List.set_cons_zero, List.set_cons_succ]
    refine take_one (i := 11) rfl (by kernel_rfl) rfl (fun K hK => ?_)
    refine wp_append_run _ _ _ rfl rfl rfl hr8 ?_
    refine hK.out _ _ trivial (fun hHeld => ?_)
    clear hK K hr8
    try simp only [Act.put, List.setIfInBounds_toArray, List.set_cons_zero, List.set_cons_succ]
    refine take_op (i := 12) (v := ?va12) rfl (by kernel_rfl) (by kernel_rfl) (by kernel_rfl) (fun _ _ _ h => h) rfl hHeld ?ya12 ?ra12
    case ya12 => (intro wz hz; go_simp; first | done | with_reducible rfl)
    try simp only [Act.put, List.setIfInBounds_toArray, List.set_cons_zero, List.set_cons_succ]
    refine wpAnyH_done (by kernel_rfl) ?_ _
    refine NoPanic.normal ?_
    have N8 : Hid _ := n8
    have B8 : Hid _ := b8
    clear n8 b8 hHeld b1' b2'
    go_wp2
    go_ret
    exact ⟨_, rfl, by rw [EP.out]; exact N8.out, B8.out⟩
  · have Y := ih DL (m - q) false _ w.drew (by omega) (by omega) (by omega) (by omega) (szl.out w.drew ((Below.refl _ _).drew)).2
    have EP : Hid (bP L m first = bP DL (m - q) false ++ [rootS TL]) := (show _ from PLl hl)
    have HLn : Hid ((bP DL (m - q) false).length ≤ 100 ∧ TL.length ≤ 1000 ∧ DL.length ≤ 1000) := (show _ from ⟨bP_len DL (m - q) (by omega) (by omega) false, by omega, by omega⟩)
    have hli : ¬ (m : Int) ≤ (q : Int) := by omega
    have hwr : IntKind.wrap .i64 ((m : Int) - (q : Int)) = (m : Int) - (q : Int) := IntWalk.i64_in _ ⟨by omega, by omega⟩
    have HST : Hid (isSum (rootS TL)) := (show isSum (rootS TL) from hsT)
    rw [show ((m - q : Nat) : Int) = (m : Int) - (q : Int) by omega] at Y
    clear ih h sa sb PLl PLr hh hI hTL hDL hq hsT hsD hn h2L oa ob
    go_enter Tryd.func25, Tryd.ntmps25
    go_wp2_with fail
    refine XH.mono ?_
    rintro e w' ⟨rfl, hw⟩
    obtain rfl := hw.symm
    clear XH hw
    go_upto_region 8 with fail
    refine wp_region_noPanic ?_
    refine wp_region_held_drew (S := fun w' => True) (by kernel_rfl) trivial (fun hHeld => ?_)
    refine take_op (i := 0) (v := ?vb0) rfl (by kernel_rfl) (by kernel_rfl) (by kernel_rfl) (fun _ _ _ h => h) rfl hHeld ?yb0 ?rb0
    case yb0 => (intro wz hz; go_simp; first | done | with_reducible rfl)
    try simp only [Act.put, List.setIfInBounds_toArray, List.set_cons_zero, List.set_cons_succ]
    refine take_op (i := 1) (v := ?vb1) rfl (by kernel_rfl) (by kernel_rfl) (by kernel_rfl) (fun _ _ _ h => h) rfl hHeld ?yb1 ?rb1
    case yb1 => (intro wz hz; go_simp; first | done | with_reducible rfl)
    try simp only [Act.put, List.setIfInBounds_toArray, List.set_cons_zero, List.set_cons_succ]
    refine take_op (i := 2) (v := ?vb2) rfl (by kernel_rfl) (by kernel_rfl) (by kernel_rfl) (fun _ _ _ h => h) rfl hHeld ?yb2 ?rb2
    case yb2 => (intro wz hz; have hcz := rb wz; go_simp; first | done | with_reducible rfl)
    try simp only [Act.put, List.setIfInBounds_toArray, List.set_cons_zero, List.set_cons_succ]
    refine take_op (i := 3) (v := ?vb3) rfl (by kernel_rfl) (by kernel_rfl) (by kernel_rfl) (fun _ _ _ h => h) rfl hHeld ?yb3 ?rb3
    case yb3 => (intro wz hz; go_simp; first | done | with_reducible rfl)
    try simp only [Act.put, List.setIfInBounds_toArray, List.set_cons_zero, List.set_cons_succ]
    refine take_op (i := 4) (v := ?vb4) rfl (by kernel_rfl) (by kernel_rfl) (by kernel_rfl) (fun _ _ _ h => h) rfl hHeld ?yb4 ?rb4
    case yb4 => (intro wz hz; go_simp; first | done | with_reducible rfl)
    try simp only [Act.put, List.setIfInBounds_toArray, List.set_cons_zero, List.set_cons_succ]
    refine take_op (i := 5) (v := ?vb5) rfl (by kernel_rfl) (by kernel_rfl) (by kernel_rfl) (fun _ _ _ h => h) rfl hHeld ?yb5 ?rb5
    case yb5 => (intro wz hz; go_simp; first | done | with_reducible rfl)
    try simp only [Act.put, List.setIfInBounds_toArray, List.set_cons_zero, List.set_cons_succ]
    refine take_op (i := 7) (v := ?vb7) rfl (by kernel_rfl) (by kernel_rfl) (by kernel_rfl) (fun _ _ _ h => h) rfl hHeld ?yb7 ?rb7
    case yb7 => (intro wz hz; go_simp; first | done | with_reducible rfl)
    try simp only [Act.put, List.setIfInBounds_toArray, List.set_cons_zero, List.set_cons_succ]
    refine take_op (i := 8) (v := ?vb8) rfl (by kernel_rfl) (by kernel_rfl) (by kernel_rfl) (fun _ _ _ h => h) rfl hHeld ?yb8 ?rb8
    case yb8 => (intro wz hz; go_simp; first | done | with_reducible rfl)
    try simp only [Act.put, List.setIfInBounds_toArray, List.set_cons_zero, List.set_cons_succ]
    refine take_op (i := 9) (v := ?vb9) rfl (by kernel_rfl) (by kernel_rfl) (by kernel_rfl) (fun _ _ _ h => h) rfl hHeld ?yb9 ?rb9
    case yb9 => (intro wz hz; have hcz := ra wz; go_simp; first | done | with_reducible rfl)
    try simp only [Act.put, List.setIfInBounds_toArray, List.set_cons_zero, List.set_cons_succ]
    refine take_one (i := 6) rfl (by kernel_rfl) rfl (fun K hK => ?_)
    go_simp
    refine Calls.mono Y ?_
    rintro e x1 ⟨u1, rfl, n1, b1⟩
    clear Y
    have b1' : Below w.heap.size w x1 := ((Below.refl w.heap.size w).drew).trans b1
    have Y2 := rroot_any 1000 _ _ x1 HLn.out.2.1 (Nat.le_refl _) (szl.out x1 b1').1
    unfold sumV at Y2
    refine hK.out _ _ trivial (fun hHeld => ?_)
    clear hK K
    try simp only [Act.put, List.setIfInBounds_toArray, List.set_cons_zero, List.set_cons_succ]
    refine take_one (i := 10) rfl (by kernel_rfl) rfl (fun K hK => ?_)
    go_simp
    refine Calls.mono Y2 ?_
    rintro e x2 ⟨rfl, b2⟩
    clear Y2
    have n2 := n1.below b2 (Nat.le_refl _)
    have b2' : Below w.heap.size w x2 := b1'.trans (b2.mono b1'.size)
    obtain ⟨a8, c8, x3, hr8, n8, b8⟩ := path_more w x2 u1 _ (rootS TL) HST.out n2 b2' HLn.out.1
    obtain ⟨ya1, yc1, hu1, _⟩ := ownsRow_slice n1.2
    subst hu1
    refine hK.out _ _ trivial (fun hHeld => ?_)
    clear hK K n1 n2 b1 b2
    try simp only [Act.put, List.setIfInBounds_toArray, List.set_cons_zero, List.set_cons_succ]
    refine take_one (i := 11) rfl (by kernel_rfl) rfl (fun K hK => ?_)
    refine wp_of_run (exec_bslice1' 22 1 0 (.tmp 44) (.agg (rowV 32 (arrV (rootS TL)))) rfl rfl (build_one (arrV (rootS TL)) x2)) ?_
    refine hK.out _ _ trivial (fun hHeld => ?_)
    clear hK K
    try simp only [Act.put, List.setIfInBounds_toArray, List.set_cons_zero, List.set_cons_succ]
    refine take_one (i := 12) rfl (by kernel_rfl) rfl (fun K hK => ?_)
    refine wp_append_run _ _ _ rfl rfl rfl hr8 ?_
    refine hK.out _ _ trivial (fun hHeld => ?_)
    clear hK K hr8
    try simp only [Act.put, List.setIfInBounds_toArray, List.set_cons_zero, List.set_cons_succ]
    refine take_op (i := 13) (v := ?vb13) rfl (by kernel_rfl) (by kernel_rfl) (by kernel_rfl) (fun _ _ _ h => h) rfl hHeld ?yb13 ?rb13
    case yb13 => (intro wz hz; go_simp; first | done | with_reducible rfl)
    try simp only [Act.put, List.setIfInBounds_toArray, List.set_cons_zero, List.set_cons_succ]
    refine wpAnyH_done (by kernel_rfl) ?_ _
    refine NoPanic.normal ?_
    have N8 : Hid _ := n8
    have B8 : Hid _ := b8
    clear n8 b8 hHeld b1' b2'
    go_wp2
    go_ret
    exact ⟨_, rfl, by rw [EP.out]; exact N8.out, B8.out⟩
theorem rBetween_any (L : List (List Int)) (m : Int) (v : Value) (w : World) (hL : L.length ≤ 1000) (h : sumsAt w v L) :
    Calls Tryd.prog 12 #[v, .int .i64 m] w fun e w' => ∃ u, e = .returned u ∧ newSums w' w.heap.size u (gPath L m) ∧ Below w.heap.size w w' := by
  have X := edge_any m L.length w
  have hsl : ∃ a cap, v = .slice a L.length cap := by
    obtain ⟨_, a, cap, e, _⟩ := h; exact ⟨a, cap, e⟩
  obtain ⟨va, vc, rfl⟩ := hsl
  have q1 : (L.length : Int) ≤ 1000 := by omega
  by_cases he : 1 ≤ m ∧ m ≤ L.length
  · have E : edgeB m L.length = true := by simp [edgeB, he.1, he.2]
    rw [E] at X
    obtain ⟨a, rfl⟩ : ∃ a : Nat, m = (a : Int) := ⟨m.toNat, by omega⟩
    have Y := rbetween_any 1000 L a true _ w hL (Nat.le_refl _) (by omega) (by omega) h
    rw [bP_path L a (by omega)] at Y
    clear E h
    go_enter Tryd.func12, Tryd.ntmps12
    go_wp2_with fail
    refine X.mono ?_
    rintro e w' ⟨rfl, hw⟩
    obtain rfl := hw.symm
    clear X hw
    go_wp2_with fail
    refine Y.mono ?_
    rintro e w1 ⟨u, rfl, n1, b1⟩
    have FIN : Hid (newSums w1 w.heap.size u (gPath L a) ∧ Below w.heap.size w w1) := (show _ ∧ _ from ⟨n1, b1⟩)
    obtain ⟨ua, uc, rfl, _⟩ := ownsRow_slice n1.2
    clear Y n1 b1
    go_wp2
    go_ret
    exact ⟨_, rfl, FIN.out⟩
  · have E : edgeB m L.length = false := by unfold edgeB; by_cases h1 : 1 ≤ m <;> by_cases h2 : m ≤ L.length <;> simp [h1, h2] at he ⊢
    rw [E] at X
    have G : Hid (gPath L m = []) := (show gPath L m = [] from by
      have : gI m L.length = [] := gI_no (by omega)
      unfold gPath gShown
      rw [this]; rfl)
    clear E h
    go_enter Tryd.func12, Tryd.ntmps12
    go_wp2_with fail
    refine X.mono ?_
    rintro e w' ⟨rfl, hw⟩
    obtain rfl := hw.symm
    clear X hw
    go_wp2
    go_ret
    exact ⟨_, rfl, by rw [G.out]; exact newSums.nil _ _, Below.refl _ _⟩
end Go.Proofs.YthpnenblmkdmcaaDoor

/- The document's tells: the pure part (sums below an edge, and what they come to as Extends' own). -/
namespace Go.Proofs.YthpnenblmkdmcaaDoor
set_option linter.unusedSimpArgs false
set_option linter.unusedVariables false
open Go.RowKit Go.Deep

def uT (Y : List (Nat × Bool)) (c : Bool) (old : List Int) (path : List (List Int)) : List Int × List Int :=
  if c = true then (gUps Y path).foldl gUp (old, old) else (gUps Y (path.drop 1)).foldl gUp (path.getD 0 [], path.getD 0 [])
def cT (m n : Nat) (first : Bool) : Bool := first && !gIn (gL m n)
/-- what tells tells. -/
def tT (m n : Nat) (first : Bool) (old : List Int) (path : List (List Int)) : List Int × List Int := uT (gL m n) (cT m n first) old path
theorem uT_snoc (x : Nat × Bool) (Y : List (Nat × Bool)) (c : Bool) (old : List Int) (q : List (List Int)) (y : List Int) (h : q.length = Y.length + if c = true then 0 else 1) : uT (x :: Y) c old (q ++ [y]) = gUp (uT Y c old q) (x.2, y) := by
  unfold uT
  cases c with
  | true =>
    rw [if_pos rfl, if_pos rfl, gUps_snoc (by simpa using h), List.foldl_append]
    rfl
  | false =>
    rw [if_neg (by simp), if_neg (by simp)]
    cases q with
    | nil => simp at h
    | cons z q =>
      have h' : q.length = Y.length := by simpa using h
      have e1 : (z :: q ++ [y]).drop 1 = q ++ [y] := rfl
      have e2 : (z :: q).drop 1 = q := rfl
      have e3 : (z :: q ++ [y]).getD 0 [] = z := rfl
      have e4 : (z :: q).getD 0 [] = z := rfl
      rw [e1, e2, e3, e4, gUps_snoc h', List.foldl_append]
      rfl
theorem sN_is (m n : Nat) (first : Bool) : sN m n first = (gL m n).length + if cT m n first = true then 0 else 1 := by
  unfold sN cT
  cases first <;> cases gIn (gL m n) <;> simp
theorem tT_end (m : Nat) (first : Bool) (old : List Int) (path : List (List Int)) : tT m m first old path = if first = true then (old, old) else (path.getD 0 [], path.getD 0 []) := by
  unfold tT cT uT
  rw [gL_end (Nat.le_refl _)]
  cases first <;> simp [gIn, gUps]
theorem tT_right {m n : Nat} (h1 : 1 ≤ m) (h : m < n) (hl : m ≤ halfN n) (first : Bool) (old : List Int) (q : List (List Int)) (y : List Int) (hq : q.length = sN m (halfN n) first) : tT m n first old (q ++ [y]) = gUp (tT m (halfN n) first old q) (true, y) := by
  have e : cT m n first = cT m (halfN n) first := by unfold cT; rw [gL_right h1 h hl, gIn_cons]; simp
  unfold tT
  rw [e, gL_right h1 h hl, uT_snoc _ _ _ _ _ _ (by rw [hq, sN_is])]
theorem tT_left {m n : Nat} (h1 : 1 ≤ m) (h : m < n) (hl : ¬ m ≤ halfN n) (first : Bool) (old : List Int) (q : List (List Int)) (y : List Int) (hq : q.length = sN (m - halfN n) (n - halfN n) false) : tT m n first old (q ++ [y]) = gUp (tT (m - halfN n) (n - halfN n) false old q) (false, y) := by
  have e : cT m n first = cT (m - halfN n) (n - halfN n) false := by unfold cT; rw [gL_left h1 h hl, gIn_cons]; simp
  unfold tT
  rw [e, gL_left h1 h hl, uT_snoc _ _ _ _ _ _ (by rw [hq, sN_is])]
theorem tT_tell {m n : Nat} (h1 : 1 ≤ m) (old : List Int) (path : List (List Int)) : tT m n true old path = gTell (gI m n) old path := by
  unfold tT cT uT gTell
  rw [gI_nat h1]
  cases gIn (gL m n) <;> simp
theorem gUps_mem {Y : List (Nat × Bool)} {path : List (List Int)} (hp : ∀ x ∈ path, isSum x) : ∀ x ∈ gUps Y path, isSum x.2 := fun x hx => by
  unfold gUps at hx
  exact hp _ (List.of_mem_zip hx).2
theorem tT_sum (m n : Nat) (first : Bool) (old : List Int) (path : List (List Int)) (ho : isSum old) (hp : ∀ x ∈ path, isSum x) (hl : path.length = sN m n first) : isSum (tT m n first old path).1 ∧ isSum (tT m n first old path).2 := by
  rw [sN_is] at hl
  unfold tT uT
  cases e : cT m n first with
  | true => rw [if_pos rfl]; exact gUps_sum _ _ ho ho
  | false =>
    rw [if_neg (by simp)]
    cases path with
    | nil => rw [e] at hl; simp at hl
    | cons z q => exact gUps_sum _ _ (hp z (by simp)) (hp z (by simp))
/-- a path that is not empty: all but its last, and its last. -/
theorem path_split {path : List (List Int)} (h : 0 < path.length) : path = path.take (path.length - 1) ++ [path.getD (path.length - 1) []] := by
  have e1 : path.take (path.length - 1 + 1) = path := List.take_of_length_le (by omega)
  have e2 := List.take_add_one (l := path) (i := path.length - 1)
  rw [e1] at e2
  have e3 : path[path.length - 1]?.toList = [path.getD (path.length - 1) []] := by
    rw [List.getElem?_eq_getElem (by omega)]
    simp [List.getD, List.getElem?_eq_getElem (show path.length - 1 < path.length by omega)]
  rw [e3] at e2
  exact e2
end Go.Proofs.YthpnenblmkdmcaaDoor

/- The document's tells, where the way ends. -/
namespace Go.Proofs.YthpnenblmkdmcaaDoor
set_option linter.unusedSimpArgs false
set_option linter.unusedVariables false
open Go.RowKit Go.Deep

/-- its own boxes: old, and the two results'. -/
theorem tells_boxes (old : List Int) (w w1 : World) (hw1 : w1 = ((w.alloc (.cells (rowV 32 (arrV old)) 29)).alloc (.cells (rowV 32 (fun _ => .int .u8 0)) 29)).alloc (.cells (rowV 32 (fun _ => .int .u8 0)) 29)) :
    Below w.heap.size w w1 ∧ w1.heap.size = w.heap.size + 3 ∧ w1.rowIs w.heap.size 29 32 (arrV old) ∧ w1.rowIs (w.heap.size + 1) 29 32 (fun _ => .int .u8 0) ∧ w1.rowIs (w.heap.size + 2) 29 32 (fun _ => .int .u8 0) := by
  subst hw1
  refine ⟨((((Below.refl _ _).alloc (Nat.le_refl _) _).alloc (by simp) _).alloc (by first | (simp; done) | (simp; omega)) _), by simp, ?_, ?_, ?_⟩
  · have r1 := rowIs_box w 29 32 (arrV old)
    exact (((Below.refl (w.alloc (.cells (rowV 32 (arrV old)) 29)).heap.size _).alloc (Nat.le_refl _) _).alloc (by simp) _).row r1 (by simp)
  · have r1 := rowIs_box (w.alloc (.cells (rowV 32 (arrV old)) 29)) 29 32 (fun _ => .int .u8 0)
    rw [World.size_alloc] at r1
    exact (((Below.refl ((w.alloc (.cells (rowV 32 (arrV old)) 29)).alloc (.cells (rowV 32 (fun _ => .int .u8 0)) 29)).heap.size _).alloc (Nat.le_refl _) _)).row r1 (by simp)
  · have r1 := rowIs_box ((w.alloc (.cells (rowV 32 (arrV old)) 29)).alloc (.cells (rowV 32 (fun _ => .int .u8 0)) 29)) 29 32 (fun _ => .int .u8 0)
    rw [World.size_alloc, World.size_alloc] at r1
    exact r1
set_option maxHeartbeats 2000000 in
set_option maxRecDepth 100000 in
theorem tells_first (m : Int) (old : List Int) (pv : Value) (w : World) :
    Calls Tryd.prog 30 #[.int .i64 m, .int .i64 m, .bool true, sumV old, pv] w fun e w' => e = .returned (.tuple #[sumV old, sumV old]) ∧ Below w.heap.size w w' := by
  have hz32 := zero_s32
  obtain ⟨w1, hw1⟩ : ∃ w1, w1 = ((w.alloc (.cells (rowV 32 (arrV old)) 29)).alloc (.cells (rowV 32 (fun _ => .int .u8 0)) 29)).alloc (.cells (rowV 32 (fun _ => .int .u8 0)) 29) := ⟨_, rfl⟩
  obtain ⟨b1, z1, r8, r10, r11⟩ := tells_boxes old w w1 hw1
  unfold sumV
  have B1 : Hid (Below w.heap.size w w1) := (show Below w.heap.size w w1 from b1)
  have Z1 : Hid (w1.heap.size = w.heap.size + 3) := (show w1.heap.size = w.heap.size + 3 from z1)
  have R8 : Hid (w1.rowIs w.heap.size 29 32 (arrV old)) := (show w1.rowIs w.heap.size 29 32 (arrV old) from r8)
  have R10 : Hid (w1.rowIs (w.heap.size + 1) 29 32 (fun _ => .int .u8 0)) := (show w1.rowIs (w.heap.size + 1) 29 32 (fun _ => .int .u8 0) from r10)
  have R11 : Hid (w1.rowIs (w.heap.size + 2) 29 32 (fun _ => .int .u8 0)) := (show w1.rowIs (w.heap.size + 2) 29 32 (fun _ => .int .u8 0) from r11)
  clear b1 z1 r8 r10 r11
  go_enter Tryd.func30, Tryd.ntmps30
  go_upto_region 1 with fail
  rw [← hw1]
  clear hw1
  go_upto_region 3 with fail
  refine wp_region_noPanic ?_
  refine wp_region_held_drew (S := fun w' => w'.rowIs w.heap.size 29 32 (arrV old)) (by kernel_rfl) R8.out (fun hHeld => ?_)
  refine take_load (i := 0) rfl (by kernel_rfl) (by kernel_rfl) (by kernel_rfl) 29 _ rfl w.heap.size 0 32 (arrV old) rfl _ Tryd.underlying29 rfl (by kernel_rfl) (fun _ _ _ h => h) rfl hHeld (fun wz hz j hj => by rw [Nat.zero_add]; exact World.rowIs.cell hz hj) ?_
  try simp only [Act.put, List.setIfInBounds_toArray, List.set_cons_zero, List.set_cons_succ]
  refine take_load (i := 1) rfl (by kernel_rfl) (by kernel_rfl) (by kernel_rfl) 29 _ rfl w.heap.size 0 32 (arrV old) rfl _ Tryd.underlying29 rfl (by kernel_rfl) (fun _ _ _ h => h) rfl hHeld (fun wz hz j hj => by rw [Nat.zero_add]; exact World.rowIs.cell hz hj) ?_
  try simp only [Act.put, List.setIfInBounds_toArray, List.set_cons_zero, List.set_cons_succ]
  obtain ⟨V1, hst, rV1, zV1, bV1⟩ := tell_store (q := old) (show w1.drew.rowIs (w.heap.size + 1) 29 32 (fun _ => .int .u8 0) from R10.out)
  refine take_one (i := 2) rfl (by kernel_rfl) rfl (fun K hK => ?_)
  unfold Oper.wp execOp
  simp only [Instr.storeAt, Instr.sureAddr, Sem.run_bind, Sem.run_pure, Result.andThen_ok]
  simp [Act.eval, hst, Oper.upon]
  clear hst
  have zd : w1.drew.heap.size = w1.heap.size := rfl
  have y11 := bV1.row (show w1.drew.rowIs (w.heap.size + 2) 29 32 (fun _ => .int .u8 0) from R11.out) (by have := Z1.out; omega) (by omega)
  have y8 := bV1.row (show w1.drew.rowIs w.heap.size 29 32 (arrV old) from R8.out) (by have := Z1.out; omega) (by omega)
  refine hK.out _ _ y8 (fun hHeld => ?_)
  clear hK K
  try simp only [Act.put, List.setIfInBounds_toArray, List.set_cons_zero, List.set_cons_succ]
  obtain ⟨V2, hst, rV2, zV2, bV2⟩ := tell_store (q := old) y11
  refine take_one (i := 3) rfl (by kernel_rfl) rfl (fun K hK => ?_)
  unfold Oper.wp execOp
  simp only [Instr.storeAt, Instr.sureAddr, Sem.run_bind, Sem.run_pure, Result.andThen_ok]
  simp [Act.eval, hst, Oper.upon]
  clear hst
  have y10 := bV2.row rV1 (by have := Z1.out; omega) (by omega)
  have y8' := bV2.row y8 (by have := Z1.out; omega) (by omega)
  refine hK.out _ _ y8' (fun hHeld => ?_)
  clear hK K
  try simp only [Act.put, List.setIfInBounds_toArray, List.set_cons_zero, List.set_cons_succ]
  refine wpAnyH_done (by kernel_rfl) ?_ _
  refine NoPanic.normal ?_
  have bb : Below w.heap.size w V2 := by
    have h1 := B1.out
    have h2 := Z1.out
    have hs := h1.size
    exact ⟨bV2.os.trans (bV1.os.trans h1.os), bV2.tape.trans (bV1.tape.trans h1.tape), bV2.output.trans (bV1.output.trans h1.output), by omega, fun j hj => (bV2.block j (by omega) (by omega)).trans ((bV1.block j (by omega) (by omega)).trans (h1.block j hj))⟩
  have BB : Hid (Below w.heap.size w V2) := (show Below w.heap.size w V2 from bb)
  have Y10 : Hid (V2.rowIs (w.heap.size + 1) 29 32 (arrV old)) := (show V2.rowIs (w.heap.size + 1) 29 32 (arrV old) from y10)
  have Y11 : Hid (V2.rowIs (w.heap.size + 2) 29 32 (arrV old)) := (show V2.rowIs (w.heap.size + 2) 29 32 (arrV old) from rV2)
  clear bb y10 y8 y8' y11 rV1 rV2 bV1 bV2 zV1 zV2 zd hHeld
  go_wp2
  exact bodyPost_ret (results_two_cells rfl _ _ (w.heap.size + 1) (w.heap.size + 2) 29 (arrV old) (arrV old) 32 _ rfl rfl Tryd.underlying29 rfl hi32' Y10.out Y11.out) rfl ⟨rfl, BB.out⟩
end Go.Proofs.YthpnenblmkdmcaaDoor

/- The document's tells, where the way ends behind something left aside to the left. -/
namespace Go.Proofs.YthpnenblmkdmcaaDoor
set_option linter.unusedSimpArgs false
set_option linter.unusedVariables false
open Go.RowKit Go.Deep

set_option maxHeartbeats 2000000 in
set_option maxRecDepth 100000 in
theorem tells_last (m : Int) (old z : List Int) (q : List (List Int)) (pv : Value) (w : World) (h : sumsAt w pv (z :: q)) :
    Calls Tryd.prog 30 #[.int .i64 m, .int .i64 m, .bool false, sumV old, pv] w fun e w' => e = .returned (.tuple #[sumV z, sumV z]) ∧ Below w.heap.size w w' := by
  have hz32 := zero_s32
  obtain ⟨_, a, cap, rfl, hc1, hc2, h5⟩ := h
  obtain ⟨g, o, rfl, hg, hcell⟩ := h5 (by simp)
  have hcz : ∀ j, j < 32 → w.cell? ⟨g, o + j, none⟩ = some (arrV z j) := fun j hj => by
    have := hcell 0 (by simp) j hj
    simpa using this
  have HG : Hid (g < w.heap.size ∧ ∀ j, j < 32 → w.cell? ⟨g, o + j, none⟩ = some (arrV z j)) := (show _ ∧ _ from ⟨hg, hcz⟩)
  have hq0 : (0 : Int) < ((z :: q).length : Int) := by simp only [List.length_cons]; omega
  generalize (z :: q).length = n at hq0
  have hq1 : 0 < n := by omega
  clear h5 hcell hcz hc1 hc2 hg
  obtain ⟨w1, hw1⟩ : ∃ w1, w1 = ((w.alloc (.cells (rowV 32 (arrV old)) 29)).alloc (.cells (rowV 32 (fun _ => .int .u8 0)) 29)).alloc (.cells (rowV 32 (fun _ => .int .u8 0)) 29) := ⟨_, rfl⟩
  obtain ⟨b1, z1, r8, r10, r11⟩ := tells_boxes old w w1 hw1
  unfold sumV
  have B1 : Hid (Below w.heap.size w w1) := (show Below w.heap.size w w1 from b1)
  have Z1 : Hid (w1.heap.size = w.heap.size + 3) := (show w1.heap.size = w.heap.size + 3 from z1)
  have R8 : Hid (w1.rowIs w.heap.size 29 32 (arrV old)) := (show w1.rowIs w.heap.size 29 32 (arrV old) from r8)
  have R10 : Hid (w1.rowIs (w.heap.size + 1) 29 32 (fun _ => .int .u8 0)) := (show w1.rowIs (w.heap.size + 1) 29 32 (fun _ => .int .u8 0) from r10)
  have R11 : Hid (w1.rowIs (w.heap.size + 2) 29 32 (fun _ => .int .u8 0)) := (show w1.rowIs (w.heap.size + 2) 29 32 (fun _ => .int .u8 0) from r11)
  clear b1 z1 r8 r10 r11
  go_enter Tryd.func30, Tryd.ntmps30
  go_upto_region 1 with fail
  rw [← hw1]
  clear hw1
  go_upto_region 4 with fail
  refine wp_region_noPanic ?_
  have hS1 : ∀ j, j < 32 → w1.cell? ⟨g, o + j, none⟩ = some (arrV z j) := fun j hj => (B1.out.cell (p := ⟨g, o + j, none⟩) HG.out.1).trans (HG.out.2 j hj)
  refine wp_region_held_drew (S := fun w' => ∀ j, j < 32 → w'.cell? ⟨g, o + j, none⟩ = some (arrV z j)) (by kernel_rfl) hS1 (fun hHeld => ?_)
  refine take_op (i := 0) (v := ?va0) rfl (by kernel_rfl) (by kernel_rfl) (by kernel_rfl) (fun _ _ _ h => h) rfl hHeld ?ya0 ?ra0
  case ya0 => (intro wz hz; go_simp; first | done | with_reducible rfl)
  try simp only [Act.put, List.setIfInBounds_toArray, List.set_cons_zero, List.set_cons_succ]
  refine take_op (i := 1) (v := ?va1) rfl (by kernel_rfl) (by kernel_rfl) (by kernel_rfl) (fun _ _ _ h => h) rfl hHeld ?ya1 ?ra1
  case ya1 => (intro wz hz; go_simp; first | done | with_reducible rfl)
  try simp only [Act.put, List.setIfInBounds_toArray, List.set_cons_zero, List.set_cons_succ]
  refine take_load (S := fun w' => ∀ j, j < 32 → w'.cell? ⟨g, o + j, none⟩ = some (arrV z j)) (i := 2) rfl (by kernel_rfl) (by kernel_rfl) (by kernel_rfl) 29 _ rfl g o 32 (arrV z) rfl _ Tryd.underlying29 rfl (by kernel_rfl) (fun _ _ _ h => h) rfl hHeld (fun wz hz j hj => hz j hj) ?_
  try simp only [Act.put, List.setIfInBounds_toArray, List.set_cons_zero, List.set_cons_succ]
  refine take_op (i := 3) (v := ?va3) rfl (by kernel_rfl) (by kernel_rfl) (by kernel_rfl) (fun _ _ _ h => h) rfl hHeld ?ya3 ?ra3
  case ya3 => (intro wz hz; go_simp; first | done | with_reducible rfl)
  try simp only [Act.put, List.setIfInBounds_toArray, List.set_cons_zero, List.set_cons_succ]
  refine take_op (i := 4) (v := ?va4) rfl (by kernel_rfl) (by kernel_rfl) (by kernel_rfl) (fun _ _ _ h => h) rfl hHeld ?ya4 ?ra4
  case ya4 => (intro wz hz; go_simp; first | done | with_reducible rfl)
  try simp only [Act.put, List.setIfInBounds_toArray, List.set_cons_zero, List.set_cons_succ]
  refine take_load (S := fun w' => ∀ j, j < 32 → w'.cell? ⟨g, o + j, none⟩ = some (arrV z j)) (i := 5) rfl (by kernel_rfl) (by kernel_rfl) (by kernel_rfl) 29 _ rfl g o 32 (arrV z) rfl _ Tryd.underlying29 rfl (by kernel_rfl) (fun _ _ _ h => h) rfl hHeld (fun wz hz j hj => hz j hj) ?_
  try simp only [Act.put, List.setIfInBounds_toArray, List.set_cons_zero, List.set_cons_succ]
  obtain ⟨V1, hst, rV1, zV1, bV1⟩ := tell_store (q := z) (show w1.drew.rowIs (w.heap.size + 1) 29 32 (fun _ => .int .u8 0) from R10.out)
  refine take_one (i := 6) rfl (by kernel_rfl) rfl (fun K hK => ?_)
  unfold Oper.wp execOp
  simp only [Instr.storeAt, Instr.sureAddr, Sem.run_bind, Sem.run_pure, Result.andThen_ok]
  simp [Act.eval, hst, Oper.upon]
  clear hst
  have zd : w1.drew.heap.size = w1.heap.size := rfl
  have y11 := bV1.row (show w1.drew.rowIs (w.heap.size + 2) 29 32 (fun _ => .int .u8 0) from R11.out) (by have := Z1.out; omega) (by omega)
  have y8 : ∀ j, j < 32 → V1.cell? ⟨g, o + j, none⟩ = some (arrV z j) := fun j hj => by
    have e := bV1.block g (by have := Z1.out; have := HG.out.1; omega) (by have := HG.out.1; omega)
    have e2 := hS1 j hj
    unfold World.cell? at e2 ⊢
    rw [show V1.heap[g]? = w1.heap[g]? from e]
    exact e2
  refine hK.out _ _ y8 (fun hHeld => ?_)
  clear hK K
  try simp only [Act.put, List.setIfInBounds_toArray, List.set_cons_zero, List.set_cons_succ]
  obtain ⟨V2, hst, rV2, zV2, bV2⟩ := tell_store (q := z) y11
  refine take_one (i := 7) rfl (by kernel_rfl) rfl (fun K hK => ?_)
  unfold Oper.wp execOp
  simp only [Instr.storeAt, Instr.sureAddr, Sem.run_bind, Sem.run_pure, Result.andThen_ok]
  simp [Act.eval, hst, Oper.upon]
  clear hst
  have y10 := bV2.row rV1 (by have := Z1.out; omega) (by omega)
  have y8' : ∀ j, j < 32 → V2.cell? ⟨g, o + j, none⟩ = some (arrV z j) := fun j hj => by
    have e := bV2.block g (by have := Z1.out; have := HG.out.1; omega) (by have := HG.out.1; omega)
    have e2 := y8 j hj
    unfold World.cell? at e2 ⊢
    rw [show V2.heap[g]? = V1.heap[g]? from e]
    exact e2
  refine hK.out _ _ y8' (fun hHeld => ?_)
  clear hK K
  try simp only [Act.put, List.setIfInBounds_toArray, List.set_cons_zero, List.set_cons_succ]
  refine wpAnyH_done (by kernel_rfl) ?_ _
  refine NoPanic.normal ?_
  have bb : Below w.heap.size w V2 := by
    have h1 := B1.out
    have h2 := Z1.out
    have hs := h1.size
    exact ⟨bV2.os.trans (bV1.os.trans h1.os), bV2.tape.trans (bV1.tape.trans h1.tape), bV2.output.trans (bV1.output.trans h1.output), by omega, fun j hj => (bV2.block j (by omega) (by omega)).trans ((bV1.block j (by omega) (by omega)).trans (h1.block j hj))⟩
  have BB : Hid (Below w.heap.size w V2) := (show Below w.heap.size w V2 from bb)
  have Y10 : Hid (V2.rowIs (w.heap.size + 1) 29 32 (arrV z)) := (show V2.rowIs (w.heap.size + 1) 29 32 (arrV z) from y10)
  have Y11 : Hid (V2.rowIs (w.heap.size + 2) 29 32 (arrV z)) := (show V2.rowIs (w.heap.size + 2) 29 32 (arrV z) from rV2)
  clear bb y10 y8 y8' y11 rV1 rV2 bV1 bV2 zV1 zV2 zd hHeld hS1
  go_wp2
  exact bodyPost_ret (results_two_cells rfl _ _ (w.heap.size + 1) (w.heap.size + 2) 29 (arrV z) (arrV z) 32 _ rfl rfl Tryd.underlying29 rfl hi32' Y10.out Y11.out) rfl ⟨rfl, BB.out⟩
end Go.Proofs.YthpnenblmkdmcaaDoor

/- grow.Between of no book. -/
namespace Go.Proofs.YthpnenblmkdmcaaDoor
set_option linter.unusedSimpArgs false
set_option linter.unusedVariables false
open Go.RowKit Go.Deep Go.Shelf
attribute [local go_sem] Oper.semAt_some

/-- values that are slices of these lists. -/
def allS (w : World) (vs : List Value) (Ls : List (List (List Int))) : Prop := vs.length = Ls.length ∧ ∀ (i : Nat) (u : Value) (K : List (List Int)), vs[i]? = some u → Ls[i]? = some K → sumsAt w u K
theorem allS.nil (w : World) : allS w [] [] := ⟨rfl, fun i u K h _ => by simp at h⟩
theorem allS.snoc {w : World} {vs : List Value} {Ls : List (List (List Int))} {u : Value} {K : List (List Int)} (h : allS w vs Ls) (hu : sumsAt w u K) : allS w (vs ++ [u]) (Ls ++ [K]) := by
  obtain ⟨h1, h2⟩ := h
  refine ⟨by simp [h1], fun i u' K' hi hK => ?_⟩
  by_cases e : i < vs.length
  · rw [List.getElem?_append_left e] at hi
    rw [List.getElem?_append_left (by omega)] at hK
    exact h2 i u' K' hi hK
  · rw [List.getElem?_append_right (by omega)] at hi
    rw [List.getElem?_append_right (by omega), ← h1] at hK
    cases hq : i - vs.length with
    | zero =>
      rw [hq] at hi hK
      have e1 : u = u' := by simpa using hi
      have e2 : K = K' := by simpa using hK
      rw [← e1, ← e2]; exact hu
    | succ j => rw [hq] at hi; simp at hi
theorem infoSs : (Tryd.prog.info? 22).map (fun i => (i.zero, i.size, i.bytes)) = some (some (.slice none 0 0), 1, 24) := by kernel_rfl
theorem ss_append (w0 w : World) (v u : Value) (vs : List Value) (hv : owns w w0.heap.size 22 v vs) (hu : u.oneCell' = true) (hs : vs.length < 100) (hb : Below w0.heap.size w0 w) :
    ∃ a c w', (Builtin.append_ #[49, 49] 49 #[v, .slice (some ⟨w.heap.size, 0, none⟩) 1 1]).run Tryd.prog (w.alloc (.cells #[u] 22)) = .ok (.slice a (vs.length + 1) c) w' ∧ owns w' w0.heap.size 22 (.slice a (vs.length + 1) c) (vs ++ [u]) ∧ Below w0.heap.size w0 w' := by
  have b0 : Below w.heap.size w (w.alloc (.cells #[u] 22)) := (Below.refl _ _).alloc (Nat.le_refl _) _
  have sz := hb.size
  have h1 := hv.alloc (.cells #[u] 22)
  obtain ⟨a, c, w', hr, ho, hg, hat⟩ := row_append (P := Tryd.prog) (w.alloc (.cells #[u] 22)) 49 49 22 (.slice none 0 0) 1 24 Tryd.underlying49 infoSs rfl (by omega)
    w0.heap.size v vs.length vs h1 (.slice (some ⟨w.heap.size, 0, none⟩) 1 1) 1 [u] rfl
    ⟨_, _, rfl, fun _ => ⟨w.heap.size, 0, rfl, fun j x hx => by
      match j with
      | 0 =>
        have : u = x := by simpa using hx
        subst this; exact one_cell w _ _
      | j + 1 => simp at hx⟩⟩
    (fun x hx => by
      have : x = u := by simpa using hx
      subst this; exact hu) (by unfold maxLen; omega) (by omega) (by simp; omega)
  exact ⟨a, c, w', hr, by unfold owns; rw [List.length_append]; exact ho, (hb.trans (b0.mono sz)).trans (below_grown hg (fun k hk => (hv.block k hk).1) (by simp; omega))⟩
/-- behind k steps of Between's first loop. -/
def betAt (w : World) (Y : List (Nat × Bool)) (L : List (List Int)) (k : Nat) (lv sv : Value) (W : World) : Prop :=
  ∃ vs m, sumsAt w lv (gKeptF (Y.take k) L) ∧ Y.drop k = gI m (gKeptF (Y.take k) L).length ∧ owns W w.heap.size 22 sv vs ∧ allS w vs (gDown (Y.take k) L) ∧ Below w.heap.size w W
theorem backL_any (va : Option Addr) (vn vc : Nat) (w : World) : Calls Tryd.prog 23 #[.slice va vn vc] w fun e w' => e = .returned (.func (.func 38) #[] #[.pointer (some ⟨w.heap.size, 0, none⟩)]) ∧ w' = w.alloc (.cells #[.slice va vn vc] 49) := by
  have hmf : ∀ (fn : Fn) (first cap : Array Value) (w : World), (Instr.makeFunc fn first cap).run Tryd.prog w = .ok (.func fn first cap) w := fun _ _ _ _ => rfl
  go_enter Tryd.func23, Tryd.ntmps23
  go_wp2
  go_ret
  exact ⟨rfl, rfl⟩
/-- behind k rounds of Between's second loop; w5: ahead of the path's box, its block pb. -/
def betI (kb D : Nat) (w5 : World) (sv : Value) (SH : List (List (List Int))) (k : Nat) (W : World) : Prop :=
  ∃ pv, W.rowIs kb 30 1 (fun _ => .pointer none) ∧ W.rowIs w5.heap.size 22 1 (fun _ => pv) ∧ W.rowIs (w5.heap.size + 1) 49 1 (fun _ => sv) ∧
    newSums W (D + 2) pv ((SH.reverse.take k).map rootS) ∧ Below w5.heap.size w5 W ∧ D + 1 < W.heap.size + 2
theorem betI.keep {kb D : Nat} {w5 : World} {sv : Value} {SH : List (List (List Int))} {k : Nat} {W W' : World} (h : betI kb D w5 sv SH k W) (hk : kb < w5.heap.size) (hD : D = w5.heap.size + 2)
    (ho : W'.os = W.os ∧ W'.tape = W.tape ∧ W'.output = W.output) (hs : W.heap.size ≤ W'.heap.size) (hb : ∀ j, j < W.heap.size → j ≠ D → j ≠ D + 1 → W'.heap[j]? = W.heap[j]?) : betI kb D w5 sv SH k W' := by
  obtain ⟨pv, h1, h2, h3, h4, h5, h6⟩ := h
  have hz := h5.size
  have l2 := gRow_lt h2
  have l3 := gRow_lt h3
  exact ⟨pv, World.rowIs.of_block h1 (hb _ (by omega) (by omega) (by omega)), World.rowIs.of_block h2 (hb _ (by omega) (by omega) (by omega)), World.rowIs.of_block h3 (hb _ (by omega) (by omega) (by omega)),
    h4.far (fun j hj => by have := h4.block j hj; exact hb j (by omega) (by omega) (by omega)), ⟨ho.1.trans h5.os, ho.2.1.trans h5.tape, ho.2.2.trans h5.output, by omega, fun j hj => (hb j (by omega) (by omega) (by omega)).trans (h5.block j hj)⟩, by omega⟩
theorem betI.step {kb D : Nat} {w5 : World} {sv : Value} {SH : List (List (List Int))} {k : Nat} {W : World} {pv u : Value} {K : List (List Int)} (hkb : kb < w5.heap.size) (hD : D = w5.heap.size + 2) (ht : tabIs w5) (hS : SH.length ≤ 100)
    (h1 : W.rowIs kb 30 1 (fun _ => .pointer none)) (h2 : W.rowIs w5.heap.size 22 1 (fun _ => pv)) (h3 : W.rowIs (w5.heap.size + 1) 49 1 (fun _ => sv))
    (h4 : newSums W (D + 2) pv ((SH.reverse.take k).map rootS)) (h5 : Below w5.heap.size w5 W) (h6 : D + 1 < W.heap.size) (hk : SH.reverse[k]? = some K) (hu : sumsAt W u K) (hK : K.length ≤ 1000) :
    Calls Tryd.prog 18 #[.pointer none, u] W fun e wR => e = .returned (.agg (rowV 32 (arrV (rootS K)))) ∧ wR.rowIs w5.heap.size 22 1 (fun _ => pv) ∧ wR.rowIs kb 30 1 (fun _ => .pointer none) ∧
      ∀ wS, wS = wR.alloc (.cells (rowV 32 (arrV (rootS K))) 29) → wS.rowIs w5.heap.size 22 1 (fun _ => pv) ∧ wS.rowIs kb 30 1 (fun _ => .pointer none) ∧
        ∃ a m cp w8, (Builtin.append_ #[22, 22] 22 #[pv, .slice (some ⟨wR.heap.size, 0, none⟩) 1 1]).run Tryd.prog wS = .ok (.slice a m cp) w8 ∧ w8.rowIs w5.heap.size 22 1 (fun _ => pv) ∧ w8.rowIs kb 30 1 (fun _ => .pointer none) ∧
          ∀ w9, w9 = w8.setCell ⟨w5.heap.size, 0, none⟩ (.slice a m cp) → w9.rowIs kb 30 1 (fun _ => .pointer none) ∧ w9.heap[D]? = W.heap[D]? ∧ w9.heap[D + 1]? = W.heap[D + 1]? ∧ betI kb D w5 sv SH (k + 1) w9 := by
  have hz := h5.size
  have tW : tabIs W := ht.below h5 ht.1
  refine (root_nil 1000 K u W hK (Nat.le_refl _) hu tW).mono ?_
  rintro e wR ⟨rfl, bR⟩
  have zR := bR.size
  have n1 := h4.below bR (Nat.le_refl _)
  have r2 := bR.row h2 (by omega)
  have r1 := bR.row h1 (by omega)
  have r3 := bR.row h3 (by omega)
  refine ⟨rfl, r2, r1, ?_⟩
  rintro wS rfl
  have bS : Below wR.heap.size wR (wR.alloc (.cells (rowV 32 (arrV (rootS K))) 29)) := (Below.refl _ _).alloc (Nat.le_refl _) _
  have hq : isSum (rootS K) := rootS_sum hu.1
  have hl : ((SH.reverse.take k).map rootS).length = k := by
    have := (List.getElem?_eq_some_iff.1 hk).1
    rw [List.length_map, List.length_take]; omega
  have hkl : k < SH.length := by
    have := (List.getElem?_eq_some_iff.1 hk).1
    simpa using this
  obtain ⟨a, c, w8, hr, hn, hg, hat⟩ := sums_append _ (D + 2) _ _ (n1.below bS (Nat.le_refl _)) _ _ (one_sum wR (rootS K) hq) (by rw [hl]; simp; omega) (by simp; omega)
  have hpv : ∀ j, pv.ownBlock = some j → D + 2 ≤ j := fun j hj => (h4.block j hj).1
  have b8 : Below (D + 2) W w8 := (((bR.mono (by omega)).trans (bS.mono (by omega))).trans (below_grown hg hpv (by simp; omega)))
  have s2 := bS.row r2 (by omega)
  have s1 := bS.row r1 (by omega)
  have t2 := b8.row h2 (by omega)
  have t1 := b8.row h1 (by omega)
  have t3 := b8.row h3 (by omega)
  have hl1 : ((SH.reverse.take k).map rootS).length + [rootS K].length = k + 1 := by rw [hl]; rfl
  rw [hl1] at hr hn
  refine ⟨s2, s1, a, k + 1, c, w8, hr, t2, t1, ?_⟩
  rintro w9 rfl
  have hne : ∀ j, j ≠ w5.heap.size → (w8.setCell ⟨w5.heap.size, 0, none⟩ (.slice a (k + 1) c)).heap[j]? = w8.heap[j]? := fun j hj => blk_setCell_other _ _ _ _ (fun e => hj (by have : j = w5.heap.size := e; exact this))
  have hsz : (w8.setCell ⟨w5.heap.size, 0, none⟩ (.slice a (k + 1) c)).heap.size = w8.heap.size := World.size_setCell _ _ _
  have z8 := b8.size
  refine ⟨World.rowIs.of_block t1 (hne _ (by omega)), (hne _ (by omega)).trans (b8.block _ (by omega)), (hne _ (by omega)).trans (b8.block _ (by omega)), _, World.rowIs.of_block t1 (hne _ (by omega)), gRow_set0 t2 _, World.rowIs.of_block t3 (hne _ (by omega)), ?_, ?_, by omega⟩
  · rw [List.take_add_one, hk, Option.toList_some, List.map_append, List.map_singleton]
    exact hn.far (fun j hj => hne j (by have := hn.block j hj; omega))
  · exact (h5.trans (b8.mono (by omega))).setCell (Nat.le_refl _) _
end Go.Proofs.YthpnenblmkdmcaaDoor
