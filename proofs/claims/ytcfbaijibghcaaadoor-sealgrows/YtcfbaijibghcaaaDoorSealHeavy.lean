import Derived.Test.YtcfbaijibghcaaaDoorSealAwake
/- The laws' own helpers: heavy, alike. -/
namespace Go.Proofs.YtcfbaijibghcaaaDoor
set_option linter.unusedSimpArgs false
set_option linter.unusedVariables false
open Go.RowKit Go.Deep

/-- an act. -/
structure AR where
  what : Int
  kind : Int
  n : Nat
  ps : Nat → List Int
  sum : List Int
  bytes : List Int
def actV (d k : Int) (pv bv : Value) (q : List Int) (j : Nat) : Value := if j = 0 then .int .i64 d else if j = 1 then .int .i64 k else if j = 2 then pv else if j < 35 then arrV q (j - 3) else bv
def actAt (w : World) (b o : Nat) (x : AR) : Prop :=
  ∃ pv bv, (∀ j, j < 36 → w.cell? ⟨b, o + j, none⟩ = some (actV x.what x.kind pv bv x.sum j)) ∧ anyParts w pv x.n x.ps ∧ anyBytes w bv x.bytes ∧ isSum x.sum
/-- v is a slice of acts. -/
def isActs (w : World) (v : Value) (n : Nat) (acts : Nat → AR) : Prop :=
  (v = .slice none 0 0 ∧ n = 0) ∨ ∃ qb qo cap : Nat, v = .slice (some ⟨qb, qo, none⟩) n cap ∧ qb < w.heap.size ∧ n ≤ cap ∧ cap ≤ maxLen ∧ ∀ i, i < n → actAt w qb (qo + i * 36) (acts i)
theorem actAt.below {w w' : World} {B b o : Nat} {x : AR} (h : actAt w b o x) (hb : Below B w w') (hB : w.heap.size ≤ B) (hl : b < w.heap.size) : actAt w' b o x := by
  obtain ⟨pv, bv, h1, h2, h3, h4⟩ := h
  exact ⟨pv, bv, fun j hj => by rw [hb.cell (p := ⟨b, o + j, none⟩) (Nat.lt_of_lt_of_le hl hB)]; exact h1 j hj, h2.below hb hB, h3.below hb hB, h4⟩
theorem isActs.below {w w' : World} {B : Nat} {v : Value} {n : Nat} {acts : Nat → AR} (h : isActs w v n acts) (hb : Below B w w') (hB : w.heap.size ≤ B) : isActs w' v n acts := by
  rcases h with h | ⟨qb, qo, cap, h1, h2, h3, h4, h5⟩
  · exact Or.inl h
  · exact Or.inr ⟨qb, qo, cap, h1, Nat.lt_of_lt_of_le h2 hb.size, h3, h4, fun i hi => (h5 i hi).below hb hB h2⟩
theorem isActs.open {w : World} {v : Value} {n : Nat} {acts : Nat → AR} (h : isActs w v n acts) : ∃ a cap, v = .slice a n cap ∧ n ≤ cap ∧ cap ≤ maxLen ∧ ∀ i, i < n → ∃ qb qo, a = some ⟨qb, qo, none⟩ ∧ qb < w.heap.size ∧ actAt w qb (qo + i * 36) (acts i) := by
  rcases h with ⟨rfl, rfl⟩ | ⟨qb, qo, cap, rfl, h2, h3, h4, h5⟩
  · exact ⟨_, _, rfl, Nat.le_refl _, Nat.zero_le _, fun k hk => by omega⟩
  · exact ⟨_, _, rfl, h3, h4, fun k hk => ⟨qb, qo, rfl, h2, h5 k hk⟩⟩
/-- how many bytes acts have. -/
def wtA (acts : Nat → AR) : Nat → Nat
  | 0 => 0
  | k + 1 => wtA acts k + (acts k).bytes.length + (flatTo (acts k).ps (acts k).n).length
theorem wtA_mono (acts : Nat → AR) : ∀ n i, i ≤ n → wtA acts i ≤ wtA acts n
  | 0, i, h => by obtain rfl : i = 0 := by omega
                  exact Nat.le_refl _
  | n + 1, i, h => by
    by_cases e : i = n + 1
    · subst e; exact Nat.le_refl _
    · have := wtA_mono acts n i (by omega)
      rw [wtA]; omega
theorem wtA_one (acts : Nat → AR) (n i : Nat) (h : i < n) : (acts i).bytes.length + (flatTo (acts i).ps (acts i).n).length ≤ wtA acts n := by
  have := wtA_mono acts n (i + 1) h
  rw [wtA] at this; omega
def lightA (r : Bool) (n : Nat) (acts : Nat → AR) : Prop := r = false → n ≤ 200 ∧ (∀ i, i < n → (acts i).n ≤ 500) ∧ wtA acts n ≤ 60000
def heavyPost (w : World) (n : Nat) (acts : Nat → AR) (e : Ending) (w' : World) : Prop := ∃ r : Bool, e = .returned (.bool r) ∧ w' = w ∧ lightA r n acts
set_option maxHeartbeats 2000000 in
set_option maxRecDepth 100000 in
theorem heavy_any (n : Nat) (v : Value) (acts : Nat → AR) (w : World) (h : isActs w v n acts) :
    Calls Tryd.prog 9 #[v] w fun e w' => heavyPost w n acts e w' := by
  obtain ⟨a, cap, rfl, hc, hm, hact⟩ := h.open
  unfold maxLen at hm
  have q0 : (n : Int) ≤ 9223372036854775807 := by omega
  clear h
  by_cases h200 : 200 < n
  · have q1 : (200 : Int) < (n : Int) := by omega
    go_enter Tryd.func9, Tryd.ntmps9
    go_wp2
    go_ret
    exact ⟨_, rfl, rfl, fun h => by cases h⟩
  · have q1 : (n : Int) ≤ 200 := by omega
    have q1' : ¬ (200 : Int) < (n : Int) := by omega
    go_enter Tryd.func9, Tryd.ntmps9
    go_wp2
    go_loopw [3, 4] (fun z i wr => wr = w ∧ ∃ k : Nat, k ≤ n ∧ i = .int .i64 k ∧ z = .int .i64 (60000 - (wtA acts k : Int)) ∧ wtA acts k ≤ 60000 ∧ ∀ j, j < k → (acts j).n ≤ 500) (fun _ i _ => n - (intOf i).toNat)
    case atStart => exact ⟨rfl, 0, by omega, rfl, rfl, by simp [wtA], fun j hj => by omega⟩
    case round =>
      obtain ⟨hw, k, hk, rfl, rfl, hwt, h500⟩ := hrel
      obtain rfl := hw.symm
      clear hw
      have H5 : Hid (∀ j, j < k → (acts j).n ≤ 500) := (show ∀ j, j < k → (acts j).n ≤ 500 from h500)
      clear h500
      by_cases hlt : k < n
      · obtain ⟨qb, qo, rfl, hqb, pv, bv, hcell, hpv, hbv, hsum⟩ := hact k hlt
        have p0 : (0 : Int) ≤ (k : Int) := by omega
        have p1 : (k : Int) < (n : Int) := by omega
        obtain ⟨pa, pc, rfl, hpm, hpart⟩ := hpv.open
        obtain ⟨ba, bc, rfl, hbm⟩ := hbv.slice
        have c2 : w.cell? ⟨qb, qo + k * 36 + 2, none⟩ = some (.slice pa (acts k).n pc) := hcell 2 (by omega)
        have c35 : w.cell? ⟨qb, qo + k * 36 + 35, none⟩ = some (.slice ba (acts k).bytes.length bc) := hcell 35 (by omega)
        obtain ⟨T, hT⟩ : ∃ T, T = wtA acts k := ⟨_, rfl⟩
        obtain ⟨bl, hbl⟩ : ∃ bl, bl = (acts k).bytes.length := ⟨_, rfl⟩
        obtain ⟨pn, hpn⟩ : ∃ pn, pn = (acts k).n := ⟨_, rfl⟩
        rw [← hT] at hwt ⊢
        rw [← hbl] at c35 hbm
        rw [← hpn] at c2 hpart hpm
        unfold maxLen at hbm hpm
        have HT : Hid (T = wtA acts k) := (show T = wtA acts k from hT)
        have HL : Hid (bl = (acts k).bytes.length) := (show bl = (acts k).bytes.length from hbl)
        have HN : Hid (pn = (acts k).n) := (show pn = (acts k).n from hpn)
        have HP : Hid _ := hpart
        have i1 : (bl : Int) ≤ 9223372036854775807 := by omega
        have i2 : (pn : Int) ≤ 9223372036854775807 := by omega
        have i3 : (T : Int) ≤ 60000 := by omega
        have i4 : (0 : Int) ≤ (bl : Int) := by omega
        have i5 : (0 : Int) ≤ (T : Int) := by omega
        clear hT hbl hpn hcell hpv hbv hpart hact
        by_cases hpn5 : 500 < pn
        · have i6 : (500 : Int) < (pn : Int) := by omega
          go_wp2
          go_ret
          exact ⟨_, rfl, rfl, fun h => by cases h⟩
        · have i6 : ¬ (500 : Int) < (pn : Int) := by omega
          have i7 : (60000 : Int) - (T : Int) - (bl : Int) ≤ 60000 := by omega
          have i8 : (-9223372036854775807 : Int) ≤ (60000 : Int) - (T : Int) - (bl : Int) := by omega
          obtain ⟨ps, hps⟩ : ∃ ps, ps = (acts k).ps := ⟨_, rfl⟩
          rw [← hps] at HP
          have HPS : Hid (ps = (acts k).ps) := (show ps = (acts k).ps from hps)
          clear hps hbm hpm
          go_wp2
          go_loopw [3, 5] (fun z i wr => wr = w ∧ ∃ m : Nat, m ≤ pn ∧ i = .int .i64 m ∧ z = .int .i64 (60000 - (T : Int) - (bl : Int) - ((flatTo ps m).length : Int)) ∧ (-9223372036854775807 : Int) ≤ 60000 - (T : Int) - (bl : Int) - ((flatTo ps m).length : Int)) (fun _ i _ => pn - (intOf i).toNat)
          case atStart => exact ⟨rfl, 0, by omega, rfl, by simp [flatTo], by simp [flatTo]; omega⟩
          case round =>
            obtain ⟨hw, m, hm2, rfl, rfl, hlow⟩ := hrel
            obtain rfl := hw.symm
            clear hw
            have j0 : (0 : Int) ≤ (m : Int) := by omega
            by_cases hlt2 : m < pn
            · obtain ⟨pb, po, u, rfl, hpb, hpu, hu⟩ := HP.out m hlt2
              obtain ⟨ua, uc, rfl, hul⟩ := hu.slice
              have hfl : (flatTo ps (m + 1)).length = (flatTo ps m).length + (ps m).length := by rw [flatTo, List.length_append]
              have HFL : Hid _ := hfl
              clear hfl hu
              obtain ⟨fl, hf⟩ : ∃ fl, fl = (flatTo ps m).length := ⟨_, rfl⟩
              obtain ⟨ul, hul2⟩ : ∃ ul, ul = (ps m).length := ⟨_, rfl⟩
              rw [← hf] at hlow ⊢
              rw [← hul2] at hul hpu
              have HF : Hid (fl = (flatTo ps m).length) := (show fl = (flatTo ps m).length from hf)
              have HU : Hid (ul = (ps m).length) := (show ul = (ps m).length from hul2)
              clear hf hul2
              unfold maxLen at hul
              have j1 : (m : Int) < (pn : Int) := by omega
              have j2 : (ul : Int) ≤ 9223372036854775807 := by omega
              by_cases hge : 0 ≤ 60000 - (T : Int) - (bl : Int) - (fl : Int)
              · have j3 : (-9223372036854775807 : Int) ≤ 60000 - (T : Int) - (bl : Int) - (fl : Int) - (ul : Int) := by omega
                have j4 : 60000 - (T : Int) - (bl : Int) - (fl : Int) ≤ 60000 := by omega
                clear hul hlow
                go_wp2
                go_light
                refine ⟨⟨trivial, m + 1, by omega, by go_num, ?_, ?_⟩, by simp [intOf]; omega⟩
                · rw [HFL.out, ← HF.out, ← HU.out]; congr 1; omega
                · rw [HFL.out, ← HF.out, ← HU.out]; omega
              · have j3 : 60000 - (T : Int) - (bl : Int) - (fl : Int) < 0 := by omega
                clear hul
                go_wp2
                go_ret
                exact ⟨_, rfl, rfl, fun h => by cases h⟩
            · obtain rfl : m = pn := by omega
              have j1 : ¬ (m : Int) < (m : Int) := by omega
              obtain ⟨fl, hf⟩ : ∃ fl, fl = (flatTo ps m).length := ⟨_, rfl⟩
              rw [← hf] at hlow ⊢
              have HF : Hid (fl = (flatTo ps m).length) := (show fl = (flatTo ps m).length from hf)
              clear hf
              by_cases hge : 0 ≤ 60000 - (T : Int) - (bl : Int) - (fl : Int)
              · have j3 : ¬ 60000 - (T : Int) - (bl : Int) - (fl : Int) < 0 := by omega
                have hw1 : wtA acts (k + 1) = T + bl + fl := by
                  rw [wtA, ← HT.out, ← HL.out, ← HPS.out, ← HN.out, ← HF.out]
                have HW : Hid _ := hw1
                clear hw1
                go_wp2
                go_light
                refine ⟨⟨trivial, k + 1, by omega, by go_num, ?_, ?_, fun j hj => ?_⟩, by simp [intOf]; omega⟩
                · rw [HW.out]; congr 1; omega
                · rw [HW.out]; omega
                · by_cases e : j < k
                  · exact H5.out j e
                  · obtain rfl : j = k := by omega
                    rw [← HN.out]; omega
              · have j3 : 60000 - (T : Int) - (bl : Int) - (fl : Int) < 0 := by omega
                go_wp2
                go_ret
                exact ⟨_, rfl, rfl, fun h => by cases h⟩
      · obtain rfl : k = n := by omega
        have p1 : ¬ (k : Int) < (k : Int) := by omega
        go_wp2
        go_ret
        exact ⟨_, rfl, rfl, fun _ => ⟨by omega, H5.out, hwt⟩⟩
end Go.Proofs.YtcfbaijibghcaaaDoor
