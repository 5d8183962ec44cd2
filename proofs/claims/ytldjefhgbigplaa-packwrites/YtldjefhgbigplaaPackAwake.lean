import Derived.Test.YtldjefhgbigplaaPackPart
namespace Go.Proofs.Ytldjefhgbigplaa
open Go.RowKit Go.Deep

theorem isBytes_built (w : World) (l : List Int) (hl : l.length ≤ 1000) (hb : ∀ i, 0 ≤ l.getD i 0 ∧ l.getD i 0 ≤ 255) : isBytes (w.alloc (.cells (l.map (Value.int .u8)).toArray 5)) (.slice (some ⟨w.heap.size, 0, none⟩) l.length l.length) l := by
  refine Or.inr ⟨w.heap.size, 0, l.length, rfl, Nat.le_refl _, by unfold maxLen; omega, by simp, fun i hi => ?_, hb⟩
  have := (rowIs_new w (l.map (Value.int .u8)).toArray 5 l.length (fun i => .int .u8 (l.getD i 0)) (by simp) (fun i hi => by rw [List.getElem?_toArray]; exact getElem?_u8 hi)).cell hi
  rw [Nat.zero_add]; exact this
theorem isRow_built (w : World) (l : List Value) (t : TypeId) (hl : l.length ≤ 1000) : isRow (w.alloc (.cells l.toArray t)) (.slice (some ⟨w.heap.size, 0, none⟩) l.length l.length) l.length (fun i => l.getD i undef) := by
  refine Or.inr ⟨w.heap.size, 0, l.length, rfl, by simp, by unfold maxLen; omega, fun i hi => ?_⟩
  have := (rowIs_new w l.toArray t l.length (fun i => l.getD i undef) (by simp) (fun i hi => by rw [List.getElem?_toArray, List.getElem?_eq_getElem hi, List.getD_eq_getElem?_getD, List.getElem?_eq_getElem hi]; rfl)).cell hi
  rw [Nat.zero_add]; exact this
theorem isRow.congr {w : World} {v : Value} {n : Nat} {f g : Nat → Value} (h : isRow w v n f) (e : ∀ i, i < n → f i = g i) : isRow w v n g := by
  rcases h with h | ⟨pb, po, cap, h1, h2, h3, h4⟩
  · exact Or.inl h
  · exact Or.inr ⟨pb, po, cap, h1, h2, h3, fun i hi => by rw [h4 i hi, e i hi]⟩
/-- a Cut, and what is done to an elder one. -/
theorem cutOf.but {w w' : World} {B c d : Nat} {l : List Int} {b : Bool} (h : cutOf w B d l b) (hb : But w.heap.size c w w') (hc : c < B) : cutOf w' B d l b :=
  h.far (fun k hk hB => hb.block k hk (by omega)) hb.size
theorem But.to_below {B c : Nat} {w w' : World} (h : But w.heap.size c w w') (hB : B ≤ c) (hBw : B ≤ w.heap.size) : Below B w w' := (h.mono hBw).below hB
def fA (i : Nat) : Int := [0, 1, 255, 256].getD i 0
theorem bytes_ok {l : List Int} (h : l.all (fun b => decide (0 ≤ b) && decide (b ≤ 255)) = true) (i : Nat) : 0 ≤ l.getD i 0 ∧ l.getD i 0 ≤ 255 := by
  rw [List.getD_eq_getElem?_getD]
  cases e : l[i]? with
  | none => exact ⟨by simp, by simp⟩
  | some x =>
    have := List.all_eq_true.1 h x (List.mem_of_getElem? e)
    simpa using this

set_option maxHeartbeats 2000000 in
set_option maxRecDepth 100000 in
theorem awake_any (w : World) : Calls Try.prog 9 #[] w fun e w' => e = .returned (.bool true) ∧ Below w.heap.size w w' := by
  go_enter Try.func9, Try.ntmps9
  have hb0 : Below w.heap.size w (w.alloc (.cells #[.int .u64 0, .int .u64 1, .int .u64 255, .int .u64 256] 39)) := (Below.refl _ _).alloc (Nat.le_refl _) _
  go_wp2_with fail
  refine (num_any [] (.slice none 0 0) _ 4 fA _ (isBytes_nil _) ((isRow_built w [.int .u64 0, .int .u64 1, .int .u64 255, .int .u64 256] 39 (by simp)).congr (fun i hi => ?_)) (fun i hi => ?_) (by simp)).mono ?_
  · have : i = 0 ∨ i = 1 ∨ i = 2 ∨ i = 3 := by simp at hi; omega
    rcases this with rfl | rfl | rfl | rfl <;> rfl
  · have : i = 0 ∨ i = 1 ∨ i = 2 ∨ i = 3 := by omega
    rcases this with rfl | rfl | rfl | rfl <;> exact ⟨by decide, by decide⟩
  rintro e w1 ⟨v1, rfl, hn1, hb1⟩
  have hb1 : Below w.heap.size w w1 := hb0.trans (hb1.mono (by simp))
  have HN1 : Hid (isBytes w1 v1 [0, 1, 1, 1, 255, 2, 1, 0]) := hn1.is
  have HB1 : Hid _ := hb1
  clear hn1 hb1 hb0
  go_wp2_with fail
  refine (text_any [] (.slice none 0 0) _ 1 (fun _ => { data := #[97, 98] }) _ (isBytes_nil _) (isRow_one w1 (.string { data := #[97, 98] }) 9) (fun i hi => ?_)).mono ?_
  · have : i = 0 ∨ i = 1 := by omega
    rcases this with rfl | rfl <;> decide
  rintro e w2 ⟨v2, rfl, hn2, hb2⟩
  have hb1a : Below w1.heap.size w1 (w1.alloc (.cells #[.string { data := #[97, 98] }] 9)) := (Below.refl _ _).alloc (Nat.le_refl _) _
  have hb12 : Below w1.heap.size w1 w2 := hb1a.trans (hb2.mono (by simp))
  have HN2 : Hid (isBytes w2 v2 [1, 2, 97, 98]) := hn2.is
  have HN1' : Hid _ := isBytes.below HN1.out hb12 (Nat.le_refl _)
  have HB2 : Hid _ := Below.trans HB1.out (hb12.mono HB1.out.size)
  have hs2 : w.heap.size ≤ w2.heap.size := HB2.out.size
  clear hn2 hb2 hb1a hb12 HN1 HB1
  go_wp2_with fail
  refine (from_any _ [1, 0] _ (isBytes_built w2 [1, 0] (by simp) (bytes_ok (by decide))) (by simp)).mono ?_
  rintro e w3 ⟨c, rfl, hc, hb⟩
  have hba : Below w2.heap.size w2 (w2.alloc (.cells ([1, 0].map (Value.int .u8)).toArray 5)) := (Below.refl _ _).alloc (Nat.le_refl _) _
  have hbb : Below w2.heap.size w2 w3 := hba.trans (hb.mono (by simp))
  have HCc : Hid (cutOf w3 w2.heap.size c [1, 0] false) := hc.mono (by simp)
  have HB3 : Hid _ := Below.trans HB2.out (hbb.mono HB2.out.size)
  have hs3 : w2.heap.size ≤ w3.heap.size := hbb.size
  have HN1'_3 : Hid _ := isBytes.below HN1'.out hbb (Nat.le_refl _)
  clear HN1'
  have HN2_3 : Hid _ := isBytes.below HN2.out hbb (Nat.le_refl _)
  clear HN2
  have hlc : c < w3.heap.size := HCc.out.lt
  have hgc : w2.heap.size ≤ c := HCc.out.ge
  clear hc hb hba hbb HB2
  go_wp2_with fail
  refine (from_any _ [1, 7, 5] _ (isBytes_built w3 [1, 7, 5] (by simp) (bytes_ok (by decide))) (by simp)).mono ?_
  rintro e w4 ⟨d, rfl, hc, hb⟩
  have hba : Below w3.heap.size w3 (w3.alloc (.cells ([1, 7, 5].map (Value.int .u8)).toArray 5)) := (Below.refl _ _).alloc (Nat.le_refl _) _
  have hbb : Below w3.heap.size w3 w4 := hba.trans (hb.mono (by simp))
  have HCd : Hid (cutOf w4 w3.heap.size d [1, 7, 5] false) := hc.mono (by simp)
  have HB4 : Hid _ := Below.trans HB3.out (hbb.mono HB3.out.size)
  have hs4 : w3.heap.size ≤ w4.heap.size := hbb.size
  have HN1'_4 : Hid _ := isBytes.below HN1'_3.out hbb (Nat.le_refl _)
  clear HN1'_3
  have HN2_4 : Hid _ := isBytes.below HN2_3.out hbb (Nat.le_refl _)
  clear HN2_3
  have HCc_4 : Hid _ := cutOf.below HCc.out hbb (Nat.le_refl _)
  clear HCc
  have hld : d < w4.heap.size := HCd.out.lt
  have hgd : w3.heap.size ≤ d := HCd.out.ge
  clear hc hb hba hbb HB3
  go_wp2_with fail
  refine (from_any _ [1, 7, 5] _ (isBytes_built w4 [1, 7, 5] (by simp) (bytes_ok (by decide))) (by simp)).mono ?_
  rintro e w5 ⟨e, rfl, hc, hb⟩
  have hba : Below w4.heap.size w4 (w4.alloc (.cells ([1, 7, 5].map (Value.int .u8)).toArray 5)) := (Below.refl _ _).alloc (Nat.le_refl _) _
  have hbb : Below w4.heap.size w4 w5 := hba.trans (hb.mono (by simp))
  have HCe : Hid (cutOf w5 w4.heap.size e [1, 7, 5] false) := hc.mono (by simp)
  have HB5 : Hid _ := Below.trans HB4.out (hbb.mono HB4.out.size)
  have hs5 : w4.heap.size ≤ w5.heap.size := hbb.size
  have HN1'_5 : Hid _ := isBytes.below HN1'_4.out hbb (Nat.le_refl _)
  clear HN1'_4
  have HN2_5 : Hid _ := isBytes.below HN2_4.out hbb (Nat.le_refl _)
  clear HN2_4
  have HCc_5 : Hid _ := cutOf.below HCc_4.out hbb (Nat.le_refl _)
  clear HCc_4
  have HCd_5 : Hid _ := cutOf.below HCd.out hbb (Nat.le_refl _)
  clear HCd
  have hle : e < w5.heap.size := HCe.out.lt
  have hge : w4.heap.size ≤ e := HCe.out.ge
  clear hc hb hba hbb HB4
  go_wp2_with fail
  refine (from_any _ [1, 2, 97] _ (isBytes_built w5 [1, 2, 97] (by simp) (bytes_ok (by decide))) (by simp)).mono ?_
  rintro e w6 ⟨f, rfl, hc, hb⟩
  have hba : Below w5.heap.size w5 (w5.alloc (.cells ([1, 2, 97].map (Value.int .u8)).toArray 5)) := (Below.refl _ _).alloc (Nat.le_refl _) _
  have hbb : Below w5.heap.size w5 w6 := hba.trans (hb.mono (by simp))
  have HCf : Hid (cutOf w6 w5.heap.size f [1, 2, 97] false) := hc.mono (by simp)
  have HB6 : Hid _ := Below.trans HB5.out (hbb.mono HB5.out.size)
  have hs6 : w5.heap.size ≤ w6.heap.size := hbb.size
  have HN1'_6 : Hid _ := isBytes.below HN1'_5.out hbb (Nat.le_refl _)
  clear HN1'_5
  have HN2_6 : Hid _ := isBytes.below HN2_5.out hbb (Nat.le_refl _)
  clear HN2_5
  have HCc_6 : Hid _ := cutOf.below HCc_5.out hbb (Nat.le_refl _)
  clear HCc_5
  have HCd_6 : Hid _ := cutOf.below HCd_5.out hbb (Nat.le_refl _)
  clear HCd_5
  have HCe_6 : Hid _ := cutOf.below HCe.out hbb (Nat.le_refl _)
  clear HCe
  have hlf : f < w6.heap.size := HCf.out.lt
  have hgf : w5.heap.size ≤ f := HCf.out.ge
  clear hc hb hba hbb HB5
  go_wp2_with fail
  refine (from_any _ [1, 2, 97, 98] _ (isBytes_built w6 [1, 2, 97, 98] (by simp) (bytes_ok (by decide))) (by simp)).mono ?_
  rintro e w7 ⟨g, rfl, hc, hb⟩
  have hba : Below w6.heap.size w6 (w6.alloc (.cells ([1, 2, 97, 98].map (Value.int .u8)).toArray 5)) := (Below.refl _ _).alloc (Nat.le_refl _) _
  have hbb : Below w6.heap.size w6 w7 := hba.trans (hb.mono (by simp))
  have HCg : Hid (cutOf w7 w6.heap.size g [1, 2, 97, 98] false) := hc.mono (by simp)
  have HB7 : Hid _ := Below.trans HB6.out (hbb.mono HB6.out.size)
  have hs7 : w6.heap.size ≤ w7.heap.size := hbb.size
  have HN1'_7 : Hid _ := isBytes.below HN1'_6.out hbb (Nat.le_refl _)
  clear HN1'_6
  have HN2_7 : Hid _ := isBytes.below HN2_6.out hbb (Nat.le_refl _)
  clear HN2_6
  have HCc_7 : Hid _ := cutOf.below HCc_6.out hbb (Nat.le_refl _)
  clear HCc_6
  have HCd_7 : Hid _ := cutOf.below HCd_6.out hbb (Nat.le_refl _)
  clear HCd_6
  have HCe_7 : Hid _ := cutOf.below HCe_6.out hbb (Nat.le_refl _)
  clear HCe_6
  have HCf_7 : Hid _ := cutOf.below HCf.out hbb (Nat.le_refl _)
  clear HCf
  have hlg : g < w7.heap.size := HCg.out.lt
  have hgg : w6.heap.size ≤ g := HCg.out.ge
  clear hc hb hba hbb HB6
  have hcv1 : (convert 22 9 v1).run Try.prog w7 = .ok (.string { data := #[0, 1, 1, 1, 255, 2, 1, 0] }) w7 := run_convert_bytes (P := Try.prog) w7 22 9 5 v1 _ Try.underlying22 Try.underlying5 Try.underlying9 HN1'_7.out
  have hcv2 : (convert 22 9 v2).run Try.prog w7 = .ok (.string { data := #[1, 2, 97, 98] }) w7 := run_convert_bytes (P := Try.prog) w7 22 9 5 v2 _ Try.underlying22 Try.underlying5 Try.underlying9 HN2_7.out
  have K := cnum_any c w2.heap.size [1, 0] false 9 (by omega) w7 HCc_7.out
  rw [show numR [1, 0] false 9 = (0, [1, 0], true) by decide +kernel] at K
  go_wp2_with fail
  refine K.mono ?_
  rintro e w8 ⟨rfl, hc, hb⟩
  have HB8 : Hid _ := Below.trans HB7.out (But.to_below hb (by have := HB7.out.size; omega) HB7.out.size)
  have HCc8 : Hid _ := hc
  clear HCc_7
  have HCd8 : Hid _ := cutOf.but HCd_7.out hb (by omega)
  clear HCd_7
  have HCe8 : Hid _ := cutOf.but HCe_7.out hb (by omega)
  clear HCe_7
  have HCf8 : Hid _ := cutOf.but HCf_7.out hb (by omega)
  clear HCf_7
  have HCg8 : Hid _ := cutOf.but HCg.out hb (by omega)
  clear HCg
  clear hc hb K HB7
  go_wp2_with fail
  refine (left_any c w2.heap.size [1, 0] true w8 HCc8.out).mono ?_
  rintro e w' ⟨rfl, hw⟩
  obtain rfl := hw.symm
  clear hw
  simp only [List.length_cons, List.length_nil]
  go_wp2_with fail
  refine (err_of c w2.heap.size [1, 0] true w8 HCc8.out).mono ?_
  rintro e w' ⟨rfl, hw⟩
  obtain rfl := hw.symm
  clear hw
  rw [show errI true = 2 from rfl]
  have K := cnum_any d w3.heap.size [1, 7, 5] false 6 (by omega) w8 HCd8.out
  rw [show numR [1, 7, 5] false 6 = (0, [1, 7, 5], true) by decide +kernel] at K
  go_wp2_with fail
  refine K.mono ?_
  rintro e w9 ⟨rfl, hc, hb⟩
  have HB9 : Hid _ := Below.trans HB8.out (But.to_below hb (by have := HB8.out.size; omega) HB8.out.size)
  have HCd9 : Hid _ := hc
  clear HCd8
  have HCe9 : Hid _ := cutOf.but HCe8.out hb (by omega)
  clear HCe8
  have HCf9 : Hid _ := cutOf.but HCf8.out hb (by omega)
  clear HCf8
  have HCg9 : Hid _ := cutOf.but HCg8.out hb (by omega)
  clear HCg8
  clear hc hb K HB8
  go_wp2_with fail
  refine (err_of d w3.heap.size [1, 7, 5] true w9 HCd9.out).mono ?_
  rintro e w' ⟨rfl, hw⟩
  obtain rfl := hw.symm
  clear hw
  rw [show errI true = 2 from rfl]
  have K := cnum_any e w4.heap.size [1, 7, 5] false 7 (by omega) w9 HCe9.out
  rw [show numR [1, 7, 5] false 7 = (7, [5], false) by decide +kernel] at K
  go_wp2_with fail
  refine K.mono ?_
  rintro e w10 ⟨rfl, hc, hb⟩
  have HB10 : Hid _ := Below.trans HB9.out (But.to_below hb (by have := HB9.out.size; omega) HB9.out.size)
  have HCe10 : Hid _ := hc
  clear HCe9
  have HCf10 : Hid _ := cutOf.but HCf9.out hb (by omega)
  clear HCf9
  have HCg10 : Hid _ := cutOf.but HCg9.out hb (by omega)
  clear HCg9
  clear hc hb K HB9
  go_wp2_with fail
  refine (left_any e w4.heap.size [5] false w10 HCe10.out).mono ?_
  rintro e w' ⟨rfl, hw⟩
  obtain rfl := hw.symm
  clear hw
  simp only [List.length_cons, List.length_nil]
  have K := done_any e w4.heap.size [5] false w10 HCe10.out
  rw [show doneB [5] false = true from rfl, show errI true = 2 from rfl] at K
  go_wp2_with fail
  refine K.mono ?_
  rintro e w11 ⟨rfl, hc, hb⟩
  have HB11 : Hid _ := Below.trans HB10.out (But.to_below hb (by have := HB10.out.size; omega) HB10.out.size)
  clear HCe10
  have HCf11 : Hid _ := cutOf.but HCf10.out hb (by omega)
  clear HCf10
  have HCg11 : Hid _ := cutOf.but HCg10.out hb (by omega)
  clear HCg10
  clear hc hb K HB10
  have K := cblob_any f w5.heap.size [1, 2, 97] false 9 (by omega) w11 HCf11.out (by simp)
  rw [show partR [1, 2, 97] false 9 = ([], [1, 2, 97], true) by decide +kernel] at K
  go_wp2_with fail
  refine K.mono ?_
  rintro e w12 ⟨vx, rfl, hn, hc, hb⟩
  obtain ⟨ax, cx, rfl, _⟩ := hn.is.slice
  have HB12 : Hid _ := Below.trans HB11.out (But.to_below hb (by have := HB11.out.size; omega) HB11.out.size)
  have HCf12 : Hid _ := hc
  simp only [List.length_nil]
  clear HCf11
  have HCg12 : Hid _ := cutOf.but HCg11.out hb (by omega)
  clear HCg11
  clear hn hc hb K HB11
  go_wp2_with fail
  refine (err_of f w5.heap.size [1, 2, 97] true w12 HCf12.out).mono ?_
  rintro e w' ⟨rfl, hw⟩
  obtain rfl := hw.symm
  clear hw
  rw [show errI true = 2 from rfl]
  have K := cblob_any g w6.heap.size [1, 2, 97, 98] false 1 (by omega) w12 HCg12.out (by simp)
  rw [show partR [1, 2, 97, 98] false 1 = ([], [1, 2, 97, 98], true) by decide +kernel] at K
  go_wp2_with fail
  refine K.mono ?_
  rintro e w13 ⟨vx, rfl, hn, hc, hb⟩
  obtain ⟨ax, cx, rfl, _⟩ := hn.is.slice
  have HB13 : Hid _ := Below.trans HB12.out (But.to_below hb (by have := HB12.out.size; omega) HB12.out.size)
  have HCg13 : Hid _ := hc
  simp only [List.length_nil]
  clear HCg12
  clear hn hc hb K HB12
  go_wp2_with fail
  refine (err_of g w6.heap.size [1, 2, 97, 98] true w13 HCg13.out).mono ?_
  rintro e w' ⟨rfl, hw⟩
  obtain rfl := hw.symm
  clear hw
  rw [show errI true = 2 from rfl]
  go_wp2
  go_ret
  exact ⟨rfl, HB13.out⟩
end Go.Proofs.Ytldjefhgbigplaa
