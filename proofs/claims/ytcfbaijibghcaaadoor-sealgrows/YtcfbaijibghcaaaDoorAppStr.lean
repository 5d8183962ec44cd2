import Derived.Test.YtcfbaijibghcaaaDoorByt
import Derived.Deep.AppendSrc
/- append of a string to bytes of the call's own. -/
namespace Go.Proofs.YtcfbaijibghcaaaDoor
open Go.RowKit Go.Deep

/-- a string's bytes. -/
def sBytes (s : ByteArray) : List Int := s.data.toList.map fun c => (c.toNat : Int)
theorem sBytes_length (s : ByteArray) : (sBytes s).length = s.size := by
  unfold sBytes; rw [List.length_map, Array.length_toList]; rfl
theorem sBytes_cells (s : ByteArray) : byteCells s = (sBytes s).map (Value.int .u8) := by
  unfold byteCells sBytes; rw [List.map_map]; rfl
theorem sBytes_byte (s : ByteArray) (i : Nat) : 0 ≤ (sBytes s).getD i 0 ∧ (sBytes s).getD i 0 ≤ 255 := by
  rw [List.getD_eq_getElem?_getD, sBytes, List.getElem?_map]
  cases h : s.data.toList[i]? with
  | none => exact ⟨by simp, by simp⟩
  | some c => have := c.toNat_lt; simp; omega
theorem strOf_sBytes (s : ByteArray) : strOf (sBytes s) = s := by
  unfold strOf sBytes
  rw [List.map_map]
  have : ((fun n : Int => UInt8.ofNat n.toNat) ∘ fun c : UInt8 => (c.toNat : Int)) = id := by funext c; simp
  rw [this]; simp
theorem sBytes_strOf (l : List Int) (h : ∀ i, 0 ≤ l.getD i 0 ∧ l.getD i 0 ≤ 255) : sBytes (strOf l) = l := by
  unfold strOf sBytes
  simp only [List.map_map]
  apply List.ext_getElem?
  intro i
  rw [List.getElem?_map]
  cases hi : l[i]? with
  | none => rfl
  | some x =>
    have := h i
    rw [List.getD_eq_getElem?_getD, hi] at this
    simp at this
    simp
    omega

theorem text_append_run (w : World) (B : Nat) (v : Value) (s : ByteArray) (l : List Int) (hv : newBytes w B v l) (h0 : 0 < l.length) (hs : l.length + s.size ≤ 1099511627776) (hB : B ≤ w.heap.size) :
    ∃ v' w', (Builtin.append_ #[36, 9] 36 #[v, .string s]).run Tryd.prog w = .ok v' w' ∧ newBytes w' B v' (l ++ sBytes s) ∧ Below B w w' := by
  have hbyte := getD_append_byte hv.2 (sBytes_byte s)
  obtain ⟨⟨_, hn | ⟨g, cap, cur, rfl, hg0, hg, hc, hm, hsz, ht⟩⟩, hvb⟩ := hv
  · rw [List.length_map] at hn; omega
  · rw [List.length_map, Nat.mul_one] at ht
    rw [Nat.mul_one] at hsz
    rw [List.length_map] at hc ⊢
    cases hq : Tryd.prog.info? 5 with
    | none => have := hi8; simp [hq] at this
    | some i =>
      have h8 := hi8
      simp only [hq, Option.map_some, Option.some.injEq, Prod.mk.injEq] at h8
      obtain ⟨hz, hsize, hby⟩ := h8
      have hsrc : Src Tryd.prog i.size 9 (.string s) s.size (byteCells s) w := by rw [hsize]; exact Src.ofString w Tryd.underlying9 s
      have hrow : w.rowIs g 5 cap (fun j => cur.getD j undef) := ⟨cur, hg, hsz, fun j hj => by rw [Array.getElem?_eq_getElem (by omega)]; simp [Array.getD, hsz, hj]⟩
      by_cases hroom : l.length + s.size ≤ cap
      · have hr := run_append_room_src (P := Tryd.prog) w 36 9 36 5 i Tryd.underlying36 hq g 0 l.length cap (.string s) s.size (byteCells s) hsrc hroom
          (fun j hj => by rw [byteCells_length] at hj; rw [hrow.cell (by rw [hsize]; omega)]; rfl) (fun j hj => hrow.frozen _)
        have hrow' := rowIs_setCells (byteCells s) (0 + l.length * i.size) hrow
        have hblk := rowIs_block hrow'
        refine ⟨_, _, hr, ⟨⟨by simp, Or.inr ⟨g, cap, _, ?_, hg0, hblk, ?_, hm, ?_, ?_⟩⟩, hbyte⟩, ?_⟩
        · rw [List.length_map, List.length_append, sBytes_length]
        · rw [List.length_map, List.length_append, sBytes_length]; exact hroom
        · rw [rowV_size, Nat.mul_one]
        · rw [List.length_map, List.length_append, sBytes_length, Nat.mul_one, hsize, Nat.mul_one, Nat.zero_add]
          apply List.ext_getElem?
          intro j
          rw [List.getElem?_take, Array.getElem?_toList, List.map_append, List.getElem?_append, List.length_map]
          by_cases hj : j < l.length
          · rw [if_pos (by omega), rowV_get _ _ _ (by omega), if_neg (by omega), if_pos hj, ← ht, List.getElem?_take, if_pos hj, Array.getElem?_toList, Array.getElem?_eq_getElem (by omega)]
            simp [Array.getD, hsz, show j < cap by omega]
          · rw [if_neg hj]
            by_cases hj2 : j < l.length + s.size
            · rw [if_pos hj2, rowV_get _ _ _ (by omega), if_pos (by rw [byteCells_length]; omega), sBytes_cells, List.getD_eq_getElem?_getD, getElem?_u8 (by rw [sBytes_length]; omega)]; rfl
            · rw [if_neg hj2, List.getElem?_eq_none (by rw [List.length_map, sBytes_length]; omega)]
        · exact below_setCells g hg0 _ _ (Below.refl _ _)
      · have hold : (Builtin.firstCells i.size l.length (.slice (some ⟨g, 0, none⟩) l.length cap)).run Tryd.prog w.drew = .ok (l.map (Value.int .u8)).toArray w.drew := by
          refine run_firstCells_some w.drew i.size l.length ⟨g, 0, none⟩ l.length cap _ (by rw [List.length_map, hsize, Nat.mul_one]) (fun j u hu => ?_)
          rw [Addr.add_mid, Nat.zero_add]
          have hj : j < l.length := by
            by_cases hj : j < l.length
            · exact hj
            · rw [List.getElem?_eq_none (by simp; omega)] at hu; cases hu
          rw [← ht, List.getElem?_take, if_pos hj, Array.getElem?_toList] at hu
          show w.cell? _ = _
          rw [cell_of_row _ _ _ _ _ _ hg]; exact hu
        have hr := run_append_grow_src (P := Tryd.prog) w 36 9 36 5 i (.int .u8 0) Tryd.underlying36 hq hz (some ⟨g, 0, none⟩) l.length cap (l.map (Value.int .u8)) hold (.string s) s.size (byteCells s) hsrc (by omega) (by omega)
          (growslice_fits (by omega) (by rw [hby]; omega))
        have hge := grownCap_ge w (l.length + s.size) cap 5
        have hcm : grownCap w (l.length + s.size) cap 5 ≤ maxLen := grownCap_le_maxLen w (l.length + s.size) cap 5 (by unfold maxLen; omega)
        refine ⟨_, _, hr, ⟨⟨by simp, Or.inr ⟨w.heap.size, _, _, ?_, hB, heap_alloc_new w.drew _, ?_, hcm, ?_, ?_⟩⟩, hbyte⟩, ?_⟩
        · rw [List.length_map, List.length_append, sBytes_length]
        · rw [List.length_map, List.length_append, sBytes_length]; exact hge
        · simp only [Array.size_append, List.size_toArray, size_zeroCells, List.length_append, List.length_map, byteCells_length]
          show _ + _ * (1 : Nat) = _
          omega
        · rw [List.length_map, List.length_append, sBytes_length, Nat.mul_one, List.map_append, sBytes_cells]
          simp only [Array.toList_append]
          exact List.take_left' (by simp [sBytes_length])
        · exact (Below.refl B w).drew.alloc (by simpa using hB) _
section
variable {P : Program}
theorem wp_append2_run {o : Oper} {a : Act} {w w' : World} {K : Act → World → Prop} {Q : Exit → Act → World → Prop} {v y r : Value} (s x : Operand) (t t' : TypeId)
    (ho : o.op = .call { callee := .builtin .append, args := #[s, x], argTypes := #[t, t'] }) (hs : a.eval s = v) (hx : a.eval x = y)
    (hr : (Builtin.append_ #[t, t'] o.type #[v, y]).run P w = .ok r w') (h : K (a.put o.dst r) w') : o.wp P a w K Q := by
  unfold Oper.wp execOp
  simp only [ho, resolve, invoke, builtin, Sem.run_bind, Sem.run_pure, Result.andThen_ok, List.map_toArray, List.map_cons, List.map_nil, hs, hx, hr]
  exact h
theorem wpList_append2_run {ops : Array Oper} {rest : List Oper} {o : Oper} {a : Act} {w w' : World} {Q : Exit → Act → World → Prop} {v y r : Value} (hgd : o.guard = none) (s x : Operand) (t t' : TypeId)
    (ho : o.op = .call { callee := .builtin .append, args := #[s, x], argTypes := #[t, t'] }) (hs : a.eval s = v) (hx : a.eval x = y)
    (hr : (Builtin.append_ #[t, t'] o.type #[v, y]).run P w = .ok r w') (h : wpList P ops Q rest (a.put o.dst r) w') : wpList P ops Q (o :: rest) a w :=
  wpList_plain hgd fun _ hK => wp_append2_run s x t t' ho hs hx hr (hK _ _ h)
end
end Go.Proofs.YtcfbaijibghcaaaDoor
