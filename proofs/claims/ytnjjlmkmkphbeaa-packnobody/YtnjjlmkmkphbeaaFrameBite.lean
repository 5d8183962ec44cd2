import Derived.Test.YtnjjlmkmkphbeaaFrameG
import Derived.Test.YtnjjlmkmkphbeaaPackNobW
namespace Go.Proofs.Ytnjjlmkmkphbeaa
open Go.RowKit Go.Deep Go.ChangeShapes Go.WideShapes

theorem open_bites {H : Type} {enc : TypeId × Value → H} {w : World} {base b0 : Nat} {sp : Nat → Bool} {held : Bool} {r : Reach} {v : Value} {d : DataW H} {ps : List MemPlace}
    (hval : Value.okWide Try.prog w r b0 33 v) (hd : DataW.Trod enc Try.prog w base sp held 33 v d ps) : ∃ n K N M, isBites w v n K N M := by
  rcases open_any 3 Try.underlying33 (by kernel_rfl) hval hd with rfl | ⟨pb, po, len, cap, rfl, h1, h2, h3, h4⟩
  · exact ⟨0, fun _ => 0, fun _ => 0, fun _ => 0, fun i hi => by omega, Or.inl ⟨rfl, rfl⟩⟩
  · have ci : Try.prog.cellsOf 3 = 1 := by kernel_rfl
    have cu : Try.prog.cellsOf 39 = 1 := by kernel_rfl
    have each : ∀ i, i < len → ∃ z : Int × Int × Int, w.cell? ⟨pb, po + i * 3, none⟩ = some (.int .i64 z.1) ∧ w.cell? ⟨pb, po + i * 3 + 1, none⟩ = some (.int .u64 z.2.1) ∧ w.cell? ⟨pb, po + i * 3 + 2, none⟩ = some (.int .i64 z.2.2) ∧ 0 ≤ z.2.1 ∧ z.2.2 ≤ 9223372036854775807 := fun i hi => by
      obtain ⟨cs', n, D, g1, g2, g3⟩ := h4 i hi
      obtain ⟨y0, y1, y2, m, _, _, t0, t1, t2⟩ := trod_struct3 Try.underlying43 g3
      match cs', g1 with
      | [v0, v1, v2], _ =>
        have u0 := DataW.trod_int (k := .i64) Try.underlying3 (cs := [v0]) (by simpa [ci] using t0)
        have u1 := DataW.trod_int (k := .u64) Try.underlying39 (cs := [v1]) (by simpa [cu] using t1)
        have u2 := DataW.trod_int (k := .i64) Try.underlying3 (cs := [v2]) (by simpa [ci] using t2)
        obtain ⟨z0, e0, _, _⟩ := u0
        obtain ⟨z1, e1, _, w1⟩ := u1
        obtain ⟨z2, e2, _, w2⟩ := u2
        have c0 := g2 0 (by omega)
        have c1 := g2 1 (by omega)
        have c2 := g2 2 (by omega)
        obtain rfl : v0 = _ := by simpa using e0
        obtain rfl : v1 = _ := by simpa using e1
        obtain rfl : v2 = _ := by simpa using e2
        exact ⟨(z0, z1, z2), c0, c1, c2, (bounds_u64 w1).1, (bounds_i64 w2).2⟩
    obtain ⟨f, hf⟩ := choose_lt each
    exact ⟨len, fun i => (f i).1, fun i => (f i).2.1, fun i => (f i).2.2, fun i hi => ⟨(hf i hi).2.2.2.1, (hf i hi).2.2.2.2⟩, Or.inr ⟨pb, po, cap, rfl, h3, by omega, fun i hi => ⟨(hf i hi).1, (hf i hi).2.1, (hf i hi).2.2.1⟩⟩⟩
end Go.Proofs.Ytnjjlmkmkphbeaa
