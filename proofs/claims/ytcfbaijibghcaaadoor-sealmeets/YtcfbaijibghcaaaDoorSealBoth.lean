import Derived.Test.YtcfbaijibghcaaaDoorSealMeetP
/- The laws' own helper: both. -/
namespace Go.Proofs.YtcfbaijibghcaaaDoor
set_option linter.unusedSimpArgs false
set_option linter.unusedVariables false
open Go.RowKit Go.Deep

def bothB (X Y A B : List Int) : Prop := X = A ∧ Y = B ∨ X = B ∧ Y = A
def bothPost (w : World) (X Y A B : List Int) (e : Ending) (w' : World) : Prop := ∃ r : Bool, e = .returned (.bool r) ∧ (r = true ↔ bothB X Y A B) ∧ w' = w
theorem beq_bytes {w w' : World} {u v : Value} {l m : List Int} (hu : anyBytes w u l) (hv : anyBytes w' v m) : ((strOf l).toList == (strOf m).toList) = true ↔ l = m := by
  rw [str_beq, decide_eq_true_iff]; exact strOf_eq hu hv
set_option maxHeartbeats 2000000 in
set_option maxRecDepth 100000 in
theorem both_any (X Y A B : List Int) (vx vy va vb : Value) (w : World) (hx : anyBytes w vx X) (hy : anyBytes w vy Y) (ha : anyBytes w va A) (hb : anyBytes w vb B) :
    Calls Tryd.prog 24 #[vx, vy, va, vb] w fun e w' => bothPost w X Y A B e w' := by
  have e1 := beq_bytes hx ha
  have e2 := beq_bytes hy hb
  have e3 := beq_bytes hx hb
  have e4 := beq_bytes hy ha
  have cx := convA w _ _ hx
  have cy := convA w _ _ hy
  have ca := convA w _ _ ha
  have cb := convA w _ _ hb
  obtain ⟨xa, xc, rfl, _⟩ := hx.slice
  obtain ⟨ya, yc, rfl, _⟩ := hy.slice
  obtain ⟨aa, ac, rfl, _⟩ := ha.slice
  obtain ⟨ba, bc, rfl, _⟩ := hb.slice
  clear hx hy ha hb
  have key : ∀ r1 r2 r3 r4 : Bool, (r1 = true ↔ X = A) → (r2 = true ↔ Y = B) → (r3 = true ↔ X = B) → (r4 = true ↔ Y = A) → (((r1 && r2) || (r3 && r4)) = true ↔ bothB X Y A B) := fun r1 r2 r3 r4 h1 h2 h3 h4 => by
    unfold bothB
    rw [Bool.or_eq_true, Bool.and_eq_true, Bool.and_eq_true, h1, h2, h3, h4]
  have hk := key _ _ _ _ e1 e2 e3 e4
  clear key e1 e2 e3 e4
  cases h1 : ((strOf X).toList == (strOf A).toList) <;> cases h2 : ((strOf Y).toList == (strOf B).toList) <;> cases h3 : ((strOf X).toList == (strOf B).toList) <;> cases h4 : ((strOf Y).toList == (strOf A).toList) <;>
  · rw [h1, h2, h3, h4] at hk
    have HK : Hid _ := hk
    clear hk
    go_enter Tryd.func24, Tryd.ntmps24
    go_wp2
    go_ret
    exact ⟨_, rfl, HK.out, rfl⟩
end Go.Proofs.YtcfbaijibghcaaaDoor
