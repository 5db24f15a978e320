/- DiffMakes: from its walk to its statement. -/
import Derived.Test.YtmanafhdmijfeaaMakesW
import Derived.Test.YtmanafhdmijfeaaLift
import Derived.Test.YtmanafhdmijfeaaOpenE
namespace Go.Proofs.Ytmanafhdmijfeaa
open Go Go.ChangeShapes Go.WideShapes Go.ChangeAt Go.RowKit

set_option maxRecDepth 100000 in
theorem diffMakes_said : Rows.DiffMakesSaid :=
  OpenClaim.holds_of_wide 3 Try.f3 rfl rfl rfl rfl rfl rfl rfl ⟨rfl, rfl, rfl, rfl, rfl⟩ rfl rfl rfl rfl rfl (by kernel_rfl) Try.func3 (by kernel_rfl)
    (of_decide_eq_true (by kernel_rfl)) (by unfold Func.isWrapper; first | (rw [if_pos (by decide +kernel)]; kernel_rfl) | (rw [if_neg (by decide +kernel)]; exact ⟨rfl, rfl⟩))
    (fun os started H enc _ => lift (s := Rows.diffMakesSpec) ⟨#[], #[.string ⟨#[]⟩, .string ⟨#[]⟩], []⟩ rfl (by kernel_rfl) Try.func3 (by kernel_rfl) (by kernel_rfl) (fun _ => by kernel_rfl) (fun _ => by kernel_rfl) (fun _ => by kernel_rfl) (fun _ _ _ => by kernel_rfl) (fun _ _ _ => by kernel_rfl)
      (fun H enc W base args ds p hval hA hsz => by
        rw [Try.params3] at hA hval hsz
        obtain ⟨v0, v1, d0, d1, p0, p1, rfl, rfl, rfl, h0, h1⟩ := trodAll_two hA
        obtain ⟨b0, rfl, rfl, rfl, wf0⟩ := Go.ChangeMaps.open_string Try.underlying9 (hval 0 9 v0 rfl rfl) h0
        obtain ⟨b1, rfl, rfl, rfl, wf1⟩ := Go.ChangeMaps.open_string Try.underlying9 (hval 1 9 v1 rfl rfl) h1
        have s0 := size_of_sized hsz 0 rfl rfl
        have s1 := size_of_sized hsz 1 rfl rfl
        exact ⟨rfl, diffMakes_walk b0 b1 W (by omega) (by omega)⟩) os started H enc)
#print axioms diffMakes_said
end Go.Proofs.Ytmanafhdmijfeaa
