/- CommitNames: which texts are names is told as the document says. No conditions but the row's own. -/
import Derived.Test.YtjgegggcbjecbaaNamesW
import Derived.Test.YtjgegggcbjecbaaLift
import Derived.Test.YtjgegggcbjecbaaOpen
import Derived.Test.YtjgegggcbjecbaaOpenD
namespace Go.Proofs.Ytjgegggcbjecbaa
open Go Go.ChangeShapes Go.WideShapes Go.RowKit

set_option maxRecDepth 100000 in
theorem commitNames_said : Rows.CommitNamesSaid :=
  OpenClaim.holds_of_wide 3 Try.f3 rfl rfl rfl rfl rfl rfl rfl ⟨rfl, rfl, rfl, rfl, rfl⟩ rfl rfl rfl rfl rfl (by kernel_rfl) Try.func3 (by kernel_rfl)
    (of_decide_eq_true (by kernel_rfl)) (by unfold Func.isWrapper; first | (rw [if_pos (by decide +kernel)]; kernel_rfl) | (rw [if_neg (by decide +kernel)]; exact ⟨rfl, rfl⟩))
    (fun os started H enc _ => lift (s := Rows.commitNamesSpec) ⟨#[], #[.string ⟨#[]⟩], []⟩ rfl (by kernel_rfl) Try.func3 (by kernel_rfl) (by kernel_rfl) (fun _ => by kernel_rfl) (fun _ => by kernel_rfl) (fun _ => by kernel_rfl) (fun _ _ _ => by kernel_rfl) (fun _ _ _ => by kernel_rfl)
      (fun H enc W base args ds p hval hA hsz => by
        rw [Try.params3] at hA hval hsz
        obtain ⟨v0, d0, rfl, rfl, h0⟩ := trodAll_one hA
        obtain ⟨b0, rfl, rfl, rfl, wf0⟩ := Go.ChangeMaps.open_string Try.underlying9 (hval 0 9 v0 rfl rfl) h0
        exact ⟨rfl, commitNames_walk b0 W (size_of_sized hsz 0 rfl rfl)⟩) os started H enc)
#print axioms commitNames_said
end Go.Proofs.Ytjgegggcbjecbaa
