/- GraphChecks: the first node that may not be, of any list, is told as the document says. No conditions but the row's own. -/
import Derived.Test.YtebfocfeehajjaaChecksW
import Derived.Test.YtebfocfeehajjaaLift
import Derived.Test.YtebfocfeehajjaaOpenG
namespace Go.Proofs.Ytebfocfeehajjaa
open Go Go.ChangeShapes Go.WideShapes Go.RowKit

set_option maxRecDepth 100000 in
theorem graphChecks_said : Rows.GraphChecksSaid :=
  OpenClaim.holds_of_wide 3 Try.f3 rfl rfl rfl rfl rfl rfl rfl ⟨rfl, rfl, rfl, rfl, rfl⟩ rfl rfl rfl rfl rfl (by kernel_rfl) Try.func3 (by kernel_rfl)
    (of_decide_eq_true (by kernel_rfl)) (by unfold Func.isWrapper; first | (rw [if_pos (by decide +kernel)]; kernel_rfl) | (rw [if_neg (by decide +kernel)]; exact ⟨rfl, rfl⟩))
    (fun os started H enc _ => lift (s := Rows.graphChecksSpec) ⟨#[], #[.slice none 0 0], []⟩ rfl (by kernel_rfl) Try.func3 (by kernel_rfl) (by kernel_rfl) (fun _ => by kernel_rfl) (fun _ => by kernel_rfl) (fun _ => by kernel_rfl) (fun _ _ _ => by kernel_rfl) (fun _ _ _ => by kernel_rfl)
      (fun H enc W base args ds p hval hA hsz => by
        rw [Try.params3] at hA hval hsz
        obtain ⟨v0, d0, rfl, rfl, h0⟩ := trodAll_one hA
        obtain ⟨A0, c0, ll0, rfl, hN0, hR0, hl0, hcp0⟩ := open_nds Try.underlying22 ndShape (key_of hsz 0 rfl rfl) (hval 0 22 v0 rfl rfl) h0
        exact ⟨rfl, checks_walk ll0 A0 c0 W hN0 hR0 hl0 hcp0⟩) os started H enc)
#print axioms graphChecks_said
end Go.Proofs.Ytebfocfeehajjaa
