/- DiffCosts: from its walk to its statement. -/
import Derived.Test.YtmanafhdmijfeaaCostsW
import Derived.Test.YtmanafhdmijfeaaLift
import Derived.Test.YtmanafhdmijfeaaOpenE
namespace Go.Proofs.Ytmanafhdmijfeaa
open Go Go.ChangeShapes Go.WideShapes Go.ChangeAt Go.RowKit

set_option maxRecDepth 100000 in
theorem diffCosts_said : Rows.DiffCostsSaid :=
  OpenClaim.holds_of_wide 5 Try.f5 rfl rfl rfl rfl rfl rfl rfl ⟨rfl, rfl, rfl, rfl, rfl⟩ rfl rfl rfl rfl rfl (by kernel_rfl) Try.func5 (by kernel_rfl)
    (of_decide_eq_true (by kernel_rfl)) (by unfold Func.isWrapper; first | (rw [if_pos (by decide +kernel)]; kernel_rfl) | (rw [if_neg (by decide +kernel)]; exact ⟨rfl, rfl⟩))
    (fun os started H enc _ => lift (s := Rows.diffCostsSpec) ⟨#[], #[.slice none 0 0], []⟩ rfl (by kernel_rfl) Try.func5 (by kernel_rfl) (by kernel_rfl) (fun _ => by kernel_rfl) (fun _ => by kernel_rfl) (fun _ => by kernel_rfl) (fun _ _ _ => by kernel_rfl) (fun _ _ _ => by kernel_rfl)
      (fun H enc W base args ds p hval hA hsz => by
        rw [Try.params5] at hA hval hsz
        obtain ⟨v0, d0, rfl, rfl, h0⟩ := trodAll_one hA
        obtain ⟨A0, c0, L0, hb0⟩ := open_eds Try.underlying22 Try.underlying32 (by kernel_rfl) (by kernel_rfl) Try.underlying3 Try.underlying3 Try.underlying9 (hval 0 22 v0 rfl rfl) h0
        obtain ⟨hl0, ht0⟩ := eds_lim hsz 0 rfl rfl Try.underlying22 Try.underlying32 (by kernel_rfl) hb0
        obtain ⟨rfl, hc0, hr0, -⟩ := hb0
        exact ⟨rfl, diffCosts_walk A0 c0 L0 W hr0 (by omega) hc0⟩) os started H enc)
#print axioms diffCosts_said
end Go.Proofs.Ytmanafhdmijfeaa
