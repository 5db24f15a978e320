/- GraphPartial: lying within goes on, and two lists of heads that lie within one another are the same. No conditions but the row's own. -/
import Derived.Test.YtebfocfeehajjaaPartialW
import Derived.Test.YtebfocfeehajjaaLift
import Derived.Test.YtebfocfeehajjaaOpenG
namespace Go.Proofs.Ytebfocfeehajjaa
open Go Go.ChangeShapes Go.WideShapes Go.RowKit

set_option maxRecDepth 100000 in
theorem graphPartial_said : Rows.GraphPartialSaid :=
  OpenClaim.holds_of_wide 9 Try.f9 rfl rfl rfl rfl rfl rfl rfl ⟨rfl, rfl, rfl, rfl, rfl⟩ rfl rfl rfl rfl rfl (by kernel_rfl) Try.func9 (by kernel_rfl)
    (of_decide_eq_true (by kernel_rfl)) (by unfold Func.isWrapper; first | (rw [if_pos (by decide +kernel)]; kernel_rfl) | (rw [if_neg (by decide +kernel)]; exact ⟨rfl, rfl⟩))
    (fun os started H enc _ => lift (s := Rows.graphPartialSpec) ⟨#[], #[.slice none 0 0, .agg #[.slice none 0 0, .slice none 0 0, .slice none 0 0]], []⟩ rfl (by kernel_rfl) Try.func9 (by kernel_rfl) (by kernel_rfl) (fun _ => by kernel_rfl) (fun _ => by kernel_rfl) (fun _ => by kernel_rfl) (fun _ _ _ => by kernel_rfl) (fun _ _ _ => by kernel_rfl)
      (fun H enc W base args ds p hval hA hsz => by
        rw [Try.params9] at hA hval hsz
        obtain ⟨v0, v1, d0, d1, p0, p1, rfl, rfl, rfl, h0, h1⟩ := trodAll_two hA
        obtain ⟨A0, c0, ll0, rfl, hN0, hR0, hl0, hcp0⟩ := open_nds Try.underlying22 ndShape (key_of hsz 0 rfl rfl) (hval 0 22 v0 rfl rfl) h0
        obtain ⟨qa1, qb1, qc1, rfl, ha1, hb1, hc1⟩ := open_q3 Try.underlying43 (by kernel_rfl) (by kernel_rfl) Try.underlying30 Try.underlying47 Try.underlying5 (by kernel_rfl) (by kernel_rfl) (by kernel_rfl) (key_of hsz 1 rfl rfl) (hval 1 43 v1 rfl rfl) h1
        exact ⟨rfl, partial_walk ll0 A0 c0 qa1 qb1 qc1 W hN0 hR0 hl0 ha1 hb1 hc1⟩) os started H enc)
#print axioms graphPartial_said
end Go.Proofs.Ytebfocfeehajjaa
