/- CommitRights: what is wrong with any operation of any list is told as the document says. No conditions but the row's own. -/
import Derived.Test.YtjgegggcbjecbaaRightsW
import Derived.Test.YtjgegggcbjecbaaLift
import Derived.Test.YtjgegggcbjecbaaOpen
import Derived.Test.YtjgegggcbjecbaaOpenD
namespace Go.Proofs.Ytjgegggcbjecbaa
open Go Go.ChangeShapes Go.WideShapes Go.RowKit

set_option maxRecDepth 100000 in
theorem commitRights_said : Rows.CommitRightsSaid :=
  OpenClaim.holds_of_wide 4 Try.f4 rfl rfl rfl rfl rfl rfl rfl ⟨rfl, rfl, rfl, rfl, rfl⟩ rfl rfl rfl rfl rfl (by kernel_rfl) Try.func4 (by kernel_rfl)
    (of_decide_eq_true (by kernel_rfl)) (by unfold Func.isWrapper; first | (rw [if_pos (by decide +kernel)]; kernel_rfl) | (rw [if_neg (by decide +kernel)]; exact ⟨rfl, rfl⟩))
    (fun os started H enc _ => lift (s := Rows.commitRightsSpec) ⟨#[], #[.slice none 0 0, .int .i64 0], []⟩ rfl (by kernel_rfl) Try.func4 (by kernel_rfl) (by kernel_rfl) (fun _ => by kernel_rfl) (fun _ => by kernel_rfl) (fun _ => by kernel_rfl) (fun _ _ _ => by kernel_rfl) (fun _ _ _ => by kernel_rfl)
      (fun H enc W base args ds p hval hA hsz => by
        rw [Try.params4] at hA hval hsz
        obtain ⟨v0, v1, d0, d1, p0, p1, rfl, rfl, rfl, h0, h1⟩ := trodAll_two hA
        obtain ⟨A0, c0, L0, rfl, hD0, hc0, hR0, hd0⟩ := open_opsA Try.underlying24 opShape (hval 0 24 v0 rfl rfl) h0
        have hl0 := ops_lim hsz 0 rfl rfl Try.underlying24 (by kernel_rfl) hd0
        obtain ⟨b1, rfl, rfl, rfl, wf1⟩ := open_int Try.underlying3 (hval 1 3 v1 rfl rfl) h1
        exact ⟨rfl, commitRights_walk A0 c0 L0 b1 W hR0 hD0 hc0 hl0 (int_of_wf wf1)⟩) os started H enc)
#print axioms commitRights_said
end Go.Proofs.Ytjgegggcbjecbaa
