/- WireNums: every number has the document's bytes, as many as are told, or is refused. No conditions but the row's own. -/
import Derived.Test.YtlgkckokcednaaaNumsW
import Derived.Test.YtlgkckokcednaaaLift
import Derived.Test.YtlgkckokcednaaaOpen
namespace Go.Proofs.Ytlgkckokcednaaa
open Go Go.ChangeShapes Go.WideShapes Go.RowKit

set_option maxRecDepth 100000 in
theorem wireNums_said : Rows.WireNumsSaid :=
  OpenClaim.holds_of_wide 3 Try.f3 rfl rfl rfl rfl rfl rfl rfl ⟨rfl, rfl, rfl, rfl, rfl⟩ rfl rfl rfl rfl rfl (by kernel_rfl) Try.func3 (by kernel_rfl)
    (of_decide_eq_true (by kernel_rfl)) (by unfold Func.isWrapper; first | (rw [if_pos (by decide +kernel)]; kernel_rfl) | (rw [if_neg (by decide +kernel)]; exact ⟨rfl, rfl⟩))
    (fun os started H enc _ => lift (s := Rows.wireNumsSpec) ⟨#[], #[.int .i64 0], []⟩ rfl (by kernel_rfl) Try.func3 (by kernel_rfl) (by kernel_rfl) (fun _ => by kernel_rfl) (fun _ => by kernel_rfl) (fun _ => by kernel_rfl) (fun _ _ _ => by kernel_rfl) (fun _ _ _ => by kernel_rfl)
      (fun H enc W base args ds p hval hA hsz => by
        rw [Try.params3] at hA hval hsz
        obtain ⟨v0, d0, rfl, rfl, h0⟩ := trodAll_one hA
        obtain ⟨b0, rfl, rfl, rfl, wf0⟩ := open_int Try.underlying3 (hval 0 3 v0 rfl rfl) h0
        exact ⟨rfl, wireNums_walk b0 W (int_of_wf wf0)⟩) os started H enc)
#print axioms wireNums_said
end Go.Proofs.Ytlgkckokcednaaa
