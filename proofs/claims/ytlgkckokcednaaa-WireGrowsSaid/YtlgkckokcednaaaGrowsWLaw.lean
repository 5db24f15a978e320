/- WireGrows: a greater number has at least as many bytes, and 128 times it one more. No conditions but the row's own. -/
import Derived.Test.YtlgkckokcednaaaGrowsW
import Derived.Test.YtlgkckokcednaaaLift
import Derived.Test.YtlgkckokcednaaaOpen
namespace Go.Proofs.Ytlgkckokcednaaa
open Go Go.ChangeShapes Go.WideShapes Go.RowKit

set_option maxRecDepth 100000 in
theorem wireGrows_said : Rows.WireGrowsSaid :=
  OpenClaim.holds_of_wide 10 Try.f10 rfl rfl rfl rfl rfl rfl rfl ⟨rfl, rfl, rfl, rfl, rfl⟩ rfl rfl rfl rfl rfl (by kernel_rfl) Try.func10 (by kernel_rfl)
    (of_decide_eq_true (by kernel_rfl)) (by unfold Func.isWrapper; first | (rw [if_pos (by decide +kernel)]; kernel_rfl) | (rw [if_neg (by decide +kernel)]; exact ⟨rfl, rfl⟩))
    (fun os started H enc _ => lift (s := Rows.wireGrowsSpec) ⟨#[], #[.int .i64 0, .int .i64 0], []⟩ rfl (by kernel_rfl) Try.func10 (by kernel_rfl) (by kernel_rfl) (fun _ => by kernel_rfl) (fun _ => by kernel_rfl) (fun _ => by kernel_rfl) (fun _ _ _ => by kernel_rfl) (fun _ _ _ => by kernel_rfl)
      (fun H enc W base args ds p hval hA hsz => by
        rw [Try.params10] at hA hval hsz
        obtain ⟨v0, v1, d0, d1, p0, p1, rfl, rfl, rfl, h0, h1⟩ := trodAll_two hA
        obtain ⟨b0, rfl, rfl, rfl, wf0⟩ := open_int Try.underlying3 (hval 0 3 v0 rfl rfl) h0
        obtain ⟨b1, rfl, rfl, rfl, wf1⟩ := open_int Try.underlying3 (hval 1 3 v1 rfl rfl) h1
        exact ⟨rfl, wireGrows_walk b0 b1 W (int_of_wf wf0) (int_of_wf wf1)⟩) os started H enc)
#print axioms wireGrows_said
end Go.Proofs.Ytlgkckokcednaaa
