/- CommitRefs: which commits any commit's operations name is told as the document says. No conditions but the row's own. -/
import Derived.Test.YtjgegggcbjecbaaRefsW
import Derived.Test.YtjgegggcbjecbaaLift
import Derived.Test.YtjgegggcbjecbaaOpen
import Derived.Test.YtjgegggcbjecbaaOpenD
namespace Go.Proofs.Ytjgegggcbjecbaa
open Go Go.ChangeShapes Go.WideShapes Go.RowKit

set_option maxRecDepth 100000 in
theorem commitRefs_said : Rows.CommitRefsSaid :=
  OpenClaim.holds_of_wide 7 Try.f7 rfl rfl rfl rfl rfl rfl rfl ⟨rfl, rfl, rfl, rfl, rfl⟩ rfl rfl rfl rfl rfl (by kernel_rfl) Try.func7 (by kernel_rfl)
    (of_decide_eq_true (by kernel_rfl)) (by unfold Func.isWrapper; first | (rw [if_pos (by decide +kernel)]; kernel_rfl) | (rw [if_neg (by decide +kernel)]; exact ⟨rfl, rfl⟩))
    (fun os started H enc _ => lift (s := Rows.commitRefsSpec) ⟨#[], #[.agg #[.slice none 0 0, .string ⟨#[]⟩, .string ⟨#[]⟩, .slice none 0 0]], []⟩ rfl (by kernel_rfl) Try.func7 (by kernel_rfl) (by kernel_rfl) (fun _ => by kernel_rfl) (fun _ => by kernel_rfl) (fun _ => by kernel_rfl) (fun _ _ _ => by kernel_rfl) (fun _ _ _ => by kernel_rfl)
      (fun H enc W base args ds p hval hA hsz => by
        rw [Try.params7] at hA hval hsz
        obtain ⟨v0, d0, rfl, rfl, h0⟩ := trodAll_one hA
        obtain ⟨A0, c0, B0, k0, m0, hI0, hd0⟩ := open_cm2 Try.underlying31 (by kernel_rfl) Try.underlying29 Try.underlying47 Try.underlying5 (by kernel_rfl) (by kernel_rfl) Try.underlying9 Try.underlying9 Try.underlying24 opShape (by kernel_rfl) (hval 0 31 v0 rfl rfl) h0
        have hm0 := cm_lim hsz 0 rfl rfl Try.underlying31 Try.underlying29 Try.underlying24 (by kernel_rfl) (by kernel_rfl) hd0
        exact ⟨rfl, commitRefs_walk m0 _ A0 c0 B0 k0 W hI0 hm0⟩) os started H enc)
#print axioms commitRefs_said
end Go.Proofs.Ytjgegggcbjecbaa
