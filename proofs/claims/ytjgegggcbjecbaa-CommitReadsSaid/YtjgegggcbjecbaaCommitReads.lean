/- CommitReads: any bytes are read as the commit that the document says, or refused as it says. No conditions but the row's own. -/
import Derived.Test.YtjgegggcbjecbaaReadsW
import Derived.Test.YtjgegggcbjecbaaLift
import Derived.Test.YtjgegggcbjecbaaOpen
import Derived.Test.YtjgegggcbjecbaaOpenD
namespace Go.Proofs.Ytjgegggcbjecbaa
open Go Go.ChangeShapes Go.WideShapes Go.RowKit

set_option maxRecDepth 100000 in
theorem commitReads_said : Rows.CommitReadsSaid :=
  OpenClaim.holds_of_wide 6 Try.f6 rfl rfl rfl rfl rfl rfl rfl ⟨rfl, rfl, rfl, rfl, rfl⟩ rfl rfl rfl rfl rfl (by kernel_rfl) Try.func6 (by kernel_rfl)
    (of_decide_eq_true (by kernel_rfl)) (by unfold Func.isWrapper; first | (rw [if_pos (by decide +kernel)]; kernel_rfl) | (rw [if_neg (by decide +kernel)]; exact ⟨rfl, rfl⟩))
    (fun os started H enc _ => lift (s := Rows.commitReadsSpec) ⟨#[], #[.slice none 0 0], []⟩ rfl (by kernel_rfl) Try.func6 (by kernel_rfl) (by kernel_rfl) (fun _ => by kernel_rfl) (fun _ => by kernel_rfl) (fun _ => by kernel_rfl) (fun _ _ _ => by kernel_rfl) (fun _ _ _ => by kernel_rfl)
      (fun H enc W base args ds p hval hA hsz => by
        rw [Try.params6] at hA hval hsz
        obtain ⟨v0, d0, rfl, rfl, h0⟩ := trodAll_one hA
        obtain ⟨A0, c0, l0, hb0⟩ := open_bytes Try.underlying35 Try.underlying5 (by kernel_rfl) (hval 0 35 v0 rfl rfl) h0
        have hc0 := bytes_cap hsz 0 rfl rfl Try.underlying35 (by kernel_rfl) hb0
        obtain ⟨rfl, hl0, -, hr0, -⟩ := hb0
        exact ⟨rfl, commitReads_walk A0 c0 l0 W hr0 hl0 hc0⟩) os started H enc)
#print axioms commitReads_said
end Go.Proofs.Ytjgegggcbjecbaa
