/- DeltaShort: a delta has at most six bytes more than its target, and the same for the same. No conditions but the row's own. -/
import Derived.Test.YtemcfmneokbhkaaBackW
import Derived.Test.YtemcfmneokbhkaaLift
import Derived.Test.YtemcfmneokbhkaaOpen
namespace Go.Proofs.Ytemcfmneokbhkaa
open Go Go.ChangeShapes Go.WideShapes Go.RowKit

set_option maxRecDepth 100000 in
theorem deltaShort_said : Rows.DeltaShortSaid :=
  OpenClaim.holds_of_wide 6 Try.f6 rfl rfl rfl rfl rfl rfl rfl ⟨rfl, rfl, rfl, rfl, rfl⟩ rfl rfl rfl rfl rfl (by kernel_rfl) Try.func6 (by kernel_rfl)
    (of_decide_eq_true (by kernel_rfl)) (by unfold Func.isWrapper; first | (rw [if_pos (by decide +kernel)]; kernel_rfl) | (rw [if_neg (by decide +kernel)]; exact ⟨rfl, rfl⟩))
    (fun os started H enc _ => lift (s := Rows.deltaShortSpec) ⟨#[], #[.slice none 0 0, .slice none 0 0], []⟩ rfl (by kernel_rfl) Try.func6 (by kernel_rfl) (by kernel_rfl) (fun _ => by kernel_rfl) (fun _ => by kernel_rfl) (fun _ => by kernel_rfl) (fun _ _ _ => by kernel_rfl) (fun _ _ _ => by kernel_rfl)
      (fun H enc W base args ds p hval hA hsz => by
        rw [Try.params6] at hA hval hsz
        obtain ⟨v0, v1, d0, d1, p0, p1, rfl, rfl, rfl, h0, h1⟩ := trodAll_two hA
        obtain ⟨A0, c0, l0, hb0⟩ := open_bytes Try.underlying22 Try.underlying5 (by kernel_rfl) (hval 0 22 v0 rfl rfl) h0
        have hc0 := bytes_cap hsz 0 rfl rfl Try.underlying22 (by kernel_rfl) hb0
        obtain ⟨rfl, hl0, hm0, hr0, hq0⟩ := hb0
        obtain ⟨A1, c1, l1, hb1⟩ := open_bytes Try.underlying22 Try.underlying5 (by kernel_rfl) (hval 1 22 v1 rfl rfl) h1
        have hc1 := bytes_cap hsz 1 rfl rfl Try.underlying22 (by kernel_rfl) hb1
        obtain ⟨rfl, hl1, hm1, hr1, hq1⟩ := hb1
        exact ⟨rfl, deltaShort_walk A0 c0 l0 A1 c1 l1 W hr0 hl0 hc0 hr1 hl1 hc1⟩) os started H enc)
#print axioms deltaShort_said
end Go.Proofs.Ytemcfmneokbhkaa
