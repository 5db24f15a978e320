/- DeltaParts: a target that stands in the base, with eight bytes or more, is told by at most eight. No conditions but the row's own. -/
import Derived.Test.YtemcfmneokbhkaaOtherW
import Derived.Test.YtemcfmneokbhkaaLift
import Derived.Test.YtemcfmneokbhkaaOpen
namespace Go.Proofs.Ytemcfmneokbhkaa
open Go Go.ChangeShapes Go.WideShapes Go.RowKit

set_option maxRecDepth 100000 in
theorem deltaParts_said : Rows.DeltaPartsSaid :=
  OpenClaim.holds_of_wide 7 Try.f7 rfl rfl rfl rfl rfl rfl rfl ⟨rfl, rfl, rfl, rfl, rfl⟩ rfl rfl rfl rfl rfl (by kernel_rfl) Try.func7 (by kernel_rfl)
    (of_decide_eq_true (by kernel_rfl)) (by unfold Func.isWrapper; first | (rw [if_pos (by decide +kernel)]; kernel_rfl) | (rw [if_neg (by decide +kernel)]; exact ⟨rfl, rfl⟩))
    (fun os started H enc _ => lift (s := Rows.deltaPartsSpec) ⟨#[], #[.slice none 0 0, .int .i64 0, .int .i64 0], []⟩ rfl (by kernel_rfl) Try.func7 (by kernel_rfl) (by kernel_rfl) (fun _ => by kernel_rfl) (fun _ => by kernel_rfl) (fun _ => by kernel_rfl) (fun _ _ _ => by kernel_rfl) (fun _ _ _ => by kernel_rfl)
      (fun H enc W base args ds p hval hA hsz => by
        rw [Try.params7] at hA hval hsz
        obtain ⟨v0, v1, v2, d0, d1, d2, p0, p1, p2, rfl, rfl, rfl, h0, h1, h2⟩ := trodAll_three hA
        obtain ⟨A0, c0, l0, hb0⟩ := open_bytes Try.underlying22 Try.underlying5 (by kernel_rfl) (hval 0 22 v0 rfl rfl) h0
        have hc0 := bytes_cap hsz 0 rfl rfl Try.underlying22 (by kernel_rfl) hb0
        obtain ⟨rfl, hl0, hm0, hr0, hq0⟩ := hb0
        obtain ⟨b1, rfl, rfl, rfl, wf1⟩ := open_int Try.underlying3 (hval 1 3 v1 rfl rfl) h1
        obtain ⟨b2, rfl, rfl, rfl, wf2⟩ := open_int Try.underlying3 (hval 2 3 v2 rfl rfl) h2
        exact ⟨rfl, deltaParts_walk A0 c0 l0 b1 b2 W hr0 hl0 hc0 (int_of_wf wf1) (int_of_wf wf2)⟩) os started H enc)
#print axioms deltaParts_said
end Go.Proofs.Ytemcfmneokbhkaa
