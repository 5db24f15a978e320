/- WireReads: the number that stands at any place of any bytes is read as the document says, or refused. No conditions but the row's own. -/
import Derived.Test.YtlgkckokcednaaaReadsW
import Derived.Test.YtlgkckokcednaaaLift
import Derived.Test.YtlgkckokcednaaaOpen
namespace Go.Proofs.Ytlgkckokcednaaa
open Go Go.ChangeShapes Go.WideShapes Go.RowKit

set_option maxRecDepth 100000 in
theorem wireReads_said : Rows.WireReadsSaid :=
  OpenClaim.holds_of_wide 4 Try.f4 rfl rfl rfl rfl rfl rfl rfl ⟨rfl, rfl, rfl, rfl, rfl⟩ rfl rfl rfl rfl rfl (by kernel_rfl) Try.func4 (by kernel_rfl)
    (of_decide_eq_true (by kernel_rfl)) (by unfold Func.isWrapper; first | (rw [if_pos (by decide +kernel)]; kernel_rfl) | (rw [if_neg (by decide +kernel)]; exact ⟨rfl, rfl⟩))
    (fun os started H enc _ => lift (s := Rows.wireReadsSpec) ⟨#[], #[.slice none 0 0, .int .i64 0], []⟩ rfl (by kernel_rfl) Try.func4 (by kernel_rfl) (by kernel_rfl) (fun _ => by kernel_rfl) (fun _ => by kernel_rfl) (fun _ => by kernel_rfl) (fun _ _ _ => by kernel_rfl) (fun _ _ _ => by kernel_rfl)
      (fun H enc W base args ds p hval hA hsz => by
        rw [Try.params4] at hA hval hsz
        obtain ⟨v0, v1, d0, d1, p0, p1, rfl, rfl, rfl, h0, h1⟩ := trodAll_two hA
        obtain ⟨A0, c0, l0, hb0⟩ := open_bytes Try.underlying22 Try.underlying5 (by kernel_rfl) (hval 0 22 v0 rfl rfl) h0
        have hc0 := bytes_cap hsz 0 rfl rfl Try.underlying22 (by kernel_rfl) hb0
        obtain ⟨rfl, hl0, hm0, hr0, hq0⟩ := hb0
        obtain ⟨b1, rfl, rfl, rfl, wf1⟩ := open_int Try.underlying3 (hval 1 3 v1 rfl rfl) h1
        exact ⟨rfl, wireReads_walk A0 c0 l0 b1 W hr0 hl0 hc0 (int_of_wf wf1)⟩) os started H enc)
#print axioms wireReads_said
end Go.Proofs.Ytlgkckokcednaaa
