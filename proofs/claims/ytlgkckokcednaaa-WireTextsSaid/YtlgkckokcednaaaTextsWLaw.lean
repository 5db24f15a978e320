/- WireTexts: every text has the document's bytes, and the text at any place of any bytes is read, or refused, as the document says. No conditions but the row's own. -/
import Derived.Test.YtlgkckokcednaaaTextsW
import Derived.Test.YtlgkckokcednaaaLift
import Derived.Test.YtlgkckokcednaaaOpen
namespace Go.Proofs.Ytlgkckokcednaaa
open Go Go.ChangeShapes Go.WideShapes Go.RowKit

set_option maxRecDepth 100000 in
theorem wireTexts_said : Rows.WireTextsSaid :=
  OpenClaim.holds_of_wide 5 Try.f5 rfl rfl rfl rfl rfl rfl rfl ⟨rfl, rfl, rfl, rfl, rfl⟩ rfl rfl rfl rfl rfl (by kernel_rfl) Try.func5 (by kernel_rfl)
    (of_decide_eq_true (by kernel_rfl)) (by unfold Func.isWrapper; first | (rw [if_pos (by decide +kernel)]; kernel_rfl) | (rw [if_neg (by decide +kernel)]; exact ⟨rfl, rfl⟩))
    (fun os started H enc _ => lift (s := Rows.wireTextsSpec) ⟨#[], #[.string ⟨#[]⟩, .slice none 0 0, .int .i64 0], []⟩ rfl (by kernel_rfl) Try.func5 (by kernel_rfl) (by kernel_rfl) (fun _ => by kernel_rfl) (fun _ => by kernel_rfl) (fun _ => by kernel_rfl) (fun _ _ _ => by kernel_rfl) (fun _ _ _ => by kernel_rfl)
      (fun H enc W base args ds p hval hA hsz => by
        rw [Try.params5] at hA hval hsz
        obtain ⟨v0, v1, v2, d0, d1, d2, p0, p1, p2, rfl, rfl, rfl, h0, h1, h2⟩ := trodAll_three hA
        obtain ⟨b0, rfl, rfl, rfl, wf0⟩ := Go.ChangeMaps.open_string Try.underlying9 (hval 0 9 v0 rfl rfl) h0
        obtain ⟨A1, c1, l1, hb1⟩ := open_bytes Try.underlying22 Try.underlying5 (by kernel_rfl) (hval 1 22 v1 rfl rfl) h1
        have hc1 := bytes_cap hsz 1 rfl rfl Try.underlying22 (by kernel_rfl) hb1
        obtain ⟨rfl, hl1, hm1, hr1, hq1⟩ := hb1
        obtain ⟨b2, rfl, rfl, rfl, wf2⟩ := open_int Try.underlying3 (hval 2 3 v2 rfl rfl) h2
        exact ⟨rfl, wireTexts_walk b0 A1 c1 l1 b2 W (size_of_sized hsz 0 rfl rfl) hr1 hl1 hc1 (int_of_wf wf2)⟩) os started H enc)
#print axioms wireTexts_said
end Go.Proofs.Ytlgkckokcednaaa
