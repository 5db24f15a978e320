/- DiffAround: from its walk to its statement. -/
import Derived.Test.YtmanafhdmijfeaaAroundW
import Derived.Test.YtmanafhdmijfeaaLift
import Derived.Test.YtmanafhdmijfeaaOpenE
namespace Go.Proofs.Ytmanafhdmijfeaa
open Go Go.ChangeShapes Go.WideShapes Go.ChangeAt Go.RowKit

set_option maxRecDepth 100000 in
theorem diffAround_said : Rows.DiffAroundSaid :=
  OpenClaim.holds_of_wide 11 Try.f11 rfl rfl rfl rfl rfl rfl rfl ⟨rfl, rfl, rfl, rfl, rfl⟩ rfl rfl rfl rfl rfl (by kernel_rfl) Try.func11 (by kernel_rfl)
    (of_decide_eq_true (by kernel_rfl)) (by unfold Func.isWrapper; first | (rw [if_pos (by decide +kernel)]; kernel_rfl) | (rw [if_neg (by decide +kernel)]; exact ⟨rfl, rfl⟩))
    (fun os started H enc _ => lift (s := Rows.diffAroundSpec) ⟨#[], #[.string ⟨#[]⟩, .string ⟨#[]⟩, .agg #[.string ⟨#[]⟩, .string ⟨#[]⟩]], []⟩ rfl (by kernel_rfl) Try.func11 (by kernel_rfl) (by kernel_rfl) (fun _ => by kernel_rfl) (fun _ => by kernel_rfl) (fun _ => by kernel_rfl) (fun _ _ _ => by kernel_rfl) (fun _ _ _ => by kernel_rfl)
      (fun H enc W base args ds p hval hA hsz => by
        rw [Try.params11] at hA hval hsz
        obtain ⟨v0, v1, v2, d0, d1, d2, p0, p1, p2, rfl, rfl, rfl, h0, h1, h2⟩ := trodAll_three hA
        obtain ⟨b0, rfl, rfl, rfl, wf0⟩ := Go.ChangeMaps.open_string Try.underlying9 (hval 0 9 v0 rfl rfl) h0
        obtain ⟨b1, rfl, rfl, rfl, wf1⟩ := Go.ChangeMaps.open_string Try.underlying9 (hval 1 9 v1 rfl rfl) h1
        obtain ⟨x2, y2, rfl, rfl⟩ := open_str2 Try.underlying47 Try.underlying9 (by kernel_rfl) (by kernel_rfl) (hval 2 47 v2 rfl rfl) h2
        have s0 := size_of_sized hsz 0 rfl rfl
        have s1 := size_of_sized hsz 1 rfl rfl
        obtain ⟨sx2, sy2⟩ := str2_lim hsz 2 rfl rfl Try.underlying47
        rw [Array.length_toList] at sx2 sy2
        have tx2 : x2.size ≤ 140737488351232 := sx2
        have ty2 : y2.size ≤ 140737488351232 := sy2
        exact ⟨rfl, diffAround_walk b0 b1 x2 y2 W (by omega) (by omega) (by omega) (by omega)⟩) os started H enc)
#print axioms diffAround_said
end Go.Proofs.Ytmanafhdmijfeaa
