/- DiffLeast: from its walk to its statement. -/
import Derived.Test.YtmanafhdmijfeaaLeastW
import Derived.Test.YtmanafhdmijfeaaLift
import Derived.Test.YtmanafhdmijfeaaOpenE
namespace Go.Proofs.Ytmanafhdmijfeaa
open Go Go.ChangeShapes Go.WideShapes Go.ChangeAt Go.RowKit

set_option maxRecDepth 100000 in
theorem diffLeast_said : Rows.DiffLeastSaid :=
  OpenClaim.holds_of_wide 8 Try.f8 rfl rfl rfl rfl rfl rfl rfl ⟨rfl, rfl, rfl, rfl, rfl⟩ rfl rfl rfl rfl rfl (by kernel_rfl) Try.func8 (by kernel_rfl)
    (of_decide_eq_true (by kernel_rfl)) (by unfold Func.isWrapper; first | (rw [if_pos (by decide +kernel)]; kernel_rfl) | (rw [if_neg (by decide +kernel)]; exact ⟨rfl, rfl⟩))
    (fun os started H enc _ => lift (s := Rows.diffLeastSpec) ⟨#[], #[.string ⟨#[]⟩, .slice none 0 0], []⟩ rfl (by kernel_rfl) Try.func8 (by kernel_rfl) (by kernel_rfl) (fun _ => by kernel_rfl) (fun _ => by kernel_rfl) (fun _ => by kernel_rfl) (fun _ _ _ => by kernel_rfl) (fun _ _ _ => by kernel_rfl)
      (fun H enc W base args ds p hval hA hsz => by
        rw [Try.params8] at hA hval hsz
        obtain ⟨v0, v1, d0, d1, p0, p1, rfl, rfl, rfl, h0, h1⟩ := trodAll_two hA
        obtain ⟨b0, rfl, rfl, rfl, wf0⟩ := Go.ChangeMaps.open_string Try.underlying9 (hval 0 9 v0 rfl rfl) h0
        obtain ⟨A1, c1, L1, hb1⟩ := open_eds Try.underlying22 Try.underlying32 (by kernel_rfl) (by kernel_rfl) Try.underlying3 Try.underlying3 Try.underlying9 (hval 1 22 v1 rfl rfl) h1
        have s0 := size_of_sized hsz 0 rfl rfl
        obtain ⟨hl1, ht1⟩ := eds_lim hsz 1 rfl rfl Try.underlying22 Try.underlying32 (by kernel_rfl) hb1
        obtain ⟨rfl, hc1, hr1, -⟩ := hb1
        exact ⟨rfl, diffLeast_walk b0 A1 c1 L1 W (by omega) hr1 (by omega) hc1 (fun x hx => Nat.le_trans (ht1 x hx) (by decide))⟩) os started H enc)
#print axioms diffLeast_said
end Go.Proofs.Ytmanafhdmijfeaa
