/- DigestKnown: from its walk to its statement and its card. -/
import Derived.Test.YtkgkllpecpcgjaaDoorKnownW
import Derived.Test.YtkgkllpecpcgjaaDoorLift
import Derived.Test.YtkgkllpecpcgjaaDoorOpen
namespace Go.Proofs.YtkgkllpecpcgjaaDoor
open Go Go.ChangeShapes Go.WideShapes Go.RowKit

set_option maxRecDepth 100000 in
theorem digestKnown_said : Rows.DigestKnownSaid :=
  OpenClaim.holds_of_wide 4 Tryd.f4 rfl rfl rfl rfl rfl rfl rfl ⟨rfl, rfl, rfl, rfl, rfl⟩ rfl rfl rfl rfl rfl (by kernel_rfl) Tryd.func4 (by kernel_rfl)
    (of_decide_eq_true (by kernel_rfl)) (by unfold Func.isWrapper; first | (rw [if_pos (by decide +kernel)]; kernel_rfl) | (rw [if_neg (by decide +kernel)]; exact ⟨rfl, rfl⟩))
    (fun os started H enc _ => lift (s := Rows.digestKnownSpec) #[] rfl (by kernel_rfl) Tryd.func4 (by kernel_rfl) (by kernel_rfl) (fun _ => by kernel_rfl) (fun _ _ _ => by kernel_rfl) (fun _ _ _ => by kernel_rfl)
      (fun H enc W base args ds p hval hA hsz hL => by
        rw [Tryd.params4] at hA hval hsz
        obtain ⟨hargs, rfl, rfl⟩ := trodAll_nil hA
        obtain rfl : args = #[] := by cases args; simp_all
        skip
        exact ⟨rfl, digestKnown_walk  W (kt_of hL)⟩) os started H enc)

theorem digestKnown_holds : Rows.DigestKnownCardSaid :=
  Claim7.holds_tied_plain_at .later [] [.data] true Rows.digestKnownCard.stood.harness false
    digestKnown_said (fun _ h => by cases h) (by kernel_rfl) (fun _ h => by cases h) digestKnown_row_tie rfl ⟨rfl, rfl⟩ (by kernel_rfl) rfl
    (fun f fn hf hfn => by
      obtain rfl : f = 4 := Option.some.inj ((show Tryd.prog.funcNamed Rows.digestKnownRow.func = some 4 by kernel_rfl).symm.trans hf) |>.symm
      obtain rfl : fn = Tryd.f4 := (Option.some.inj (Tryd.func4.symm.trans hfn)).symm
      exact ⟨by kernel_rfl, fun j t ht => by
        rw [Tryd.params4] at ht
        simp at ht⟩)
    (by kernel_rfl)
#print axioms digestKnown_holds
end Go.Proofs.YtkgkllpecpcgjaaDoor
