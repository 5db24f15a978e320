/- DigestHexes: from its walk to its statement and its card. -/
import Derived.Test.YtkgkllpecpcgjaaDoorHexesW
import Derived.Test.YtkgkllpecpcgjaaDoorLift
import Derived.Test.YtkgkllpecpcgjaaDoorOpen
namespace Go.Proofs.YtkgkllpecpcgjaaDoor
open Go Go.ChangeShapes Go.WideShapes Go.RowKit

set_option maxRecDepth 100000 in
theorem digestHexes_said : Rows.DigestHexesSaid :=
  OpenClaim.holds_of_wide 5 Tryd.f5 rfl rfl rfl rfl rfl rfl rfl ⟨rfl, rfl, rfl, rfl, rfl⟩ rfl rfl rfl rfl rfl (by kernel_rfl) Tryd.func5 (by kernel_rfl)
    (of_decide_eq_true (by kernel_rfl)) (by unfold Func.isWrapper; first | (rw [if_pos (by decide +kernel)]; kernel_rfl) | (rw [if_neg (by decide +kernel)]; exact ⟨rfl, rfl⟩))
    (fun os started H enc _ => lift (s := Rows.digestHexesSpec) #[.agg (bv (List.replicate 32 0)).toArray, .string ⟨#[]⟩] rfl (by kernel_rfl) Tryd.func5 (by kernel_rfl) (by kernel_rfl) (fun _ => by kernel_rfl) (fun _ _ _ => by kernel_rfl) (fun _ _ _ => by kernel_rfl)
      (fun H enc W base args ds p hval hA hsz hL => by
        rw [Tryd.params5] at hA hval hsz
        obtain ⟨v0, v1, d0, d1, p0, p1, rfl, rfl, rfl, h0, h1⟩ := trodAll_two hA
        obtain ⟨l0, hl0, rfl⟩ := open_arr (n := 32) Tryd.underlying24 Tryd.underlying5 (by kernel_rfl) (by kernel_rfl) (hval 0 24 v0 rfl rfl) h0
        obtain ⟨b1, rfl, rfl, rfl, wf1⟩ := Go.ChangeMaps.open_string Tryd.underlying9 (hval 1 9 v1 rfl rfl) h1
        exact ⟨rfl, digestHexes_walk l0 b1 W hl0 (kt_of hL)⟩) os started H enc)

theorem digestHexes_holds : Rows.DigestHexesCardSaid :=
  Claim7.holds_tied_plain_at .later [] [.data] true Rows.digestHexesCard.stood.harness false
    digestHexes_said (fun _ h => by cases h) (by kernel_rfl) (fun _ h => by cases h) digestHexes_row_tie rfl ⟨rfl, rfl⟩ (by kernel_rfl) rfl
    (fun f fn hf hfn => by
      obtain rfl : f = 5 := Option.some.inj ((show Tryd.prog.funcNamed Rows.digestHexesRow.func = some 5 by kernel_rfl).symm.trans hf) |>.symm
      obtain rfl : fn = Tryd.f5 := (Option.some.inj (Tryd.func5.symm.trans hfn)).symm
      exact ⟨by kernel_rfl, fun j t ht => by
        rw [Tryd.params5] at ht
        have hm : t ∈ ([24, 9] : List TypeId) := by simpa using Array.mem_of_getElem? ht
        have hall : (([24, 9] : List TypeId).all fun u => !Tryd.prog.wantsStandIn u) = true := by kernel_rfl
        exact (show Tryd.prog.wantsStandIn t = false by simpa using List.all_eq_true.1 hall t hm)⟩)
    (by kernel_rfl)
#print axioms digestHexes_holds
end Go.Proofs.YtkgkllpecpcgjaaDoor
