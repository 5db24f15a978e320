/- DigestNobody: from its walk to its statement and its card. -/
import Derived.Test.YtkgkllpecpcgjaaDoorNobodyW
import Derived.Test.YtkgkllpecpcgjaaDoorLift
import Derived.Test.YtkgkllpecpcgjaaDoorOpen
namespace Go.Proofs.YtkgkllpecpcgjaaDoor
open Go Go.ChangeShapes Go.WideShapes Go.RowKit

set_option maxRecDepth 100000 in
theorem digestNobody_said : Rows.DigestNobodySaid :=
  OpenClaim.holds_of_wide 11 Tryd.f11 rfl rfl rfl rfl rfl rfl rfl ⟨rfl, rfl, rfl, rfl, rfl⟩ rfl rfl rfl rfl rfl (by kernel_rfl) Tryd.func11 (by kernel_rfl)
    (of_decide_eq_true (by kernel_rfl)) (by unfold Func.isWrapper; first | (rw [if_pos (by decide +kernel)]; kernel_rfl) | (rw [if_neg (by decide +kernel)]; exact ⟨rfl, rfl⟩))
    (fun os started H enc _ => lift (s := Rows.digestNobodySpec) #[.slice none 0 0] rfl (by kernel_rfl) Tryd.func11 (by kernel_rfl) (by kernel_rfl) (fun _ => by kernel_rfl) (fun _ _ _ => by kernel_rfl) (fun _ _ _ => by kernel_rfl)
      (fun H enc W base args ds p hval hA hsz hL => by
        rw [Tryd.params11] at hA hval hsz
        obtain ⟨v0, d0, rfl, rfl, h0⟩ := trodAll_one hA
        obtain ⟨A0, n0, c0, rfl⟩ := open_slice_any Tryd.underlying22 (hval 0 22 v0 rfl rfl)
        exact ⟨rfl, digestNobody_walk A0 c0 n0 W (kt_of hL)⟩) os started H enc)

theorem digestNobody_holds : Rows.DigestNobodyCardSaid :=
  Claim7.holds_tied_plain_at .later [] [.data] true Rows.digestNobodyCard.stood.harness false
    digestNobody_said (fun _ h => by cases h) (by kernel_rfl) (fun _ h => by cases h) digestNobody_row_tie rfl ⟨rfl, rfl⟩ (by kernel_rfl) rfl
    (fun f fn hf hfn => by
      obtain rfl : f = 11 := Option.some.inj ((show Tryd.prog.funcNamed Rows.digestNobodyRow.func = some 11 by kernel_rfl).symm.trans hf) |>.symm
      obtain rfl : fn = Tryd.f11 := (Option.some.inj (Tryd.func11.symm.trans hfn)).symm
      exact ⟨by kernel_rfl, fun j t ht => by
        rw [Tryd.params11] at ht
        have hm : t ∈ ([22] : List TypeId) := by simpa using Array.mem_of_getElem? ht
        have hall : (([22] : List TypeId).all fun u => !Tryd.prog.wantsStandIn u) = true := by kernel_rfl
        exact (show Tryd.prog.wantsStandIn t = false by simpa using List.all_eq_true.1 hall t hm)⟩)
    (by kernel_rfl)
#print axioms digestNobody_holds
end Go.Proofs.YtkgkllpecpcgjaaDoor
