/- DigestPlays, where what is read is of bulk at most 1048576: from its walk to its statement and its card. -/
import Derived.Test.YtkgkllpecpcgjaaDoorPlaysW
import Derived.Test.YtkgkllpecpcgjaaDoorLift
import Derived.Test.YtkgkllpecpcgjaaDoorOpenL
import Derived.Test.YtkgkllpecpcgjaaDoorOpenA
namespace Go.Proofs.YtkgkllpecpcgjaaDoor
open Go Go.ChangeShapes Go.WideShapes Go.ChangeAt Go.RowKit

set_option maxRecDepth 100000 in
theorem digestPlays_upto : Rows.DigestPlaysUptoSaid :=
  OpenClaim.holds_of_cond 7 Tryd.f7 rfl rfl rfl rfl rfl rfl rfl ⟨rfl, rfl, rfl, rfl, rfl⟩ rfl rfl rfl rfl rfl (by kernel_rfl) Tryd.func7 (by kernel_rfl)
    (of_decide_eq_true (by kernel_rfl)) (by unfold Func.isWrapper; first | (rw [if_pos (by decide +kernel)]; kernel_rfl) | (rw [if_neg (by decide +kernel)]; exact ⟨rfl, rfl⟩))
    (fun os started H enc _ F => by
      rw [OpenClaim.pre_eq_preRow]
      exact liftUpto (s := Rows.digestPlaysSpec) #[.slice none 0 0] rfl (by kernel_rfl) Tryd.func7 (by kernel_rfl) (by kernel_rfl) (fun _ => by kernel_rfl)
        (fun _ => [.nil]) [] (fun _ _ _ => by kernel_rfl) (fun _ => by kernel_rfl) (fun _ _ _ => by kernel_rfl)
        (fun H enc W base args ds p hval hA hk hL => by
          rw [Tryd.params7] at hA hval
          obtain ⟨v0, d0, rfl, rfl, h0⟩ := trodAll_one hA
          obtain ⟨A, c, L, rfl, hr, hx, hb⟩ := open_acts Tryd.underlying33 Tryd.underlying39 (by kernel_rfl) (by kernel_rfl) Tryd.underlying3 Tryd.underlying4 Tryd.underlying22 Tryd.underlying5 (by kernel_rfl) (hval 0 33 v0 rfl rfl) h0
          simp only [Rows.uptoBulkAll] at hk
          exact ⟨rfl, digestPlays_walk A c L W hr (by omega) hx (by omega) (kt_of hL)⟩) os started H enc F)

theorem digestPlays_holds : Rows.DigestPlaysUptoCardSaid :=
  Claim7.holds_tied_plain_at .later [] [.data] true Rows.digestPlaysUptoCard.stood.harness false
    digestPlays_upto (fun _ h => by cases h) (by kernel_rfl) (fun _ h => by cases h) digestPlaysUpto_row_tie rfl ⟨rfl, rfl⟩ (by kernel_rfl) rfl
    (fun f fn hf hfn => by
      obtain rfl : f = 7 := Option.some.inj ((show Tryd.prog.funcNamed Rows.digestPlaysUptoRow.func = some 7 by kernel_rfl).symm.trans hf) |>.symm
      obtain rfl : fn = Tryd.f7 := (Option.some.inj (Tryd.func7.symm.trans hfn)).symm
      exact ⟨by kernel_rfl, fun j t ht => by
        rw [Tryd.params7] at ht
        obtain rfl : t = 33 := by simpa using Array.mem_of_getElem? ht
        exact (show Tryd.prog.wantsStandIn 33 = false by kernel_rfl)⟩)
    (by kernel_rfl)
#print axioms digestPlays_holds
end Go.Proofs.YtkgkllpecpcgjaaDoor
