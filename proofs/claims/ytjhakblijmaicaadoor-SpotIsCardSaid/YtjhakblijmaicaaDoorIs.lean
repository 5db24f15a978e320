/- SpotIs: for any two parts, the program tells whether they are a spot as the document's answer does, and what must come comes. No conditions but the row's own. -/
import Derived.Test.YtjhakblijmaicaaDoorAlive
import Derived.Test.YtjhakblijmaicaaDoorLift
namespace Go.Proofs.YtjhakblijmaicaaDoor
open Go Go.ChangeShapes Go.WideShapes Go.RowKit

set_option maxHeartbeats 400000 in
theorem spotIs_walk (re im : Nat) (w : World) (_ : re < 2 ^ 64) (_ : im < 2 ^ 64) : Calls Tryd.prog 4 #[.float .f64 re, .float .f64 im] w (Ret (.bool true) w) := by
  by_cases h : Fl.part re = none ∨ Fl.part im = none
  · have C1 := Lib.hid (fun w => refIs_no re im w h)
    have C2 := Lib.hid (fun w => is_no re im w h)
    clear h
    go_enter Tryd.func4, Tryd.ntmps4
    go_wp2_with fail
    refine (C1.out _).mono ?_; rintro e w1 ⟨rfl, hb⟩
    go_wp2_with fail
    refine (C2.out _).mono ?_; rintro e w2 ⟨rfl, rfl⟩
    go_wp2_with fail
    refine (alive_any _).mono ?_; rintro e w2 ⟨rfl, rfl⟩
    go_wp2
    go_ret
    exact ⟨rfl, hb.alloc hb.size _⟩
  · obtain ⟨m, h1⟩ := Option.ne_none_iff_exists'.1 (fun e => h (Or.inl e))
    obtain ⟨n, h2⟩ := Option.ne_none_iff_exists'.1 (fun e => h (Or.inr e))
    have C1 := Lib.hid (fun w => refIs_yes re im w m n h1 h2)
    have C2 := Lib.hid (fun w => is_yes re im w m n h1 h2)
    clear h h1 h2
    go_enter Tryd.func4, Tryd.ntmps4
    go_wp2_with fail
    refine (C1.out _).mono ?_; rintro e w1 ⟨rfl, hb⟩
    go_wp2_with fail
    refine (C2.out _).mono ?_; rintro e w2 ⟨rfl, rfl⟩
    go_wp2_with fail
    refine (alive_any _).mono ?_; rintro e w2 ⟨rfl, rfl⟩
    go_wp2
    go_ret
    exact ⟨rfl, hb.alloc hb.size _⟩

set_option maxRecDepth 100000 in
theorem spotIs_said : Rows.SpotIsSaid :=
  OpenClaim.holds_of_wide 4 Tryd.f4 rfl rfl rfl rfl rfl rfl rfl ⟨rfl, rfl, rfl, rfl, rfl⟩ rfl rfl rfl rfl rfl (by kernel_rfl) Tryd.func4 (by kernel_rfl)
    (of_decide_eq_true (by kernel_rfl)) (by unfold Func.isWrapper; first | (rw [if_pos (by decide +kernel)]; kernel_rfl) | (rw [if_neg (by decide +kernel)]; exact ⟨rfl, rfl⟩))
    (fun os started H enc _ => lift (s := Rows.spotIsSpec) #[.float .f64 0, .float .f64 0] rfl (by kernel_rfl) Tryd.func4 (by kernel_rfl) (by kernel_rfl) (fun _ => by kernel_rfl) (fun _ _ _ => by kernel_rfl) (fun _ _ _ => by kernel_rfl)
      (fun H enc W base args ds p hval hA hsz hL => by
        rw [Tryd.params4] at hA hval hsz
        obtain ⟨v0, v1, d0, d1, p0, p1, rfl, rfl, rfl, h0, h1⟩ := trodAll_two hA
        obtain ⟨b0, rfl, rfl, rfl, wf0⟩ := open_float Tryd.underlying30 (hval 0 30 v0 rfl rfl) h0
        obtain ⟨b1, rfl, rfl, rfl, wf1⟩ := open_float Tryd.underlying30 (hval 1 30 v1 rfl rfl) h1
        exact ⟨rfl, spotIs_walk b0 b1 W (bits_of_wf wf0) (bits_of_wf wf1)⟩) os started H enc)

theorem spotIs_holds : Rows.SpotIsCardSaid :=
  Claim7.holds_tied_plain_at .later [] [.data, .data, .data] true Rows.spotIsCard.stood.harness false
    spotIs_said (fun _ h => by cases h) (by kernel_rfl) (fun _ h => by cases h) spotIs_row_tie rfl ⟨rfl, rfl⟩ (by kernel_rfl) rfl
    (fun f fn hf hfn => by
      obtain rfl : f = 4 := Option.some.inj ((show Tryd.prog.funcNamed Rows.spotIsRow.func = some 4 by kernel_rfl).symm.trans hf) |>.symm
      obtain rfl : fn = Tryd.f4 := (Option.some.inj (Tryd.func4.symm.trans hfn)).symm
      exact ⟨by kernel_rfl, fun j t ht => by
        rw [Tryd.params4] at ht
        have hm : t ∈ [30, 30] := by simpa using Array.mem_of_getElem? ht
        have hall : ([30, 30].all fun u => !Tryd.prog.wantsStandIn u) = true := by kernel_rfl
        exact (show Tryd.prog.wantsStandIn t = false by simpa using List.all_eq_true.1 hall t hm)⟩)
    (by kernel_rfl)
#print axioms spotIs_holds
end Go.Proofs.YtjhakblijmaicaaDoor
