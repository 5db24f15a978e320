/- SpotReads: the text of any number that is a spot is read as that spot, and no other text. No conditions but the row's own. -/
import Derived.Test.YtjhakblijmaicaaDoorTextS
import Derived.Test.YtjhakblijmaicaaDoorLift
import Derived.Stop.LaidErr
namespace Go.Proofs.YtjhakblijmaicaaDoor
open Go Go.ChangeShapes Go.WideShapes Go.RowKit

theorem tab_of_laid {W : World} (h : laidMetH Tryd.prog laidL W) : Tab W := by
  have h' : laidMet Tryd.prog laidL W := h
  have h2 := (h'.tail).tail
  exact Lib.tabIs_of_head (g := 2) (t := 86) (e := 70) (n := 20) (by kernel_rfl) (by kernel_rfl) Tryd.underlying86 Tryd.underlying70 (by kernel_rfl) (by kernel_rfl) h2


theorem textB_list (m n : Nat) : (textB m n).data.toList = Lib.decDigits m ++ 58 :: Lib.decDigits n := by unfold textB; simp

theorem textB_size (m n : Nat) (hm : m ≤ 1125899906842624) (hn : n ≤ 1125899906842624) : (textB m n).size ≤ 41 := by
  unfold textB
  rw [size_of_list]
  have h1 := Num.digits_length m (by omega)
  have h2 := Num.digits_length n (by omega)
  simp
  omega

theorem fn_part {n : Nat} (h : n ≤ 2 ^ 50) : Fl.part (Fl.FN n) = some n := Fl.part_of_rep (Fl.rep_FN (by omega)) h

set_option maxRecDepth 100000 in
set_option maxHeartbeats 2000000 in
theorem spotReads_walk (re im : Nat) (w : World) (_ : re < 2 ^ 64) (_ : im < 2 ^ 64) (ht : Tab w) :
    Calls Tryd.prog 14 #[.float .f64 re, .float .f64 im] w (Ret (.bool true) w) := by
  by_cases h : Fl.part re = none ∨ Fl.part im = none
  · have C1 := Lib.hid (fun w => text_no re im w h)
    have C2 := Lib.hid (fun w => is_no re im w h)
    clear h
    go_enter Tryd.func14, Tryd.ntmps14
    go_wp2_with fail
    refine (C1.out _).mono ?_; rintro e w1 ⟨rfl, rfl⟩
    go_wp2_with fail
    refine (parse_any _ _ (by decide)).mono ?_; rintro e w1 ⟨hv, k, rfl⟩
    have he : e = .returned (.tuple #[.complex .f64 0 0, .bool false]) := hv
    subst he
    clear hv
    go_wp2_with fail
    refine (C2.out _).mono ?_; rintro e w2 ⟨rfl, rfl⟩
    go_wp2_with fail
    refine (alive_any _).mono ?_; rintro e w2 ⟨rfl, rfl⟩
    go_wp2
    go_ret
    exact ⟨rfl, below_drewN (Below.refl _ _) _⟩
  · obtain ⟨m, h1⟩ := Option.ne_none_iff_exists'.1 (fun e => h (Or.inl e))
    obtain ⟨n, h2⟩ := Option.ne_none_iff_exists'.1 (fun e => h (Or.inr e))
    have q1 := (Fl.part_rep h1).2
    have q2 := (Fl.part_rep h2).2
    have HTab := Lib.hid ht
    have C1 := Lib.hid (fun w ht => text_yes re im w h1 h2 ht)
    have C2 := Lib.hid (fun w => is_yes re im w m n h1 h2)
    have HP := Lib.hid (show Num.parseO (textB m n).data.toList = some (m, n) by rw [textB_list]; exact Num.parseO_text m n q1 q2)
    have hs := textB_size m n q1 q2
    have k1 : (FloatKind.f64.format.order (Fl.FN m) re == some Ordering.eq) = true := by rw [eq_bit (fn_part q1) h1]; simp
    have k2 : (FloatKind.f64.format.order (Fl.FN n) im == some Ordering.eq) = true := by rw [eq_bit (fn_part q2) h2]; simp
    generalize textB m n = T at *
    clear h h1 h2 ht
    go_enter Tryd.func14, Tryd.ntmps14
    go_wp2_with fail
    refine (C1.out _ HTab.out).mono ?_; rintro e w1 ⟨rfl, hb1⟩
    go_wp2_with fail
    refine (parse_any _ _ (by omega)).mono ?_; rintro e w2 ⟨hv, k, rfl⟩
    rw [HP.out] at hv
    have he : e = .returned (.tuple #[.complex .f64 (Fl.FN m) (Fl.FN n), .bool true]) := hv
    subst he
    clear hv
    go_wp2_with fail
    refine (C2.out _).mono ?_; rintro e w2 ⟨rfl, rfl⟩
    go_wp2_with fail
    refine (alive_any _).mono ?_; rintro e w2 ⟨rfl, rfl⟩
    go_wp2
    go_ret
    exact ⟨rfl, below_drewN hb1 _⟩

set_option maxRecDepth 100000 in
theorem spotReads_said : Rows.SpotReadsSaid :=
  OpenClaim.holds_of_wide 14 Tryd.f14 rfl rfl rfl rfl rfl rfl rfl ⟨rfl, rfl, rfl, rfl, rfl⟩ rfl rfl rfl rfl rfl (by kernel_rfl) Tryd.func14 (by kernel_rfl)
    (of_decide_eq_true (by kernel_rfl)) (by unfold Func.isWrapper; first | (rw [if_pos (by decide +kernel)]; kernel_rfl) | (rw [if_neg (by decide +kernel)]; exact ⟨rfl, rfl⟩))
    (fun os started H enc _ => lift (s := Rows.spotReadsSpec) #[.float .f64 0, .float .f64 0] rfl (by kernel_rfl) Tryd.func14 (by kernel_rfl) (by kernel_rfl) (fun _ => by kernel_rfl) (fun _ _ _ => by kernel_rfl) (fun _ _ _ => by kernel_rfl)
      (fun H enc W base args ds p hval hA hsz hL => by
        rw [Tryd.params14] at hA hval hsz
        obtain ⟨v0, v1, d0, d1, p0, p1, rfl, rfl, rfl, h0, h1⟩ := trodAll_two hA
        obtain ⟨b0, rfl, rfl, rfl, wf0⟩ := open_float Tryd.underlying30 (hval 0 30 v0 rfl rfl) h0
        obtain ⟨b1, rfl, rfl, rfl, wf1⟩ := open_float Tryd.underlying30 (hval 1 30 v1 rfl rfl) h1
        exact ⟨rfl, spotReads_walk b0 b1 W (bits_of_wf wf0) (bits_of_wf wf1) (tab_of_laid hL)⟩) os started H enc)

theorem spotReads_holds : Rows.SpotReadsCardSaid :=
  Claim7.holds_tied_plain_at .later [] [.data, .data, .data] true Rows.spotReadsCard.stood.harness false
    spotReads_said (fun _ h => by cases h) (by kernel_rfl) (fun _ h => by cases h) spotReads_row_tie rfl ⟨rfl, rfl⟩ (by kernel_rfl) rfl
    (fun f fn hf hfn => by
      obtain rfl : f = 14 := Option.some.inj ((show Tryd.prog.funcNamed Rows.spotReadsRow.func = some 14 by kernel_rfl).symm.trans hf) |>.symm
      obtain rfl : fn = Tryd.f14 := (Option.some.inj (Tryd.func14.symm.trans hfn)).symm
      exact ⟨by kernel_rfl, fun j t ht => by
        rw [Tryd.params14] at ht
        have hm : t ∈ [30, 30] := by simpa using Array.mem_of_getElem? ht
        have hall : ([30, 30].all fun u => !Tryd.prog.wantsStandIn u) = true := by kernel_rfl
        exact (show Tryd.prog.wantsStandIn t = false by simpa using List.all_eq_true.1 hall t hm)⟩)
    (by kernel_rfl)
#print axioms spotReads_holds
end Go.Proofs.YtjhakblijmaicaaDoor
