/- SpotBack: what is found at the spot behind so many bytes of a text is that number of bytes. No conditions but the row's own. -/
import Derived.Test.YtjhakblijmaicaaDoorAt
import Derived.Test.YtjhakblijmaicaaDoorLift
namespace Go.Proofs.YtjhakblijmaicaaDoor
open Go Go.ChangeShapes Go.WideShapes Go.RowKit


theorem fn_part {n : Nat} (h : n ≤ 2 ^ 50) : Fl.part (Fl.FN n) = some n := Fl.part_of_rep (Fl.rep_FN (by omega)) h

set_option maxHeartbeats 2000000 in
theorem spotBack_walk (s : ByteArray) (n : Int) (w : World) (hs : s.size ≤ 140737488351232) (_ : -9223372036854775808 ≤ n ∧ n ≤ 9223372036854775807) :
    Calls Tryd.prog 12 #[.string s, .int .i64 n] w (Ret (.bool true) w) := by
  have HL := Lib.hid (show s.data.toList.length = s.size by rw [Array.length_toList]; rfl)
  by_cases hn : 0 ≤ n ∧ n ≤ s.size
  · obtain ⟨k, rfl⟩ := Int.eq_ofNat_of_zero_le hn.1
    have hk : k ≤ s.size := by omega
    have C1 := Lib.hid (fun w => at_in s k w hs hk)
    have hle := Pos.pos_take_le s k
    have C2 := Lib.hid (fun w => find_any s (Fl.FN (Pos.pos (s.data.toList.take k)).1) (Fl.FN (Pos.pos (s.data.toList.take k)).2) w hs)
    rw [spotO_mk (fn_part (by omega)) (fn_part (by omega))] at C2
    clear hle hn
    go_enter Tryd.func12, Tryd.ntmps12
    go_wp2_with fail
    refine (C1.out _).mono ?_; rintro e w1 ⟨rfl, rfl⟩
    go_wp2_with fail
    refine (C2.out _).mono ?_; rintro e w1 ⟨hv, rfl⟩
    rcases hv with ⟨m, hm, rfl, he⟩ | ⟨rfl, hno⟩
    · have hnm : m = k := (Pos.pos_take_inj s.data.toList k m (by rw [HL.out]; exact hk) (by rw [HL.out]; exact hm) (Option.some.inj he)).symm
      subst hnm
      clear he
      go_wp2_with fail
      refine (alive_any _).mono ?_; rintro e w3 ⟨rfl, rfl⟩
      go_wp2
      go_ret
      exact ⟨rfl, Below.refl _ _⟩
    · exact absurd rfl (hno k hk)
  · have hn' : n < 0 ∨ (s.size : Int) < n := by omega
    have C1 := Lib.hid (fun w => at_out s n w hs hn')
    rcases hn' with h | h
    · clear hn
      go_enter Tryd.func12, Tryd.ntmps12
      go_wp2_with fail
      refine (C1.out _).mono ?_; rintro e w1 ⟨rfl, rfl⟩
      go_wp2_with fail
      refine (alive_any _).mono ?_; rintro e w3 ⟨rfl, rfl⟩
      go_wp2
      go_ret
      exact ⟨rfl, Below.refl _ _⟩
    · clear hn
      have h0 : ¬ n < 0 := by omega
      go_enter Tryd.func12, Tryd.ntmps12
      go_wp2_with fail
      refine (C1.out _).mono ?_; rintro e w1 ⟨rfl, rfl⟩
      go_wp2_with fail
      refine (alive_any _).mono ?_; rintro e w3 ⟨rfl, rfl⟩
      go_wp2
      go_ret
      exact ⟨rfl, Below.refl _ _⟩

set_option maxRecDepth 100000 in
theorem spotBack_said : Rows.SpotBackSaid :=
  OpenClaim.holds_of_wide 12 Tryd.f12 rfl rfl rfl rfl rfl rfl rfl ⟨rfl, rfl, rfl, rfl, rfl⟩ rfl rfl rfl rfl rfl (by kernel_rfl) Tryd.func12 (by kernel_rfl)
    (of_decide_eq_true (by kernel_rfl)) (by unfold Func.isWrapper; first | (rw [if_pos (by decide +kernel)]; kernel_rfl) | (rw [if_neg (by decide +kernel)]; exact ⟨rfl, rfl⟩))
    (fun os started H enc _ => lift (s := Rows.spotBackSpec) #[.string ⟨#[]⟩, .int .i64 0] rfl (by kernel_rfl) Tryd.func12 (by kernel_rfl) (by kernel_rfl) (fun _ => by kernel_rfl) (fun _ _ _ => by kernel_rfl) (fun _ _ _ => by kernel_rfl)
      (fun H enc W base args ds p hval hA hsz hL => by
        rw [Tryd.params12] at hA hval hsz
        obtain ⟨v0, v1, d0, d1, p0, p1, rfl, rfl, rfl, h0, h1⟩ := trodAll_two hA
        obtain ⟨b0, rfl, rfl, rfl, wf0⟩ := Go.ChangeMaps.open_string Tryd.underlying9 (hval 0 9 v0 rfl rfl) h0
        obtain ⟨b1, rfl, rfl, rfl, wf1⟩ := open_int Tryd.underlying3 (hval 1 3 v1 rfl rfl) h1
        exact ⟨rfl, spotBack_walk b0 b1 W (size_of_sized hsz 0 rfl rfl) (int_of_wf wf1)⟩) os started H enc)

theorem spotBack_holds : Rows.SpotBackCardSaid :=
  Claim7.holds_tied_plain_at .later [] [.data, .data, .data] true Rows.spotBackCard.stood.harness false
    spotBack_said (fun _ h => by cases h) (by kernel_rfl) (fun _ h => by cases h) spotBack_row_tie rfl ⟨rfl, rfl⟩ (by kernel_rfl) rfl
    (fun f fn hf hfn => by
      obtain rfl : f = 12 := Option.some.inj ((show Tryd.prog.funcNamed Rows.spotBackRow.func = some 12 by kernel_rfl).symm.trans hf) |>.symm
      obtain rfl : fn = Tryd.f12 := (Option.some.inj (Tryd.func12.symm.trans hfn)).symm
      exact ⟨by kernel_rfl, fun j t ht => by
        rw [Tryd.params12] at ht
        have hm : t ∈ [9, 3] := by simpa using Array.mem_of_getElem? ht
        have hall : ([9, 3].all fun u => !Tryd.prog.wantsStandIn u) = true := by kernel_rfl
        exact (show Tryd.prog.wantsStandIn t = false by simpa using List.all_eq_true.1 hall t hm)⟩)
    (by kernel_rfl)
#print axioms spotBack_holds
end Go.Proofs.YtjhakblijmaicaaDoor
