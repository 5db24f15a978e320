/- SpotFinds: how many bytes lie ahead of any spot of any text is told as the document's answer tells it. No conditions but the row's own. -/
import Derived.Test.YtjhakblijmaicaaDoorFindR
import Derived.Test.YtjhakblijmaicaaDoorLift
namespace Go.Proofs.YtjhakblijmaicaaDoor
open Go Go.ChangeShapes Go.WideShapes Go.RowKit


set_option maxHeartbeats 2000000 in
theorem spotFinds_walk (s : ByteArray) (c d : Nat) (w : World) (hs : s.size ≤ 140737488351232) (_ : c < 2 ^ 64) (_ : d < 2 ^ 64) :
    Calls Tryd.prog 7 #[.string s, .float .f64 c, .float .f64 d] w (Ret (.bool true) w) := by
  have C1 := Lib.hid (fun w => find_any s c d w hs)
  have HL := Lib.hid (show s.data.toList.length = s.size by rw [Array.length_toList]; rfl)
  cases ho : spotO c d with
  | none =>
    have C2 := Lib.hid (fun w => refIs_no c d w (spotO_none ho))
    rw [ho] at C1
    clear ho
    go_enter Tryd.func7, Tryd.ntmps7
    go_wp2_with fail
    refine (C1.out _).mono ?_; rintro e w1 ⟨hv, rfl⟩
    have he : e = .returned (.tuple #[.int .i64 0, .bool false]) := by
      rcases hv with ⟨n, _, _, h⟩ | ⟨h, _⟩
      · cases h
      · exact h
    subst he
    clear hv
    go_wp2_with fail
    refine (C2.out _).mono ?_; rintro e w1 ⟨rfl, hb1⟩
    go_wp2_with fail
    refine (alive_any _).mono ?_; rintro e w3 ⟨rfl, rfl⟩
    go_wp2
    go_ret
    exact ⟨rfl, hb1.alloc hb1.size _⟩
  | some p =>
    obtain ⟨h1, h2⟩ := spotO_some ho
    have C2 := Lib.hid (fun w => refIs_yes c d w _ _ h1 h2)
    rw [ho] at C1
    have C3 := Lib.hid (fun w => refFind_any s p.1 p.2 w hs)
    clear ho h1 h2
    go_enter Tryd.func7, Tryd.ntmps7
    go_wp2_with fail
    refine (C1.out _).mono ?_; rintro e w1 ⟨hv, rfl⟩
    rcases hv with ⟨n, hn, rfl, he⟩ | ⟨rfl, hno⟩
    · have HE := Lib.hid he
      clear he
      go_wp2_with fail
      refine (C2.out _).mono ?_; rintro e w1 ⟨rfl, hb1⟩
      go_wp2_with fail
      refine (C3.out _).mono ?_; rintro e w2 ⟨hv, hb2⟩
      rcases hv with ⟨m, hm, rfl, he⟩ | ⟨rfl, hno⟩
      · have hnm : n = m := Pos.pos_take_inj s.data.toList n m (by rw [HL.out]; exact hn) (by rw [HL.out]; exact hm) (by
          have h := HE.out
          rw [← Option.some.inj h, ← Option.some.inj he])
        subst hnm
        clear he
        go_wp2_with fail
        refine (alive_any _).mono ?_; rintro e w3 ⟨rfl, rfl⟩
        go_wp2
        go_ret
        exact ⟨rfl, (hb1.alloc hb1.size _).trans (hb2.mono (by have := hb1.size; simp; omega))⟩
      · exact absurd HE.out (hno n hn)
    · have HNO := Lib.hid hno
      clear hno
      go_wp2_with fail
      refine (C2.out _).mono ?_; rintro e w1 ⟨rfl, hb1⟩
      go_wp2_with fail
      refine (C3.out _).mono ?_; rintro e w2 ⟨hv, hb2⟩
      rcases hv with ⟨m, hm, rfl, he⟩ | ⟨rfl, hno⟩
      · exact absurd he (HNO.out m hm)
      · clear hno
        go_wp2_with fail
        refine (alive_any _).mono ?_; rintro e w3 ⟨rfl, rfl⟩
        go_wp2
        go_ret
        exact ⟨rfl, (hb1.alloc hb1.size _).trans (hb2.mono (by have := hb1.size; simp; omega))⟩

set_option maxRecDepth 100000 in
theorem spotFinds_said : Rows.SpotFindsSaid :=
  OpenClaim.holds_of_wide 7 Tryd.f7 rfl rfl rfl rfl rfl rfl rfl ⟨rfl, rfl, rfl, rfl, rfl⟩ rfl rfl rfl rfl rfl (by kernel_rfl) Tryd.func7 (by kernel_rfl)
    (of_decide_eq_true (by kernel_rfl)) (by unfold Func.isWrapper; first | (rw [if_pos (by decide +kernel)]; kernel_rfl) | (rw [if_neg (by decide +kernel)]; exact ⟨rfl, rfl⟩))
    (fun os started H enc _ => lift (s := Rows.spotFindsSpec) #[.string ⟨#[]⟩, .float .f64 0, .float .f64 0] rfl (by kernel_rfl) Tryd.func7 (by kernel_rfl) (by kernel_rfl) (fun _ => by kernel_rfl) (fun _ _ _ => by kernel_rfl) (fun _ _ _ => by kernel_rfl)
      (fun H enc W base args ds p hval hA hsz hL => by
        rw [Tryd.params7] at hA hval hsz
        obtain ⟨v0, v1, v2, d0, d1, d2, p0, p1, p2, rfl, rfl, rfl, h0, h1, h2⟩ := trodAll_three hA
        obtain ⟨b0, rfl, rfl, rfl, wf0⟩ := Go.ChangeMaps.open_string Tryd.underlying9 (hval 0 9 v0 rfl rfl) h0
        obtain ⟨b1, rfl, rfl, rfl, wf1⟩ := open_float Tryd.underlying30 (hval 1 30 v1 rfl rfl) h1
        obtain ⟨b2, rfl, rfl, rfl, wf2⟩ := open_float Tryd.underlying30 (hval 2 30 v2 rfl rfl) h2
        exact ⟨rfl, spotFinds_walk b0 b1 b2 W (size_of_sized hsz 0 rfl rfl) (bits_of_wf wf1) (bits_of_wf wf2)⟩) os started H enc)

theorem spotFinds_holds : Rows.SpotFindsCardSaid :=
  Claim7.holds_tied_plain_at .later [] [.data, .data, .data] true Rows.spotFindsCard.stood.harness false
    spotFinds_said (fun _ h => by cases h) (by kernel_rfl) (fun _ h => by cases h) spotFinds_row_tie rfl ⟨rfl, rfl⟩ (by kernel_rfl) rfl
    (fun f fn hf hfn => by
      obtain rfl : f = 7 := Option.some.inj ((show Tryd.prog.funcNamed Rows.spotFindsRow.func = some 7 by kernel_rfl).symm.trans hf) |>.symm
      obtain rfl : fn = Tryd.f7 := (Option.some.inj (Tryd.func7.symm.trans hfn)).symm
      exact ⟨by kernel_rfl, fun j t ht => by
        rw [Tryd.params7] at ht
        have hm : t ∈ [9, 30, 30] := by simpa using Array.mem_of_getElem? ht
        have hall : ([9, 30, 30].all fun u => !Tryd.prog.wantsStandIn u) = true := by kernel_rfl
        exact (show Tryd.prog.wantsStandIn t = false by simpa using List.all_eq_true.1 hall t hm)⟩)
    (by kernel_rfl)
#print axioms spotFinds_holds
end Go.Proofs.YtjhakblijmaicaaDoor
