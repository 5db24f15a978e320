/- SpotJoins: any two numbers are joined as the document's answer joins them, or refused as it refuses them. No conditions but the row's own. -/
import Derived.Test.YtjhakblijmaicaaDoorLess
import Derived.Test.YtjhakblijmaicaaDoorLift
namespace Go.Proofs.YtjhakblijmaicaaDoor
open Go Go.ChangeShapes Go.WideShapes Go.RowKit


theorem joinVal_fst (o : Option (Nat × Nat)) : (refJoinV o = .tuple #[spotV 0 0, .bool false] ∧ o = none) ∨ ∃ p, o = some p ∧ refJoinV o = .tuple #[spotV p.1 p.2, .bool true] := by
  cases o with
  | none => exact Or.inl ⟨rfl, rfl⟩
  | some p => exact Or.inr ⟨p, rfl, rfl⟩

set_option maxHeartbeats 4000000 in
theorem spotJoins_walk (a b c d : Nat) (w : World) (_ : a < 2 ^ 64) (_ : b < 2 ^ 64) (_ : c < 2 ^ 64) (hd : d < 2 ^ 64) :
    Calls Tryd.prog 5 #[.agg #[.float .f64 a, .float .f64 b], .agg #[.float .f64 c, .float .f64 d]] w (Ret (.bool true) w) := by
  have CJ := Lib.hid (fun w => join_any a b c d w hd)
  cases ha : spotO a b with
  | none =>
    rw [ha] at CJ
    have C1 := Lib.hid (fun w => refIs_no a b w (spotO_none ha))
    clear ha
    cases hb : spotO c d with
    | none =>
      have C2 := Lib.hid (fun w => refIs_no c d w (spotO_none hb))
      clear hb
      have CR0 := Lib.hid (fun w => refJoin_any 0 0 0 0 (by decide) (by decide) (by decide) (by decide) w)
      rcases joinVal_fst (joinO (0, 0) (0, 0)) with ⟨eo, -⟩ | ⟨r, -, eo⟩
      all_goals
      have CR := CR0
      rw [eo] at CR
      clear eo CR0
      go_enter Tryd.func5, Tryd.ntmps5
      go_wp2_with fail
      refine (CJ.out _).mono ?_; rintro e w0 ⟨hv, rfl⟩
      obtain rfl := hv
      go_wp2_with fail
      refine (C1.out _).mono ?_; rintro e w1 ⟨rfl, hb1⟩
      obtain ⟨hc1, hf1⟩ := bcell hb1
      have hz1 : w.heap.size + 1 < w1.heap.size := by have := hb1.size; simp at this; omega
      go_wp2_with fail
      refine (C2.out _).mono ?_; rintro e w2 ⟨rfl, hb2⟩
      obtain ⟨hc2, hf2⟩ := bcell hb2
      have hz2 : w1.heap.size + 1 ≤ w2.heap.size := by have := hb2.size; simp at this; omega
      have hz3 : w.heap.size < w1.heap.size + 1 := by omega
      have hz4 : w.heap.size < w1.heap.size := by omega
      have hz5 : w.heap.size < w2.heap.size := by omega
      have hz6 : w.heap.size + 1 < w2.heap.size := by omega
      have hz7 : w1.heap.size < w2.heap.size := by omega
      go_wp2_with fail
      refine (CR.out _).mono ?_; rintro e w3 ⟨rfl, hb3⟩
      obtain ⟨hc3, hf3⟩ := bcell hb3
      have hz8 : w2.heap.size + 1 ≤ w3.heap.size := by have := hb3.size; simp at this; omega
      have hB3 := ((((((Below.refl w.heap.size w).alloc (Nat.le_refl _) _).alloc (by simp) _).trans (hb1.mono (by simp; omega))).alloc (by omega) _).trans (hb2.mono (by simp; omega))).alloc (by omega) _ |>.trans (hb3.mono (by simp; omega))
      go_wp2_with fail
      refine (alive_any _).mono ?_; rintro e w4 ⟨rfl, rfl⟩
      go_wp2
      go_ret
      exact ⟨rfl, hB3.alloc (by omega) _⟩
    | some q =>
      obtain ⟨h3, h4⟩ := spotO_some hb
      have C2 := Lib.hid (fun w => refIs_yes c d w _ _ h3 h4)
      have l3 := (Fl.part_rep h3).2
      have l4 := (Fl.part_rep h4).2
      clear hb h3 h4
      have CR0 := Lib.hid (fun w => refJoin_any 0 0 q.1 q.2 (by decide) (by decide) l3 l4 w)
      rcases joinVal_fst (joinO (0, 0) (q.1, q.2)) with ⟨eo, -⟩ | ⟨r, -, eo⟩
      all_goals
      have CR := CR0
      rw [eo] at CR
      clear eo CR0
      go_enter Tryd.func5, Tryd.ntmps5
      go_wp2_with fail
      refine (CJ.out _).mono ?_; rintro e w0 ⟨hv, rfl⟩
      obtain rfl := hv
      go_wp2_with fail
      refine (C1.out _).mono ?_; rintro e w1 ⟨rfl, hb1⟩
      obtain ⟨hc1, hf1⟩ := bcell hb1
      have hz1 : w.heap.size + 1 < w1.heap.size := by have := hb1.size; simp at this; omega
      go_wp2_with fail
      refine (C2.out _).mono ?_; rintro e w2 ⟨rfl, hb2⟩
      obtain ⟨hc2, hf2⟩ := bcell hb2
      have hz2 : w1.heap.size + 1 ≤ w2.heap.size := by have := hb2.size; simp at this; omega
      have hz3 : w.heap.size < w1.heap.size + 1 := by omega
      have hz4 : w.heap.size < w1.heap.size := by omega
      have hz5 : w.heap.size < w2.heap.size := by omega
      have hz6 : w.heap.size + 1 < w2.heap.size := by omega
      have hz7 : w1.heap.size < w2.heap.size := by omega
      go_wp2_with fail
      refine (CR.out _).mono ?_; rintro e w3 ⟨rfl, hb3⟩
      obtain ⟨hc3, hf3⟩ := bcell hb3
      have hz8 : w2.heap.size + 1 ≤ w3.heap.size := by have := hb3.size; simp at this; omega
      have hB3 := ((((((Below.refl w.heap.size w).alloc (Nat.le_refl _) _).alloc (by simp) _).trans (hb1.mono (by simp; omega))).alloc (by omega) _).trans (hb2.mono (by simp; omega))).alloc (by omega) _ |>.trans (hb3.mono (by simp; omega))
      go_wp2_with fail
      refine (alive_any _).mono ?_; rintro e w4 ⟨rfl, rfl⟩
      go_wp2
      go_ret
      exact ⟨rfl, hB3.alloc (by omega) _⟩
  | some p =>
    rw [ha] at CJ
    obtain ⟨h1, h2⟩ := spotO_some ha
    have C1 := Lib.hid (fun w => refIs_yes a b w _ _ h1 h2)
    have l1 := (Fl.part_rep h1).2
    have l2 := (Fl.part_rep h2).2
    clear ha h1 h2
    cases hb : spotO c d with
    | none =>
      rw [hb] at CJ
      have C2 := Lib.hid (fun w => refIs_no c d w (spotO_none hb))
      clear hb
      have CR0 := Lib.hid (fun w => refJoin_any p.1 p.2 0 0 l1 l2 (by decide) (by decide) w)
      rcases joinVal_fst (joinO (p.1, p.2) (0, 0)) with ⟨eo, -⟩ | ⟨r, -, eo⟩
      all_goals
      have CR := CR0
      rw [eo] at CR
      clear eo CR0
      go_enter Tryd.func5, Tryd.ntmps5
      go_wp2_with fail
      refine (CJ.out _).mono ?_; rintro e w0 ⟨hv, rfl⟩
      obtain rfl := hv
      go_wp2_with fail
      refine (C1.out _).mono ?_; rintro e w1 ⟨rfl, hb1⟩
      obtain ⟨hc1, hf1⟩ := bcell hb1
      have hz1 : w.heap.size + 1 < w1.heap.size := by have := hb1.size; simp at this; omega
      go_wp2_with fail
      refine (C2.out _).mono ?_; rintro e w2 ⟨rfl, hb2⟩
      obtain ⟨hc2, hf2⟩ := bcell hb2
      have hz2 : w1.heap.size + 1 ≤ w2.heap.size := by have := hb2.size; simp at this; omega
      have hz3 : w.heap.size < w1.heap.size + 1 := by omega
      have hz4 : w.heap.size < w1.heap.size := by omega
      have hz5 : w.heap.size < w2.heap.size := by omega
      have hz6 : w.heap.size + 1 < w2.heap.size := by omega
      have hz7 : w1.heap.size < w2.heap.size := by omega
      go_wp2_with fail
      refine (CR.out _).mono ?_; rintro e w3 ⟨rfl, hb3⟩
      obtain ⟨hc3, hf3⟩ := bcell hb3
      have hz8 : w2.heap.size + 1 ≤ w3.heap.size := by have := hb3.size; simp at this; omega
      have hB3 := ((((((Below.refl w.heap.size w).alloc (Nat.le_refl _) _).alloc (by simp) _).trans (hb1.mono (by simp; omega))).alloc (by omega) _).trans (hb2.mono (by simp; omega))).alloc (by omega) _ |>.trans (hb3.mono (by simp; omega))
      go_wp2_with fail
      refine (alive_any _).mono ?_; rintro e w4 ⟨rfl, rfl⟩
      go_wp2
      go_ret
      exact ⟨rfl, hB3.alloc (by omega) _⟩
    | some q =>
      rw [hb] at CJ
      obtain ⟨h3, h4⟩ := spotO_some hb
      have C2 := Lib.hid (fun w => refIs_yes c d w _ _ h3 h4)
      have l3 := (Fl.part_rep h3).2
      have l4 := (Fl.part_rep h4).2
      clear hb h3 h4
      have CR := Lib.hid (fun w => refJoin_any p.1 p.2 q.1 q.2 l1 l2 l3 l4 w)
      have CJ' : Hid (∀ w, Calls Tryd.prog 21 #[.complex .f64 a b, .complex .f64 c d] w fun e w' => joinV (joinO (p.1, p.2) (q.1, q.2)) e ∧ w = w') := CJ.out
      clear CJ
      have CJ := CJ'
      clear CJ'
      cases ho : joinO (p.1, p.2) (q.1, q.2) with
      | none =>
        rw [ho] at CR CJ
        have CR' : Hid (∀ w, Calls Tryd.prog 22 #[spotV p.1 p.2, spotV q.1 q.2] w (Ret (.tuple #[spotV 0 0, .bool false]) w)) := CR.out
        clear CR
        have CR := CR'
        clear CR' ho
        go_enter Tryd.func5, Tryd.ntmps5
        go_wp2_with fail
        refine (CJ.out _).mono ?_; rintro e w0 ⟨hv, rfl⟩
        obtain rfl := hv
        go_wp2_with fail
        refine (C1.out _).mono ?_; rintro e w1 ⟨rfl, hb1⟩
        obtain ⟨hc1, hf1⟩ := bcell hb1
        have hz1 : w.heap.size + 1 < w1.heap.size := by have := hb1.size; simp at this; omega
        go_wp2_with fail
        refine (C2.out _).mono ?_; rintro e w2 ⟨rfl, hb2⟩
        obtain ⟨hc2, hf2⟩ := bcell hb2
        have hz2 : w1.heap.size + 1 ≤ w2.heap.size := by have := hb2.size; simp at this; omega
        have hz3 : w.heap.size < w1.heap.size + 1 := by omega
        have hz4 : w.heap.size < w1.heap.size := by omega
        have hz5 : w.heap.size < w2.heap.size := by omega
        have hz6 : w.heap.size + 1 < w2.heap.size := by omega
        have hz7 : w1.heap.size < w2.heap.size := by omega
        go_wp2_with fail
        refine (CR.out _).mono ?_; rintro e w3 ⟨rfl, hb3⟩
        obtain ⟨hc3, hf3⟩ := bcell hb3
        have hz8 : w2.heap.size + 1 ≤ w3.heap.size := by have := hb3.size; simp at this; omega
        have hB3 := ((((((Below.refl w.heap.size w).alloc (Nat.le_refl _) _).alloc (by simp) _).trans (hb1.mono (by simp; omega))).alloc (by omega) _).trans (hb2.mono (by simp; omega))).alloc (by omega) _ |>.trans (hb3.mono (by simp; omega))
        go_wp2_with fail
        refine (alive_any _).mono ?_; rintro e w4 ⟨rfl, rfl⟩
        go_wp2
        go_ret
        exact ⟨rfl, hB3.alloc (by omega) _⟩
      | some r =>
        rw [ho] at CR CJ
        have CR' : Hid (∀ w, Calls Tryd.prog 22 #[spotV p.1 p.2, spotV q.1 q.2] w (Ret (.tuple #[spotV r.1 r.2, .bool true]) w)) := CR.out
        clear CR
        have CR := CR'
        clear CR' ho
        go_enter Tryd.func5, Tryd.ntmps5
        go_wp2_with fail
        refine (CJ.out _).mono ?_; rintro e w0 ⟨hv, rfl⟩
        obtain ⟨x, y, rfl, px, py, -⟩ := hv
        have lx := (Fl.part_rep px).2
        have ly := (Fl.part_rep py).2
        have CI := Lib.hid (fun w => is_spot px py r.1 r.2 lx ly w)
        clear px py
        go_wp2_with fail
        refine (C1.out _).mono ?_; rintro e w1 ⟨rfl, hb1⟩
        obtain ⟨hc1, hf1⟩ := bcell hb1
        have hz1 : w.heap.size + 1 < w1.heap.size := by have := hb1.size; simp at this; omega
        go_wp2_with fail
        refine (C2.out _).mono ?_; rintro e w2 ⟨rfl, hb2⟩
        obtain ⟨hc2, hf2⟩ := bcell hb2
        have hz2 : w1.heap.size + 1 ≤ w2.heap.size := by have := hb2.size; simp at this; omega
        have hz3 : w.heap.size < w1.heap.size + 1 := by omega
        have hz4 : w.heap.size < w1.heap.size := by omega
        have hz5 : w.heap.size < w2.heap.size := by omega
        have hz6 : w.heap.size + 1 < w2.heap.size := by omega
        have hz7 : w1.heap.size < w2.heap.size := by omega
        go_wp2_with fail
        refine (CR.out _).mono ?_; rintro e w3 ⟨rfl, hb3⟩
        obtain ⟨hc3, hf3⟩ := bcell hb3
        have hz8 : w2.heap.size + 1 ≤ w3.heap.size := by have := hb3.size; simp at this; omega
        have hB3 := ((((((Below.refl w.heap.size w).alloc (Nat.le_refl _) _).alloc (by simp) _).trans (hb1.mono (by simp; omega))).alloc (by omega) _).trans (hb2.mono (by simp; omega))).alloc (by omega) _ |>.trans (hb3.mono (by simp; omega))
        go_wp2_with fail
        refine (CI.out _).mono ?_; rintro e w4 ⟨rfl, hb4⟩
        go_wp2_with fail
        refine (alive_any _).mono ?_; rintro e w5 ⟨rfl, rfl⟩
        go_wp2
        go_ret
        exact ⟨rfl, (hB3.alloc (by omega) _).trans (hb4.mono (by simp; omega))⟩

set_option maxRecDepth 100000 in
theorem spotJoins_said : Rows.SpotJoinsSaid :=
  OpenClaim.holds_of_wide 5 Tryd.f5 rfl rfl rfl rfl rfl rfl rfl ⟨rfl, rfl, rfl, rfl, rfl⟩ rfl rfl rfl rfl rfl (by kernel_rfl) Tryd.func5 (by kernel_rfl)
    (of_decide_eq_true (by kernel_rfl)) (by unfold Func.isWrapper; first | (rw [if_pos (by decide +kernel)]; kernel_rfl) | (rw [if_neg (by decide +kernel)]; exact ⟨rfl, rfl⟩))
    (fun os started H enc _ => lift (s := Rows.spotJoinsSpec) #[.agg #[.float .f64 0, .float .f64 0], .agg #[.float .f64 0, .float .f64 0]] rfl (by kernel_rfl) Tryd.func5 (by kernel_rfl) (by kernel_rfl) (fun _ => by kernel_rfl) (fun _ _ _ => by kernel_rfl) (fun _ _ _ => by kernel_rfl)
      (fun H enc W base args ds p hval hA hsz hL => by
        rw [Tryd.params5] at hA hval hsz
        obtain ⟨v0, v1, d0, d1, p0, p1, rfl, rfl, rfl, h0, h1⟩ := trodAll_two hA
        obtain ⟨b0, c0, rfl, rfl, rfl, wf0, wg0⟩ := open_floats2 Tryd.underlying35 Tryd.underlying30 (by kernel_rfl) (by kernel_rfl) (hval 0 35 v0 rfl rfl) h0
        obtain ⟨b1, c1, rfl, rfl, rfl, wf1, wg1⟩ := open_floats2 Tryd.underlying35 Tryd.underlying30 (by kernel_rfl) (by kernel_rfl) (hval 1 35 v1 rfl rfl) h1
        exact ⟨rfl, spotJoins_walk b0 c0 b1 c1 W (bits_of_wf wf0) (bits_of_wf wg0) (bits_of_wf wf1) (bits_of_wf wg1)⟩) os started H enc)

theorem spotJoins_holds : Rows.SpotJoinsCardSaid :=
  Claim7.holds_tied_plain_at .later [] [.data, .data, .data] true Rows.spotJoinsCard.stood.harness false
    spotJoins_said (fun _ h => by cases h) (by kernel_rfl) (fun _ h => by cases h) spotJoins_row_tie rfl ⟨rfl, rfl⟩ (by kernel_rfl) rfl
    (fun f fn hf hfn => by
      obtain rfl : f = 5 := Option.some.inj ((show Tryd.prog.funcNamed Rows.spotJoinsRow.func = some 5 by kernel_rfl).symm.trans hf) |>.symm
      obtain rfl : fn = Tryd.f5 := (Option.some.inj (Tryd.func5.symm.trans hfn)).symm
      exact ⟨by kernel_rfl, fun j t ht => by
        rw [Tryd.params5] at ht
        have hm : t ∈ [35, 35] := by simpa using Array.mem_of_getElem? ht
        have hall : ([35, 35].all fun u => !Tryd.prog.wantsStandIn u) = true := by kernel_rfl
        exact (show Tryd.prog.wantsStandIn t = false by simpa using List.all_eq_true.1 hall t hm)⟩)
    (by kernel_rfl)
#print axioms spotJoins_holds
end Go.Proofs.YtjhakblijmaicaaDoor
