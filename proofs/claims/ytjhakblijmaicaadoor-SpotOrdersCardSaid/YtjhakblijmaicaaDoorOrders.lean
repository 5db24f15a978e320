/- SpotOrders: of any two numbers, the program tells which is the spot that is ahead as the document's answer does. No conditions but the row's own. -/
import Derived.Test.YtjhakblijmaicaaDoorLess
import Derived.Test.YtjhakblijmaicaaDoorLift
namespace Go.Proofs.YtjhakblijmaicaaDoor
open Go Go.ChangeShapes Go.WideShapes Go.RowKit


set_option maxHeartbeats 1000000 in
theorem spotOrders_walk (a b c d : Nat) (w : World) (_ : a < 2 ^ 64) (_ : b < 2 ^ 64) (_ : c < 2 ^ 64) (_ : d < 2 ^ 64) :
    Calls Tryd.prog 8 #[.agg #[.float .f64 a, .float .f64 b], .agg #[.float .f64 c, .float .f64 d]] w (Ret (.bool true) w) := by
  have CL := Lib.hid (less_any a b c d)
  cases ha : spotO a b with
  | none =>
    cases hb : spotO c d with
    | none =>
      have C1 := Lib.hid (fun w => refIs_no a b w (spotO_none ha))
      have C2 := Lib.hid (fun w => refIs_no c d w (spotO_none hb))
      rw [ha, hb] at CL
      have HL := Lib.hid (show lessO none none = false from rfl)
      clear ha hb
      go_enter Tryd.func8, Tryd.ntmps8
      go_wp2_with fail
      refine (C1.out _).mono ?_; rintro e w1 ⟨rfl, hb1⟩
      obtain ⟨hc1, hf1⟩ := bcell hb1
      have hz1 : w.heap.size + 1 < w1.heap.size := by have := hb1.size; simp at this; omega
      go_wp2_with fail
      refine (C2.out _).mono ?_; rintro e w2 ⟨rfl, hb2⟩
      obtain ⟨hc2, hf2⟩ := bcell hb2
      have hz2 : w1.heap.size + 1 ≤ w2.heap.size := by have := hb2.size; simp at this; omega
      have hz3 : w.heap.size < w1.heap.size + 1 := by omega
      have hz4 : w.heap.size < w1.heap.size := by omega
      have hz5 : w.heap.size < w2.heap.size := by omega
      have hz6 : w.heap.size + 1 < w2.heap.size := by omega
      have hz7 : w1.heap.size < w2.heap.size := by omega
      go_wp2_with fail
      refine (CL.out _).mono ?_; rintro e w3 ⟨rfl, rfl⟩
      rw [HL.out]
      go_wp2_with fail
      refine (alive_any _).mono ?_; rintro e w3 ⟨rfl, rfl⟩
      go_wp2
      go_ret
      exact ⟨rfl, ((((((Below.refl _ _).alloc (Nat.le_refl _) _).alloc (by simp) _).trans (hb1.mono (by simp; omega))).alloc (by omega) _).trans (hb2.mono (by simp; omega))).alloc (by omega) _⟩
    | some q =>
      obtain ⟨h3, h4⟩ := spotO_some hb
      have C1 := Lib.hid (fun w => refIs_no a b w (spotO_none ha))
      have C2 := Lib.hid (fun w => refIs_yes c d w _ _ h3 h4)
      clear h3 h4
      rw [ha, hb] at CL
      have HL := Lib.hid (show lessO none (some q) = false from rfl)
      clear ha hb
      go_enter Tryd.func8, Tryd.ntmps8
      go_wp2_with fail
      refine (C1.out _).mono ?_; rintro e w1 ⟨rfl, hb1⟩
      obtain ⟨hc1, hf1⟩ := bcell hb1
      have hz1 : w.heap.size + 1 < w1.heap.size := by have := hb1.size; simp at this; omega
      go_wp2_with fail
      refine (C2.out _).mono ?_; rintro e w2 ⟨rfl, hb2⟩
      obtain ⟨hc2, hf2⟩ := bcell hb2
      have hz2 : w1.heap.size + 1 ≤ w2.heap.size := by have := hb2.size; simp at this; omega
      have hz3 : w.heap.size < w1.heap.size + 1 := by omega
      have hz4 : w.heap.size < w1.heap.size := by omega
      have hz5 : w.heap.size < w2.heap.size := by omega
      have hz6 : w.heap.size + 1 < w2.heap.size := by omega
      have hz7 : w1.heap.size < w2.heap.size := by omega
      go_wp2_with fail
      refine (CL.out _).mono ?_; rintro e w3 ⟨rfl, rfl⟩
      rw [HL.out]
      go_wp2_with fail
      refine (alive_any _).mono ?_; rintro e w3 ⟨rfl, rfl⟩
      go_wp2
      go_ret
      exact ⟨rfl, ((((((Below.refl _ _).alloc (Nat.le_refl _) _).alloc (by simp) _).trans (hb1.mono (by simp; omega))).alloc (by omega) _).trans (hb2.mono (by simp; omega))).alloc (by omega) _⟩
  | some p =>
    obtain ⟨h1, h2⟩ := spotO_some ha
    have C1 := Lib.hid (fun w => refIs_yes a b w _ _ h1 h2)
    clear h1 h2
    cases hb : spotO c d with
    | none =>
      have C2 := Lib.hid (fun w => refIs_no c d w (spotO_none hb))
      rw [ha, hb] at CL
      have HL := Lib.hid (show lessO (some p) none = false from rfl)
      clear ha hb
      go_enter Tryd.func8, Tryd.ntmps8
      go_wp2_with fail
      refine (C1.out _).mono ?_; rintro e w1 ⟨rfl, hb1⟩
      obtain ⟨hc1, hf1⟩ := bcell hb1
      have hz1 : w.heap.size + 1 < w1.heap.size := by have := hb1.size; simp at this; omega
      go_wp2_with fail
      refine (C2.out _).mono ?_; rintro e w2 ⟨rfl, hb2⟩
      obtain ⟨hc2, hf2⟩ := bcell hb2
      have hz2 : w1.heap.size + 1 ≤ w2.heap.size := by have := hb2.size; simp at this; omega
      have hz3 : w.heap.size < w1.heap.size + 1 := by omega
      have hz4 : w.heap.size < w1.heap.size := by omega
      have hz5 : w.heap.size < w2.heap.size := by omega
      have hz6 : w.heap.size + 1 < w2.heap.size := by omega
      have hz7 : w1.heap.size < w2.heap.size := by omega
      go_wp2_with fail
      refine (CL.out _).mono ?_; rintro e w3 ⟨rfl, rfl⟩
      rw [HL.out]
      go_wp2_with fail
      refine (alive_any _).mono ?_; rintro e w3 ⟨rfl, rfl⟩
      go_wp2
      go_ret
      exact ⟨rfl, ((((((Below.refl _ _).alloc (Nat.le_refl _) _).alloc (by simp) _).trans (hb1.mono (by simp; omega))).alloc (by omega) _).trans (hb2.mono (by simp; omega))).alloc (by omega) _⟩
    | some q =>
      obtain ⟨h3, h4⟩ := spotO_some hb
      have C2 := Lib.hid (fun w => refIs_yes c d w _ _ h3 h4)
      rw [ha, hb] at CL
      have CR := Lib.hid (fun w => refLess_any p.1 p.2 q.1 q.2 w)
      have hB : decide ((p.1 : Int) < q.1 ∨ (p.1 : Int) = q.1 ∧ (p.2 : Int) < q.2) = lessO (some p) (some q) := by
        unfold lessO; simp only; rw [decide_eq_decide]; omega
      rw [hB] at CR
      generalize lessO (some p) (some q) = B at CL CR
      clear ha hb h3 h4 hB
      go_enter Tryd.func8, Tryd.ntmps8
      go_wp2_with fail
      refine (C1.out _).mono ?_; rintro e w1 ⟨rfl, hb1⟩
      obtain ⟨hc1, hf1⟩ := bcell hb1
      have hz1 : w.heap.size + 1 < w1.heap.size := by have := hb1.size; simp at this; omega
      go_wp2_with fail
      refine (C2.out _).mono ?_; rintro e w2 ⟨rfl, hb2⟩
      obtain ⟨hc2, hf2⟩ := bcell hb2
      have hz2 : w1.heap.size + 1 ≤ w2.heap.size := by have := hb2.size; simp at this; omega
      have hz3 : w.heap.size < w1.heap.size + 1 := by omega
      have hz4 : w.heap.size < w1.heap.size := by omega
      have hz5 : w.heap.size < w2.heap.size := by omega
      have hz6 : w.heap.size + 1 < w2.heap.size := by omega
      have hz7 : w1.heap.size < w2.heap.size := by omega
      go_wp2_with fail
      refine (CL.out _).mono ?_; rintro e w3 ⟨rfl, rfl⟩
      go_wp2_with fail
      refine (CR.out _).mono ?_; rintro e w3 ⟨rfl, hb3⟩
      go_wp2_with fail
      refine (alive_any _).mono ?_; rintro e w4 ⟨rfl, rfl⟩
      go_wp2
      go_ret
      exact ⟨rfl, (((((((Below.refl _ _).alloc (Nat.le_refl _) _).alloc (by simp) _).trans (hb1.mono (by simp; omega))).alloc (by omega) _).trans (hb2.mono (by simp; omega))).alloc (by omega) _).trans (hb3.mono (by simp; omega))⟩

set_option maxRecDepth 100000 in
theorem spotOrders_said : Rows.SpotOrdersSaid :=
  OpenClaim.holds_of_wide 8 Tryd.f8 rfl rfl rfl rfl rfl rfl rfl ⟨rfl, rfl, rfl, rfl, rfl⟩ rfl rfl rfl rfl rfl (by kernel_rfl) Tryd.func8 (by kernel_rfl)
    (of_decide_eq_true (by kernel_rfl)) (by unfold Func.isWrapper; first | (rw [if_pos (by decide +kernel)]; kernel_rfl) | (rw [if_neg (by decide +kernel)]; exact ⟨rfl, rfl⟩))
    (fun os started H enc _ => lift (s := Rows.spotOrdersSpec) #[.agg #[.float .f64 0, .float .f64 0], .agg #[.float .f64 0, .float .f64 0]] rfl (by kernel_rfl) Tryd.func8 (by kernel_rfl) (by kernel_rfl) (fun _ => by kernel_rfl) (fun _ _ _ => by kernel_rfl) (fun _ _ _ => by kernel_rfl)
      (fun H enc W base args ds p hval hA hsz hL => by
        rw [Tryd.params8] at hA hval hsz
        obtain ⟨v0, v1, d0, d1, p0, p1, rfl, rfl, rfl, h0, h1⟩ := trodAll_two hA
        obtain ⟨b0, c0, rfl, rfl, rfl, wf0, wg0⟩ := open_floats2 Tryd.underlying35 Tryd.underlying30 (by kernel_rfl) (by kernel_rfl) (hval 0 35 v0 rfl rfl) h0
        obtain ⟨b1, c1, rfl, rfl, rfl, wf1, wg1⟩ := open_floats2 Tryd.underlying35 Tryd.underlying30 (by kernel_rfl) (by kernel_rfl) (hval 1 35 v1 rfl rfl) h1
        exact ⟨rfl, spotOrders_walk b0 c0 b1 c1 W (bits_of_wf wf0) (bits_of_wf wg0) (bits_of_wf wf1) (bits_of_wf wg1)⟩) os started H enc)

theorem spotOrders_holds : Rows.SpotOrdersCardSaid :=
  Claim7.holds_tied_plain_at .later [] [.data, .data, .data] true Rows.spotOrdersCard.stood.harness false
    spotOrders_said (fun _ h => by cases h) (by kernel_rfl) (fun _ h => by cases h) spotOrders_row_tie rfl ⟨rfl, rfl⟩ (by kernel_rfl) rfl
    (fun f fn hf hfn => by
      obtain rfl : f = 8 := Option.some.inj ((show Tryd.prog.funcNamed Rows.spotOrdersRow.func = some 8 by kernel_rfl).symm.trans hf) |>.symm
      obtain rfl : fn = Tryd.f8 := (Option.some.inj (Tryd.func8.symm.trans hfn)).symm
      exact ⟨by kernel_rfl, fun j t ht => by
        rw [Tryd.params8] at ht
        have hm : t ∈ [35, 35] := by simpa using Array.mem_of_getElem? ht
        have hall : ([35, 35].all fun u => !Tryd.prog.wantsStandIn u) = true := by kernel_rfl
        exact (show Tryd.prog.wantsStandIn t = false by simpa using List.all_eq_true.1 hall t hm)⟩)
    (by kernel_rfl)
#print axioms spotOrders_holds
end Go.Proofs.YtjhakblijmaicaaDoor
