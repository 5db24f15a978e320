/- SpotTexts: every number has the document's text, and every text is read as the document's answer reads it. No conditions but the row's own. -/
import Derived.Test.YtjhakblijmaicaaDoorTextS
import Derived.Test.YtjhakblijmaicaaDoorLift
import Derived.Stop.LaidErr
namespace Go.Proofs.YtjhakblijmaicaaDoor
open Go Go.ChangeShapes Go.WideShapes Go.RowKit

theorem tab_of_laid {W : World} (h : laidMetH Tryd.prog laidL W) : Tab W := by
  have h' : laidMet Tryd.prog laidL W := h
  have h2 := (h'.tail).tail
  exact Lib.tabIs_of_head (g := 2) (t := 86) (e := 70) (n := 20) (by kernel_rfl) (by kernel_rfl) Tryd.underlying86 Tryd.underlying70 (by kernel_rfl) (by kernel_rfl) h2


/-- The program's Parse and the document's, side by side. -/
theorem parse_both (o : Option (Nat × Nat)) : (o = none ∧ refParseV o = .tuple #[spotV 0 0, .bool false]) ∨ ∃ p, o = some p ∧ refParseV o = .tuple #[spotV p.1 p.2, .bool true] := by
  cases o with
  | none => exact Or.inl ⟨rfl, rfl⟩
  | some p => exact Or.inr ⟨p, rfl, rfl⟩

theorem numO_le {l : List UInt8} {n : Nat} (h : Num.numO l = some n) : n ≤ 1125899906842624 := by
  unfold Num.numO at h
  split at h
  · rename_i hc
    have := hc.2.2.2
    injection h with h
    unfold Num.most at this
    omega
  · cases h

theorem parseO_le {l : List UInt8} {p : Nat × Nat} (h : Num.parseO l = some p) : p.1 ≤ 1125899906842624 ∧ p.2 ≤ 1125899906842624 := by
  unfold Num.parseO at h
  split at h
  · cases h
  · cases ha : Num.numO (l.take (Lib.indexByte l 58).toNat) with
    | none => rw [ha] at h; cases h
    | some a =>
      cases hb : Num.numO (l.drop ((Lib.indexByte l 58).toNat + 1)) with
      | none => rw [ha, hb] at h; cases h
      | some b =>
        rw [ha, hb] at h
        cases h
        exact ⟨numO_le ha, numO_le hb⟩

theorem fn_part {n : Nat} (h : n ≤ 2 ^ 50) : Fl.part (Fl.FN n) = some n := Fl.part_of_rep (Fl.rep_FN (by omega)) h

set_option maxRecDepth 100000 in
set_option maxHeartbeats 4000000 in
theorem spotTexts_walk (re im : Nat) (s : ByteArray) (w : World) (_ : re < 2 ^ 64) (_ : im < 2 ^ 64) (hs : s.size ≤ 140737488351232) (ht : Tab w) :
    Calls Tryd.prog 9 #[.float .f64 re, .float .f64 im, .string s] w (Ret (.bool true) w) := by
  -- what the two readings are
  have CP := Lib.hid (fun w => parse_any s w hs)
  have CR := Lib.hid (fun w => refParse_any s w hs)
  have key : ∃ (c d y1 y2 : Nat) (b : Bool), y1 ≤ 2 ^ 50 ∧ y2 ≤ 2 ^ 50 ∧ Fl.part c = some y1 ∧ Fl.part d = some y2 ∧
      (∀ w, Calls Tryd.prog 29 #[.string s] w fun e w' => e = .returned (.tuple #[.complex .f64 c d, .bool b]) ∧ ∃ n, w.drewN n = w') ∧
      (∀ w, Calls Tryd.prog 30 #[.string s] w (Ret (.tuple #[spotV y1 y2, .bool b]) w)) := by
    cases ho : Num.parseO s.data.toList with
    | none =>
      refine ⟨0, 0, 0, 0, false, by decide, by decide, bit0, bit0, fun w => (CP.out w).mono fun e w' ⟨hv, hw⟩ => ?_, fun w => ?_⟩
      · rw [ho] at hv; exact ⟨hv, hw⟩
      · have h := CR.out w
        rw [ho] at h
        exact h
    | some p =>
      obtain ⟨l1, l2⟩ := parseO_le ho
      refine ⟨Fl.FN p.1, Fl.FN p.2, p.1, p.2, true, l1, l2, fn_part l1, fn_part l2, fun w => (CP.out w).mono fun e w' ⟨hv, hw⟩ => ?_, fun w => ?_⟩
      · rw [ho] at hv; exact ⟨hv, hw⟩
      · have h := CR.out w
        rw [ho] at h
        exact h
  obtain ⟨c, d, y1, y2, b, l1, l2, f1, f2, hP, hR⟩ := key
  have KP := Lib.hid hP
  have KR := Lib.hid hR
  have KI : Hid (∀ w, Calls Tryd.prog 15 #[.complex .f64 c d, spotV y1 y2] w (Ret (.bool true) w)) := fun w => by
    have h := is_spot f1 f2 y1 y2 l1 l2 w
    simp only [and_self, decide_true] at h
    exact h
  have HTab := Lib.hid ht
  clear hP hR f1 f2 CP CR ht
  by_cases h : Fl.part re = none ∨ Fl.part im = none
  · have C1 := Lib.hid (fun w => refIs_no re im w h)
    have C2 := Lib.hid (fun w => text_no re im w h)
    clear h
    go_enter Tryd.func9, Tryd.ntmps9
    go_wp2_with fail
    refine (C1.out _).mono ?_; rintro e w1 ⟨rfl, hb1⟩
    go_wp2_with fail
    refine (KP.out _).mono ?_; rintro e w2 ⟨rfl, k, rfl⟩
    go_wp2_with fail
    refine (KR.out _).mono ?_; rintro e w2 ⟨rfl, hb2⟩
    go_wp2_with fail
    refine (C2.out _).mono ?_; rintro e w3 ⟨rfl, rfl⟩
    go_wp2_with fail
    refine (KI.out _).mono ?_; rintro e w3 ⟨rfl, hb3⟩
    go_wp2_with fail
    refine (alive_any _).mono ?_; rintro e w4 ⟨rfl, rfl⟩
    go_wp2
    go_ret
    have hB2 : Below w.heap.size w w2 := below_of (below_drewN (hb1.alloc hb1.size _) k) hb2
    exact ⟨rfl, below_of (hB2.alloc hB2.size _) hb3⟩
  · obtain ⟨m, h1⟩ := Option.ne_none_iff_exists'.1 (fun e => h (Or.inl e))
    obtain ⟨n, h2⟩ := Option.ne_none_iff_exists'.1 (fun e => h (Or.inr e))
    have q1 := (Fl.part_rep h1).2
    have q2 := (Fl.part_rep h2).2
    have C1 := Lib.hid (fun w => refIs_yes re im w m n h1 h2)
    have C2 := Lib.hid (fun w ht => text_yes re im w h1 h2 ht)
    have C3 := Lib.hid (fun w => refText_any m n q1 q2 w)
    generalize textB m n = T at *
    clear h h1 h2
    go_enter Tryd.func9, Tryd.ntmps9
    go_wp2_with fail
    refine (C1.out _).mono ?_; rintro e w1 ⟨rfl, hb1⟩
    go_wp2_with fail
    refine (C3.out _).mono ?_; rintro e w2 ⟨rfl, hb2⟩
    go_wp2_with fail
    refine (KP.out _).mono ?_; rintro e w3 ⟨rfl, k, rfl⟩
    go_wp2_with fail
    refine (KR.out _).mono ?_; rintro e w3 ⟨rfl, hb3⟩
    have hB3 : Below w.heap.size w w3 := below_of (below_drewN (below_of (hb1.alloc hb1.size _) hb2) k) hb3
    go_wp2_with fail
    refine (C2.out _ (tab_below HTab.out (hB3.alloc hB3.size _))).mono ?_; rintro e w4 ⟨rfl, hb4⟩
    obtain ⟨hc4, hf4⟩ := bcell hb4
    go_wp2_with fail
    refine (KI.out _).mono ?_; rintro e w5 ⟨rfl, hb5⟩
    go_wp2_with fail
    refine (alive_any _).mono ?_; rintro e w6 ⟨rfl, rfl⟩
    go_wp2
    go_ret
    exact ⟨rfl, below_of (below_of (hB3.alloc hB3.size _) hb4) hb5⟩

set_option maxRecDepth 100000 in
theorem spotTexts_said : Rows.SpotTextsSaid :=
  OpenClaim.holds_of_wide 9 Tryd.f9 rfl rfl rfl rfl rfl rfl rfl ⟨rfl, rfl, rfl, rfl, rfl⟩ rfl rfl rfl rfl rfl (by kernel_rfl) Tryd.func9 (by kernel_rfl)
    (of_decide_eq_true (by kernel_rfl)) (by unfold Func.isWrapper; first | (rw [if_pos (by decide +kernel)]; kernel_rfl) | (rw [if_neg (by decide +kernel)]; exact ⟨rfl, rfl⟩))
    (fun os started H enc _ => lift (s := Rows.spotTextsSpec) #[.float .f64 0, .float .f64 0, .string ⟨#[]⟩] rfl (by kernel_rfl) Tryd.func9 (by kernel_rfl) (by kernel_rfl) (fun _ => by kernel_rfl) (fun _ _ _ => by kernel_rfl) (fun _ _ _ => by kernel_rfl)
      (fun H enc W base args ds p hval hA hsz hL => by
        rw [Tryd.params9] at hA hval hsz
        obtain ⟨v0, v1, v2, d0, d1, d2, p0, p1, p2, rfl, rfl, rfl, h0, h1, h2⟩ := trodAll_three hA
        obtain ⟨b0, rfl, rfl, rfl, wf0⟩ := open_float Tryd.underlying30 (hval 0 30 v0 rfl rfl) h0
        obtain ⟨b1, rfl, rfl, rfl, wf1⟩ := open_float Tryd.underlying30 (hval 1 30 v1 rfl rfl) h1
        obtain ⟨b2, rfl, rfl, rfl, wf2⟩ := Go.ChangeMaps.open_string Tryd.underlying9 (hval 2 9 v2 rfl rfl) h2
        exact ⟨rfl, spotTexts_walk b0 b1 b2 W (bits_of_wf wf0) (bits_of_wf wf1) (size_of_sized hsz 2 rfl rfl) (tab_of_laid hL)⟩) os started H enc)

theorem spotTexts_holds : Rows.SpotTextsCardSaid :=
  Claim7.holds_tied_plain_at .later [] [.data, .data, .data] true Rows.spotTextsCard.stood.harness false
    spotTexts_said (fun _ h => by cases h) (by kernel_rfl) (fun _ h => by cases h) spotTexts_row_tie rfl ⟨rfl, rfl⟩ (by kernel_rfl) rfl
    (fun f fn hf hfn => by
      obtain rfl : f = 9 := Option.some.inj ((show Tryd.prog.funcNamed Rows.spotTextsRow.func = some 9 by kernel_rfl).symm.trans hf) |>.symm
      obtain rfl : fn = Tryd.f9 := (Option.some.inj (Tryd.func9.symm.trans hfn)).symm
      exact ⟨by kernel_rfl, fun j t ht => by
        rw [Tryd.params9] at ht
        have hm : t ∈ [30, 30, 9] := by simpa using Array.mem_of_getElem? ht
        have hall : ([30, 30, 9].all fun u => !Tryd.prog.wantsStandIn u) = true := by kernel_rfl
        exact (show Tryd.prog.wantsStandIn t = false by simpa using List.all_eq_true.1 hall t hm)⟩)
    (by kernel_rfl)
#print axioms spotTexts_holds
end Go.Proofs.YtjhakblijmaicaaDoor
