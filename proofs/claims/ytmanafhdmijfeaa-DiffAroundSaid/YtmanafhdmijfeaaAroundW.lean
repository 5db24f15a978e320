/- The walk of DiffAround. -/
import Derived.Test.YtmanafhdmijfeaaLCost
namespace Go.Proofs.Ytmanafhdmijfeaa
open Go Go.RowKit

set_option maxRecDepth 100000 in
set_option maxHeartbeats 4000000 in
theorem diffAround_walk (a b p s : ByteArray) (w : World) (hal : a.size ≤ 1152921504606846976) (hbl : b.size ≤ 1152921504606846976) (hpl : p.size ≤ 1152921504606846976) (hsl : s.size ≤ 1152921504606846976) :
    Calls Try.prog 11 #[.string a, .string b, .agg #[.string p, .string s]] w fun e w' => e = .returned (.bool true) ∧ Below w.heap.size w w' := by
  obtain ⟨a', rfl⟩ : ∃ l, a = sB l := ⟨a.data.toList, rfl⟩
  obtain ⟨b', rfl⟩ : ∃ l, b = sB l := ⟨b.data.toList, rfl⟩
  obtain ⟨p', rfl⟩ : ∃ l, p = sB l := ⟨p.data.toList, rfl⟩
  obtain ⟨s', rfl⟩ : ∃ l, s = sB l := ⟨s.data.toList, rfl⟩
  rw [sB_size] at hal hbl hpl hsl
  have H1 := Lib.hid (fun w => lcost_any a' b' w (by omega) (by omega))
  have h2 := fun w => lcost_any (p' ++ a' ++ s') (p' ++ b' ++ s') w (by simp only [List.length_append]; omega) (by simp only [List.length_append]; omega)
  simp only [sB_append] at h2
  have H2 := Lib.hid h2
  obtain ⟨X, hX⟩ : ∃ X, X = costI a' b' := ⟨_, rfl⟩
  obtain ⟨Y, hY⟩ : ∃ X, X = costI (p' ++ a' ++ s') (p' ++ b' ++ s') := ⟨_, rfl⟩
  rw [← hX] at H1
  rw [← hY] at H2
  have hXY : X = Y ∨ (¬ X = Y ∧ Y = -1) := by
    by_cases h : X = Y
    · exact .inl h
    · refine .inr ⟨h, ?_⟩
      unfold costI at hX hY
      by_cases hl : 1000 < (p' ++ a' ++ s').length ∨ 1000 < (p' ++ b' ++ s').length
      · rw [if_pos hl] at hY; exact hY
      · rw [if_neg hl, Df.dist_around] at hY
        simp only [List.length_append] at hl
        rw [if_neg (by omega)] at hX
        exact absurd (hX.trans hY.symm) h
  have h1 : ¬ 9223372036854775807 < (sB p').size + (sB a').size := by rw [sB_size, sB_size]; omega
  have h1b : ¬ 9223372036854775807 < (sB p').size + (sB b').size := by rw [sB_size, sB_size]; omega
  have h3 : ¬ 9223372036854775807 < (sB p' ++ sB a').size + (sB s').size := by rw [← sB_append, sB_size, sB_size, List.length_append]; omega
  have h3b : ¬ 9223372036854775807 < (sB p' ++ sB b').size + (sB s').size := by rw [← sB_append, sB_size, sB_size, List.length_append]; omega
  have h4 : ¬ 9223372036854775807 < (sB p').size + (sB a').size + (sB s').size := by rw [sB_size, sB_size, sB_size]; omega
  have h4b : ¬ 9223372036854775807 < (sB p').size + (sB b').size + (sB s').size := by rw [sB_size, sB_size, sB_size]; omega
  clear h2 hX hY
  rcases hXY with rfl | ⟨hne, rfl⟩
  · have e1 : (X == X) = true := beq_self_eq_true X
    go_enter Try.func11, Try.ntmps11
    go_wp2_with fail
    refine (H1.out _).mono ?_; rintro x w1 ⟨rfl, hb1⟩
    have hS := (Blk.new w 47 #[.string (sB p'), .string (sB s')]).later hb1
    have s0 := hS.cell 0
    have s1 := hS.cell 1
    simp only [List.getElem?_toArray, List.getElem?_cons_zero, List.getElem?_cons_succ] at s0 s1
    clear hS
    have hB := (below_alloc w (.cells #[.string (sB p'), .string (sB s')] 47)).trans (hb1.mono (by simp))
    have HB := Lib.hid hB
    clear hb1 hB
    go_wp2_with fail
    refine (H2.out _).mono ?_; rintro x w2 ⟨rfl, hb2⟩
    have hB2 := HB.out.trans (hb2.mono HB.out.size)
    go_wp2_with fail
    refine (alive_any _).mono ?_; rintro x w4 ⟨rfl, hb4⟩
    go_wp2_with fail
    go_ret
    exact ⟨rfl, hB2.trans (hb4.mono hB2.size)⟩
  · have e1 : (X == -1) = false := by rw [beq_eq_false_iff_ne]; exact hne
    go_enter Try.func11, Try.ntmps11
    go_wp2_with fail
    refine (H1.out _).mono ?_; rintro x w1 ⟨rfl, hb1⟩
    have hS := (Blk.new w 47 #[.string (sB p'), .string (sB s')]).later hb1
    have s0 := hS.cell 0
    have s1 := hS.cell 1
    simp only [List.getElem?_toArray, List.getElem?_cons_zero, List.getElem?_cons_succ] at s0 s1
    clear hS
    have hB := (below_alloc w (.cells #[.string (sB p'), .string (sB s')] 47)).trans (hb1.mono (by simp))
    have HB := Lib.hid hB
    clear hb1 hB
    go_wp2_with fail
    refine (H2.out _).mono ?_; rintro x w2 ⟨rfl, hb2⟩
    have hB2 := HB.out.trans (hb2.mono HB.out.size)
    go_wp2_with fail
    refine (alive_any _).mono ?_; rintro x w4 ⟨rfl, hb4⟩
    go_wp2_with fail
    go_ret
    exact ⟨rfl, hB2.trans (hb4.mono hB2.size)⟩
end Go.Proofs.Ytmanafhdmijfeaa
