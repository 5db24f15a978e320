/- What the law's own cost tells. -/
import Derived.Test.YtmanafhdmijfeaaAliv
namespace Go.Proofs.Ytmanafhdmijfeaa
open Go Go.RowKit

theorem build_len : ∀ (ss : List Stp) (L : List Ed), (build L ss).length ≤ L.length + ss.length
  | [], L => Nat.le_refl _
  | s :: ss, L => by
    rw [build_cons, List.length_cons]
    have h1 := build_len ss (moreS L s.1 s.2)
    have h2 := len_more L s.1 s.2
    omega
theorem steps_len : ∀ (n : Nat) (a b : List UInt8), a.length + b.length ≤ n → (steps a b).length ≤ a.length + b.length
  | _, [], [], _ => by rw [steps]; simp
  | 0, _ :: _, _, hl => by simp at hl
  | 0, [], _ :: _, hl => by simp at hl
  | n + 1, x :: a, [], hl => by
    have := steps_len n a [] (by simp at hl ⊢; omega)
    rw [steps_cut_end]; simp at this ⊢; omega
  | n + 1, [], y :: b, hl => by
    have := steps_len n [] b (by simp at hl ⊢; omega)
    rw [steps_put_end]; simp at this ⊢; omega
  | n + 1, x :: a, y :: b, hl => by
    simp only [List.length_cons] at hl
    by_cases hxy : x = y
    · subst hxy
      have := steps_len n a b (by omega)
      rw [steps_keep]; simp only [List.length_cons]; omega
    · by_cases hd : Df.dist a (y :: b) ≤ Df.dist (x :: a) b
      · have := steps_len n a (y :: b) (by simp only [List.length_cons]; omega)
        rw [steps_cut hxy hd]; simp only [List.length_cons] at this ⊢; omega
      · have := steps_len n (x :: a) b (by simp only [List.length_cons]; omega)
        rw [steps_put hxy hd]; simp only [List.length_cons] at this ⊢; omega
theorem script_len (a b : List UInt8) : (scriptS a b).length ≤ a.length + b.length := by
  have h1 := build_len (steps a b) []
  have h2 := steps_len _ a b (Nat.le_refl _)
  unfold scriptS
  rw [List.length_nil] at h1
  omega
theorem does_text {L : List Ed} {a b : List UInt8} (h : Does L a b) : ∀ x ∈ L, x.text.length ≤ b.length := by
  induction h with
  | nil => intro x hx; cases hx
  | @cons y L a b hm hn _ ih =>
    intro x hx
    rw [List.length_append]
    rcases List.mem_cons.1 hx with rfl | hx
    · have : x.text.length ≤ (out1 a x).length := by
        unfold out1
        rcases mayB_kind hm with ⟨h1, h2, h3⟩ | ⟨h1, h2, h3⟩ | ⟨h1, h2, h3⟩
        · rw [h1, if_neg (by decide)]; exact Nat.le_refl _
        · rw [h3]; exact Nat.zero_le _
        · rw [h3]; exact Nat.zero_le _
      omega
    · have := ih x hx; omega
theorem script_text (a b : List UInt8) : ∀ x ∈ scriptS a b, x.text.length ≤ b.length := does_text (script_does a b)
theorem makeR_len (a b : List UInt8) : (makeR a b).1.length ≤ 2000 := by
  unfold makeR
  split
  · exact Nat.zero_le _
  · have := script_len a b
    show (scriptS a b).length ≤ 2000
    omega
theorem costR_script {a b : List UInt8} (ha : a.length ≤ 1000) (hb : b.length ≤ 1000) : costR (scriptS a b) = .tuple #[.int .i64 (Df.dist a b : Int), .int .i64 0] := by
  unfold costR
  have := Df.dist_le a b
  rw [if_pos (does_may (script_does a b) ha), script_cost, IntWalk.wrap64_in _ (by omega)]

set_option maxRecDepth 100000 in
set_option maxHeartbeats 2000000 in
theorem lcost_any (a b : List UInt8) (w : World) (hal : a.length ≤ 4611686018427387904) (hbl : b.length ≤ 4611686018427387904) :
    Calls Try.prog 22 #[.string (sB a), .string (sB b)] w fun e w' => e = .returned (.int .i64 (costI a b)) ∧ Below w.heap.size w w' := by
  have hm := pmake_any a b w hal hbl
  by_cases hlong : 1000 < a.length ∨ 1000 < b.length
  · have hr : makeR a b = ([], 3) := by unfold makeR; rw [if_pos hlong]
    have hc : costI a b = -1 := by unfold costI; rw [if_pos hlong]
    rw [hr] at hm
    rw [hc]
    have HM := Lib.hid hm
    clear hm hr hc hlong
    go_enter Try.func22, Try.ntmps22
    go_wp2_with fail
    refine HM.out.mono ?_; rintro x w1 ⟨v, rfl, ho, hb1⟩
    clear ho
    go_wp2_with fail
    go_ret
    exact ⟨rfl, hb1⟩
  · have hr : makeR a b = (scriptS a b, 0) := by unfold makeR; rw [if_neg hlong]
    have hc : costI a b = (Df.dist a b : Int) := by unfold costI; rw [if_neg hlong]
    have hcr := costR_script (a := a) (b := b) (by omega) (by omega)
    have hlen := script_len a b
    have htc := txtC_le (script_text a b)
    have hmul : (scriptS a b).length * b.length ≤ 2000 * 1000 := Nat.mul_le_mul (by omega) (by omega)
    rw [hr] at hm
    rw [hc]
    have HM := Lib.hid hm
    have HCR := Lib.hid hcr
    clear hm hr hc hcr
    go_enter Try.func22, Try.ntmps22
    go_wp2_with fail
    refine HM.out.mono ?_; rintro x w1 ⟨v, rfl, ho, hb1⟩
    obtain ⟨A, c, hv, hc1, hc2, -⟩ := own_form ho
    subst hv
    have hc := pcost_any A c (scriptS a b) w1 (Rd.of_ownK ho) (by omega) ⟨hc1, by simpa [maxLen] using hc2⟩
    rw [HCR.out] at hc
    have HC := Lib.hid hc
    clear hc ho HM hc1 hc2
    go_wp2_with fail
    refine HC.out.mono ?_; rintro x w2 ⟨rfl, hb2⟩
    go_wp2_with fail
    go_ret
    exact ⟨rfl, hb1.trans (hb2.mono hb1.size)⟩
end Go.Proofs.Ytmanafhdmijfeaa
