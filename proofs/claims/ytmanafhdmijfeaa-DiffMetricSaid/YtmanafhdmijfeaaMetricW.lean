/- The walk of DiffMetric. -/
import Derived.Test.YtmanafhdmijfeaaLCost
namespace Go.Proofs.Ytmanafhdmijfeaa
open Go Go.RowKit

theorem beq_int_nat (x y : Nat) : ((x : Int) == (y : Int)) = decide (x = y) := by rw [Bool.eq_iff_iff, beq_iff_eq, decide_eq_true_iff]; omega

set_option maxRecDepth 100000 in
set_option maxHeartbeats 4000000 in
theorem diffMetric_walk (a b c : ByteArray) (w : World) (hal : a.size ≤ 4611686018427387904) (hbl : b.size ≤ 4611686018427387904) (hcl : c.size ≤ 4611686018427387904) :
    Calls Try.prog 10 #[.string a, .string b, .string c] w fun e w' => e = .returned (.bool true) ∧ Below w.heap.size w w' := by
  obtain ⟨a', rfl⟩ : ∃ l, a = sB l := ⟨a.data.toList, rfl⟩
  obtain ⟨b', rfl⟩ : ∃ l, b = sB l := ⟨b.data.toList, rfl⟩
  obtain ⟨c', rfl⟩ : ∃ l, c = sB l := ⟨c.data.toList, rfl⟩
  rw [sB_size] at hal hbl hcl
  have hsa := sB_size a'
  have hsb := sB_size b'
  have hsc := sB_size c'
  have H1 := Lib.hid (fun w => lcost_any a' b' w hal hbl)
  have H2 := Lib.hid (fun w => lcost_any b' c' w hbl hcl)
  have H3 := Lib.hid (fun w => lcost_any a' c' w hal hcl)
  have H4 := Lib.hid (fun w => lcost_any b' a' w hbl hal)
  obtain ⟨X, hX⟩ : ∃ X, X = costI a' b' := ⟨_, rfl⟩
  obtain ⟨Y, hY⟩ : ∃ X, X = costI b' c' := ⟨_, rfl⟩
  obtain ⟨Z, hZ⟩ : ∃ X, X = costI a' c' := ⟨_, rfl⟩
  obtain ⟨V, hV⟩ : ∃ X, X = costI b' a' := ⟨_, rfl⟩
  rw [← hX] at H1
  rw [← hY] at H2
  rw [← hZ] at H3
  rw [← hV] at H4
  by_cases hlong : 1000 < a'.length ∨ 1000 < b'.length ∨ 1000 < c'.length
  · have hneg : X = -1 ∨ (¬ 1000 < a'.length ∧ ¬ 1000 < b'.length ∧ 1000 < c'.length ∧ 0 ≤ X ∧ Y = -1) := by
      unfold costI at hX hY
      by_cases h1 : 1000 < a'.length ∨ 1000 < b'.length
      · left; rw [if_pos h1] at hX; exact hX
      · right; rw [if_neg h1] at hX; rw [if_pos (by omega)] at hY
        exact ⟨by omega, by omega, by omega, by omega, hY⟩
    clear hX hY hZ hV H4
    rcases hneg with rfl | ⟨ha, hb, hc, hX0, rfl⟩
    · by_cases ha : 1000 < a'.length
      · have da : decide ((1000 : Int) < (a'.length : Int)) = true := decide_eq_true (by omega)
        clear hlong
        go_enter Try.func10, Try.ntmps10
        go_wp2_with fail
        refine (H1.out _).mono ?_; rintro x w1 ⟨rfl, hb1⟩
        go_wp2_with fail
        refine (H2.out _).mono ?_; rintro x w2 ⟨rfl, hb2⟩
        go_wp2_with fail
        refine (H3.out _).mono ?_; rintro x w3 ⟨rfl, hb3⟩
        have hB := hb1.trans ((hb2.trans (hb3.mono hb2.size)).mono hb1.size)
        go_wp2_with fail
        refine (alive_any _).mono ?_; rintro x w4 ⟨rfl, hb4⟩
        go_wp2_with fail
        go_ret
        exact ⟨rfl, hB.trans (hb4.mono hB.size)⟩
      · have da : decide ((1000 : Int) < (a'.length : Int)) = false := decide_eq_false (by omega)
        by_cases hb : 1000 < b'.length
        · have db : decide ((1000 : Int) < (b'.length : Int)) = true := decide_eq_true (by omega)
          clear hlong
          go_enter Try.func10, Try.ntmps10
          go_wp2_with fail
          refine (H1.out _).mono ?_; rintro x w1 ⟨rfl, hb1⟩
          go_wp2_with fail
          refine (H2.out _).mono ?_; rintro x w2 ⟨rfl, hb2⟩
          go_wp2_with fail
          refine (H3.out _).mono ?_; rintro x w3 ⟨rfl, hb3⟩
          have hB := hb1.trans ((hb2.trans (hb3.mono hb2.size)).mono hb1.size)
          go_wp2_with fail
          refine (alive_any _).mono ?_; rintro x w4 ⟨rfl, hb4⟩
          go_wp2_with fail
          go_ret
          exact ⟨rfl, hB.trans (hb4.mono hB.size)⟩
        · have db : decide ((1000 : Int) < (b'.length : Int)) = false := decide_eq_false (by omega)
          have dc : decide ((1000 : Int) < (c'.length : Int)) = true := decide_eq_true (by omega)
          clear hlong
          go_enter Try.func10, Try.ntmps10
          go_wp2_with fail
          refine (H1.out _).mono ?_; rintro x w1 ⟨rfl, hb1⟩
          go_wp2_with fail
          refine (H2.out _).mono ?_; rintro x w2 ⟨rfl, hb2⟩
          go_wp2_with fail
          refine (H3.out _).mono ?_; rintro x w3 ⟨rfl, hb3⟩
          have hB := hb1.trans ((hb2.trans (hb3.mono hb2.size)).mono hb1.size)
          go_wp2_with fail
          refine (alive_any _).mono ?_; rintro x w4 ⟨rfl, hb4⟩
          go_wp2_with fail
          go_ret
          exact ⟨rfl, hB.trans (hb4.mono hB.size)⟩
    · have da : decide ((1000 : Int) < (a'.length : Int)) = false := decide_eq_false (by omega)
      have db : decide ((1000 : Int) < (b'.length : Int)) = false := decide_eq_false (by omega)
      have dc : decide ((1000 : Int) < (c'.length : Int)) = true := decide_eq_true (by omega)
      have dx : decide (X < 0) = false := decide_eq_false (by omega)
      clear hlong
      go_enter Try.func10, Try.ntmps10
      go_wp2_with fail
      refine (H1.out _).mono ?_; rintro x w1 ⟨rfl, hb1⟩
      go_wp2_with fail
      refine (H2.out _).mono ?_; rintro x w2 ⟨rfl, hb2⟩
      go_wp2_with fail
      refine (H3.out _).mono ?_; rintro x w3 ⟨rfl, hb3⟩
      have hB := hb1.trans ((hb2.trans (hb3.mono hb2.size)).mono hb1.size)
      go_wp2_with fail
      refine (alive_any _).mono ?_; rintro x w4 ⟨rfl, hb4⟩
      go_wp2_with fail
      go_ret
      exact ⟨rfl, hB.trans (hb4.mono hB.size)⟩
  · unfold costI at hX hY hZ hV
    rw [if_neg (by omega)] at hX hY hZ hV
    rw [Df.dist_symm b' a', ← hX] at hV
    subst hV
    have h0 := Df.dist_zero a' b'
    have htr := Df.dist_triangle a' b' c'
    have l1 := Df.dist_le a' b'
    have l2 := Df.dist_le b' c'
    obtain ⟨x, hx⟩ : ∃ n, n = Df.dist a' b' := ⟨_, rfl⟩
    obtain ⟨y, hy⟩ : ∃ n, n = Df.dist b' c' := ⟨_, rfl⟩
    obtain ⟨z, hz⟩ : ∃ n, n = Df.dist a' c' := ⟨_, rfl⟩
    rw [← hx] at hX h0 htr l1
    rw [← hy] at hY htr l2
    rw [← hz] at hZ htr
    subst hX hY hZ
    have dz : decide ((z : Int) ≤ (x : Int) + (y : Int)) = true := decide_eq_true (by omega)
    have dz2 : decide (z ≤ x + y) = true := decide_eq_true htr
    have dx : ((x : Int) == 0) = decide (a' = b') := by
      rw [Bool.eq_iff_iff, beq_iff_eq, decide_eq_true_iff, ← h0]; omega
    have ds : ((sB a').toList == (sB b').toList) = decide (a' = b') := by
      rw [sB_toList, sB_toList, Bool.eq_iff_iff, beq_iff_eq, decide_eq_true_iff]
    have n1 : decide ((x : Int) < 0) = false := decide_eq_false (by omega)
    have n2 : decide ((y : Int) < 0) = false := decide_eq_false (by omega)
    have n3 : decide ((z : Int) < 0) = false := decide_eq_false (by omega)
    have bx : x ≤ 2000 := by omega
    have by_ : y ≤ 2000 := by omega
    have HDX := Lib.hid dx
    have HDS := Lib.hid ds
    clear hlong h0 hx hy hz dx ds
    by_cases hab : a' = b'
    · have e1 : ((x : Int) == 0) = true := by rw [HDX.out, decide_eq_true hab]
      have e2 : (sB a').toList = (sB b').toList := by rw [hab]
      have e3 : ((sB a').toList == (sB b').toList) = true := by rw [HDS.out, decide_eq_true hab]
      clear hab
      go_enter Try.func10, Try.ntmps10
      go_wp2_with fail
      refine (H1.out _).mono ?_; rintro x' w1 ⟨rfl, hb1⟩
      go_wp2_with fail
      refine (H2.out _).mono ?_; rintro x' w2 ⟨rfl, hb2⟩
      go_wp2_with fail
      refine (H3.out _).mono ?_; rintro x' w3 ⟨rfl, hb3⟩
      have hB := hb1.trans ((hb2.trans (hb3.mono hb2.size)).mono hb1.size)
      go_wp2_with fail
      refine (H4.out _).mono ?_; rintro x' w5 ⟨rfl, hb5⟩
      have hB5 := hB.trans (hb5.mono hB.size)
      go_wp2_with fail
      refine (alive_any _).mono ?_; rintro x' w4 ⟨rfl, hb4⟩
      go_wp2_with fail
      go_ret
      exact ⟨rfl, hB5.trans (hb4.mono hB5.size)⟩
    · have e1 : ((x : Int) == 0) = false := by rw [HDX.out, decide_eq_false hab]
      have e2 : ¬ (sB a').toList = (sB b').toList := by rw [sB_toList, sB_toList]; exact hab
      have e3 : ((sB a').toList == (sB b').toList) = false := by rw [HDS.out, decide_eq_false hab]
      have e4 : ¬ x = 0 := by
        intro h0
        rw [h0] at e1
        simp at e1
      clear hab
      go_enter Try.func10, Try.ntmps10
      go_wp2_with fail
      refine (H1.out _).mono ?_; rintro x' w1 ⟨rfl, hb1⟩
      go_wp2_with fail
      refine (H2.out _).mono ?_; rintro x' w2 ⟨rfl, hb2⟩
      go_wp2_with fail
      refine (H3.out _).mono ?_; rintro x' w3 ⟨rfl, hb3⟩
      have hB := hb1.trans ((hb2.trans (hb3.mono hb2.size)).mono hb1.size)
      go_wp2_with fail
      refine (H4.out _).mono ?_; rintro x' w5 ⟨rfl, hb5⟩
      have hB5 := hB.trans (hb5.mono hB.size)
      go_wp2_with fail
      refine (alive_any _).mono ?_; rintro x' w4 ⟨rfl, hb4⟩
      go_wp2_with fail
      go_ret
      exact ⟨rfl, hB5.trans (hb4.mono hB5.size)⟩
end Go.Proofs.Ytmanafhdmijfeaa
