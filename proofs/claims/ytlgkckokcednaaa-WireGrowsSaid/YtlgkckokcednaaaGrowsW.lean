/- WireGrows: a greater number has at least as many bytes, and 128 times it one more. No conditions but the row's own. -/
import Derived.Test.YtlgkckokcednaaaAlive
namespace Go.Proofs.Ytlgkckokcednaaa
open Go Go.RowKit

/-- How many bytes a number has. -/
def sizeI (n : Int) : Int := if n < 0 then 0 else ((Wi.num n.toNat).length : Int)

theorem size_all (n : Int) (w : World) (h : n ≤ 9223372036854775807) : Calls Try.prog 12 #[.int .i64 n] w fun e w' => e = .returned (.int .i64 (sizeI n)) ∧ w = w' := by
  by_cases h0 : n < 0
  · have e : sizeI n = 0 := if_pos h0
    rw [e]
    exact size_neg n w h0
  · obtain ⟨k, rfl⟩ := Int.eq_ofNat_of_zero_le (show 0 ≤ n by omega)
    have e : sizeI k = ((Wi.num k).length : Int) := by unfold sizeI; rw [if_neg h0]; rfl
    rw [e]
    exact size_any k w (by omega)

theorem sizeI_neg {n : Int} (h : n < 0) : sizeI n = 0 := if_pos h
theorem sizeI_pos {n : Int} (h : 0 ≤ n) : 1 ≤ sizeI n := by
  unfold sizeI
  rw [if_neg (by omega)]
  have := Wi.num_pos n.toNat
  omega
theorem sizeI_le {n m : Int} (h0 : 0 ≤ n) (h : n ≤ m) : sizeI n ≤ sizeI m := by
  unfold sizeI
  rw [if_neg (by omega), if_neg (by omega)]
  have := Wi.num_len_mono m.toNat n.toNat (by omega)
  omega
theorem sizeI_nine {n : Int} (h : n ≤ 9223372036854775807) : sizeI n ≤ 9 := by
  unfold sizeI
  split
  · decide
  · have := Wi.num_len_nine (n := n.toNat) (by omega)
    omega
theorem sizeI_times {n : Int} (h : 0 < n) : sizeI (128 * n) = sizeI n + 1 := by
  unfold sizeI
  rw [if_neg (by omega), if_neg (by omega)]
  have := Wi.num_len_times (n := n.toNat) (by omega)
  rw [show (128 * n).toNat = 128 * n.toNat by omega, this]
  rfl

set_option maxRecDepth 100000 in
set_option maxHeartbeats 1000000 in
theorem wireGrows_walk (n m : Int) (w : World) (hn : -9223372036854775808 ≤ n ∧ n ≤ 9223372036854775807) (hm : -9223372036854775808 ≤ m ∧ m ≤ 9223372036854775807) :
    Calls Try.prog 10 #[.int .i64 n, .int .i64 m] w (Ret (.bool true) w) := by
  obtain ⟨hn1, hn2⟩ := hn
  obtain ⟨hm1, hm2⟩ := hm
  by_cases h0 : n < 0
  · have C := Lib.hid (size_neg n w h0)
    go_enter Try.func10, Try.ntmps10
    go_wp2_with fail
    refine C.out.mono ?_; rintro e w' ⟨rfl, rfl⟩
    go_wp2_with fail
    refine (alive_any _).mono ?_; rintro e w1 ⟨rfl, hb⟩
    go_wp2_with fail
    go_ret
    exact ⟨rfl, hb⟩
  · by_cases h1 : m < 0
    · go_enter Try.func10, Try.ntmps10
      go_wp2_with fail
      refine (alive_any _).mono ?_; rintro e w1 ⟨rfl, hb⟩
      go_wp2_with fail
      go_ret
      exact ⟨rfl, hb⟩
    · have s1 := sizeI_pos (show 0 ≤ n by omega)
      have s2 := sizeI_nine hn2
      have s3 : n ≤ m → sizeI n ≤ sizeI m := fun h => sizeI_le (by omega) h
      have s4 : m ≤ n → sizeI m ≤ sizeI n := fun h => sizeI_le (by omega) h
      have s5 : 0 < n → sizeI (128 * n) = sizeI n + 1 := fun h => sizeI_times h
      have S3 := Lib.hid s3
      have S4 := Lib.hid s4
      have S5 := Lib.hid s5
      clear s3 s4 s5
      rcases Int.lt_trichotomy n m with h | h | h
      · have k := S3.out (by omega)
        by_cases hz : n = 0
        · subst hz
          go_enter Try.func10, Try.ntmps10
          go_wp2_with (first | (go_at_call 12; refine (size_all _ _ (by omega)).mono ?_; rintro e w' ⟨rfl, rfl⟩) | (go_at_call 13; refine (alive_any _).mono ?_; rintro e w1 ⟨rfl, hb⟩))
          go_ret
          exact ⟨rfl, hb⟩
        · by_cases hg : 36028797018963968 < n
          · go_enter Try.func10, Try.ntmps10
            go_wp2_with (first | (go_at_call 12; refine (size_all _ _ (by omega)).mono ?_; rintro e w' ⟨rfl, rfl⟩) | (go_at_call 13; refine (alive_any _).mono ?_; rintro e w1 ⟨rfl, hb⟩))
            go_ret
            exact ⟨rfl, hb⟩
          · have k5 := S5.out (by omega)
            go_enter Try.func10, Try.ntmps10
            go_wp2_with (first | (go_at_call 12; refine (size_all _ _ (by omega)).mono ?_; rintro e w' ⟨rfl, rfl⟩) | (go_at_call 13; refine (alive_any _).mono ?_; rintro e w1 ⟨rfl, hb⟩))
            go_ret
            exact ⟨rfl, hb⟩
      · subst h
        by_cases hz : n = 0
        · subst hz
          go_enter Try.func10, Try.ntmps10
          go_wp2_with (first | (go_at_call 12; refine (size_all _ _ (by omega)).mono ?_; rintro e w' ⟨rfl, rfl⟩) | (go_at_call 13; refine (alive_any _).mono ?_; rintro e w1 ⟨rfl, hb⟩))
          go_ret
          exact ⟨rfl, hb⟩
        · by_cases hg : 36028797018963968 < n
          · go_enter Try.func10, Try.ntmps10
            go_wp2_with (first | (go_at_call 12; refine (size_all _ _ (by omega)).mono ?_; rintro e w' ⟨rfl, rfl⟩) | (go_at_call 13; refine (alive_any _).mono ?_; rintro e w1 ⟨rfl, hb⟩))
            go_ret
            exact ⟨rfl, hb⟩
          · have k5 := S5.out (by omega)
            go_enter Try.func10, Try.ntmps10
            go_wp2_with (first | (go_at_call 12; refine (size_all _ _ (by omega)).mono ?_; rintro e w' ⟨rfl, rfl⟩) | (go_at_call 13; refine (alive_any _).mono ?_; rintro e w1 ⟨rfl, hb⟩))
            go_ret
            exact ⟨rfl, hb⟩
      · have k := S4.out (by omega)
        by_cases hz : n = 0
        · omega
        · by_cases hg : 36028797018963968 < n
          · go_enter Try.func10, Try.ntmps10
            go_wp2_with (first | (go_at_call 12; refine (size_all _ _ (by omega)).mono ?_; rintro e w' ⟨rfl, rfl⟩) | (go_at_call 13; refine (alive_any _).mono ?_; rintro e w1 ⟨rfl, hb⟩))
            go_ret
            exact ⟨rfl, hb⟩
          · have k5 := S5.out (by omega)
            go_enter Try.func10, Try.ntmps10
            go_wp2_with (first | (go_at_call 12; refine (size_all _ _ (by omega)).mono ?_; rintro e w' ⟨rfl, rfl⟩) | (go_at_call 13; refine (alive_any _).mono ?_; rintro e w1 ⟨rfl, hb⟩))
            go_ret
            exact ⟨rfl, hb⟩
end Go.Proofs.Ytlgkckokcednaaa
