/- The document's Num of layer 2. -/
import Derived.Test.YtjgegggcbjecbaaDoorNums2
namespace Go.Proofs.YtjgegggcbjecbaaDoor
open Go Go.RowKit

theorem belowA {w w1 : World} (hb : Below w.drew.heap.size w.drew w1) (o : Obj) : Below w.heap.size w (w1.alloc o) := by
  have h := below_of ((Below.refl w.heap.size w).drew) hb
  exact h.alloc h.size _
theorem belowB {w w1 : World} {o : Obj} (hb : Below (w.drew.alloc o).heap.size (w.drew.alloc o) w1) : Below w.heap.size w w1 :=
  below_of (((Below.refl w.heap.size w).drew).alloc (Nat.le_refl _) _) hb

set_option maxRecDepth 100000 in
set_option maxHeartbeats 1000000 in
theorem refNum_small (n : Nat) (h : n < 128) (w : World) :
    Calls Tryd.prog 18 #[.int .i64 (n : Int)] w (Ret (.string (sB (Wi.num n))) w) := by
  have hcv := conv_byte n (by omega) (w.alloc (Obj.cells #[.int .u8 (n : Int)] 5)) w.heap.size (by simp)
  rw [Wi.num_small h]
  generalize sB [UInt8.ofNat n] = S at *
  go_enter Tryd.func18, Tryd.ntmps18
  go_wp2
  go_ret
  exact ⟨rfl, (Below.refl _ _).alloc (Nat.le_refl _) _⟩

set_option maxRecDepth 100000 in
set_option maxHeartbeats 1000000 in
theorem refNum_any (k : Nat) : ∀ (n : Nat) (w : World), n ≤ k → n < 9223372036854775808 →
    Calls Tryd.prog 18 #[.int .i64 (n : Int)] w (Ret (.string (sB (Wi.num n))) w) := by
  induction k with
  | zero => intro n w hk hn; exact refNum_small n (by omega) w
  | succ k ih =>
    intro n w hk hn
    by_cases h : n < 128
    · exact refNum_small n h w
    · obtain ⟨q, hq⟩ : ∃ q : Nat, q = n / 128 := ⟨_, rfl⟩
      obtain ⟨r, hr⟩ : ∃ r : Nat, r = n % 128 := ⟨_, rfl⟩
      obtain ⟨c, hc⟩ : ∃ c : Nat, c = r + 128 := ⟨_, rfl⟩
      have hw1 : IntKind.i64.wrap ((n : Int) / 128) = (q : Int) := by rw [IntWalk.i64_in _ (by omega)]; omega
      have hw5 : (n : Int).tmod 128 = (r : Int) := by rw [Int.tmod_eq_emod_of_nonneg (by omega)]; omega
      have hw3 : IntKind.i64.wrap ((r : Int) + 128) = (c : Int) := by rw [IntWalk.i64_in _ (by omega)]; omega
      have hw4 : IntKind.u8.wrap (c : Int) = (c : Int) := by rw [IntKind.wrap_u8]; omega
      have IH := Lib.hid (fun w => ih q w (by omega) (by omega))
      have hcv := conv_byte c (by omega)
      have hlt : ¬ (n : Int) < 128 := by omega
      have h9 : (Wi.num q).length ≤ 9 := Wi.num_len_nine (by omega)
      have HD := Lib.hid (show sB (Wi.num n) = sB [UInt8.ofNat c] ++ sB (Wi.num q) by rw [Wi.num_big h, ← sB_append, hq, hc, hr]; rfl)
      have hz2 : (sB (Wi.num q)).size ≤ 9 := by rw [sB_size]; exact h9
      have hz4 : ¬ 9223372036854775807 < (sB [UInt8.ofNat c]).size + (sB (Wi.num q)).size := by
        have : (sB [UInt8.ofNat c]).size = 1 := rfl
        omega
      clear hz2 ih hq hr hc h h9
      generalize sB [UInt8.ofNat c] = C at *
      generalize sB (Wi.num q) = Q at *
      go_enter Tryd.func18, Tryd.ntmps18
      go_wp2
      go_region_with ((go_at_call 18; refine (IH.out _).mono ?_; rintro e w1 ⟨rfl, hb⟩; obtain ⟨hcc, hff⟩ := bcell hb))
      all_goals
        go_wp2
        go_ret
        refine ⟨by rw [HD.out]; rfl, ?_⟩
        first
          | exact belowA hb _
          | exact belowB hb
end Go.Proofs.YtjgegggcbjecbaaDoor
