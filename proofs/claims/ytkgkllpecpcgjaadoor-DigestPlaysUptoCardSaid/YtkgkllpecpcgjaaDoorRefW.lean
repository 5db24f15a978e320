/- The contracts of the document's digit, word and turn. -/
import Derived.Test.YtkgkllpecpcgjaaDoorSha
import Derived.Test.YtkgkllpecpcgjaaDoorRd
import Derived.WalkMore
import Derived.Laws.BitsAllLaws
import Derived.Laws.BitsLemmas
import Derived.Lib.Hide
namespace Go.Proofs.YtkgkllpecpcgjaaDoor
open Go Go.RowKit

theorem str_drop (s : ByteArray) (k : Nat) (h : k < s.size) : s.data.toList.drop k = s[k] :: s.data.toList.drop (k + 1) := by
  have hl : k < s.data.toList.length := by rw [Array.length_toList]; exact h
  rw [List.drop_eq_getElem_cons hl]
  rfl

set_option maxRecDepth 100000 in
set_option maxHeartbeats 1000000 in
theorem digit_any (c : UInt8) (w : World) : Calls Tryd.prog 30 #[.int .u8 (c.toNat : Int)] w fun e w' => e = .returned (.int .i64 (Sh.digit c.toNat : Int)) ∧ w = w' := by
  have hx : (c.toNat : Int) < 256 := by have := c.toNat_lt; omega
  unfold Sh.digit
  by_cases h1 : 48 ≤ c.toNat ∧ c.toNat ≤ 57
  · rw [if_pos h1]
    obtain ⟨h1, h2⟩ := h1
    have e1 : IntKind.u8.wrap ((c.toNat : Int) - 48) = (c.toNat : Int) - 48 := by rw [IntKind.wrap_u8]; omega
    have e2 : ((c.toNat - 48 : Nat) : Int) = (c.toNat : Int) - 48 := by omega
    rw [e2]
    go_enter Tryd.func30, Tryd.ntmps30
    go_wp2
    go_ret
    exact ⟨by first | rfl | (rw [IntWalk.i64_in _ (by omega)]), rfl⟩
  · rw [if_neg h1]
    by_cases h2 : 97 ≤ c.toNat ∧ c.toNat ≤ 102
    · rw [if_pos h2]
      obtain ⟨h2, h3⟩ := h2
      have h4 : ¬ c.toNat ≤ 57 := by omega
      have e1 : IntKind.u8.wrap ((c.toNat : Int) - 97) = (c.toNat : Int) - 97 := by rw [IntKind.wrap_u8]; omega
      have e2 : ((c.toNat - 87 : Nat) : Int) = (c.toNat : Int) - 97 + 10 := by omega
      rw [e2]
      go_enter Tryd.func30, Tryd.ntmps30
      go_wp2
      go_ret
      exact ⟨by first | rfl | (rw [IntWalk.i64_in _ (by omega)]), rfl⟩
    · rw [if_neg h2]
      have d1 : (decide (48 ≤ (c.toNat : Int)) && decide ((c.toNat : Int) ≤ 57)) = false := by simp; omega
      have d2 : (decide (97 ≤ (c.toNat : Int)) && decide ((c.toNat : Int) ≤ 102)) = false := by simp; omega
      by_cases h3 : c.toNat < 48
      · have h4 : ¬ 48 ≤ c.toNat := by omega
        have h5 : ¬ 97 ≤ c.toNat := by omega
        go_enter Tryd.func30, Tryd.ntmps30
        go_wp2
        go_ret
        exact ⟨rfl, rfl⟩
      · have h4 : 48 ≤ c.toNat := by omega
        have h5 : ¬ c.toNat ≤ 57 := by omega
        by_cases h6 : c.toNat < 97
        · have h7 : ¬ 97 ≤ c.toNat := by omega
          go_enter Tryd.func30, Tryd.ntmps30
          go_wp2
          go_ret
          exact ⟨rfl, rfl⟩
        · have h7 : 97 ≤ c.toNat := by omega
          have h8 : ¬ c.toNat ≤ 102 := by omega
          go_enter Tryd.func30, Tryd.ntmps30
          go_wp2
          go_ret
          exact ⟨rfl, rfl⟩

theorem turn_eq {x n : Nat} (hx : x < 4294967296) : bits .or .u32 ((x : Int) / 2 ^ n) (IntKind.u32.wrap ((x : Int) * 2 ^ (32 - n))) = ((Sh.turn x n : Nat) : Int) := by
  have e1 : (x : Int) / 2 ^ n = ((x / 2 ^ n : Nat) : Int) := by push_cast; rfl
  have e2 : IntKind.u32.wrap ((x : Int) * 2 ^ (32 - n)) = ((x * 2 ^ (32 - n) % 4294967296 : Nat) : Int) := by rw [IntKind.wrap_u32, Int.natCast_emod, Int.natCast_mul, Int.natCast_pow]; rfl
  rw [e1, e2]
  exact u32_or_nat _ _ (Nat.lt_of_le_of_lt (Nat.div_le_self _ _) hx) (Nat.mod_lt _ (by decide))

set_option maxRecDepth 100000 in
theorem turn_any (x n : Nat) (w : World) (hx : x < 4294967296) (hn : n < 32) :
    Calls Tryd.prog 35 #[.int .u32 (x : Int), .int .u64 (n : Int)] w fun e w' => e = .returned (.int .u32 (Sh.turn x n : Int)) ∧ w = w' := by
  have h1 : IntKind.u64.wrap (32 - (n : Int)) = ((32 - n : Nat) : Int) := by rw [IntWalk.u64_in _ (by omega)]; omega
  have h2 : ((32 - n : Nat) : Int) ≤ 32 := by omega
  have h3 : (n : Int) ≤ 32 := by omega
  have HE := Lib.hid (turn_eq (n := n) hx)
  generalize 32 - n = m at *
  go_enter Tryd.func35, Tryd.ntmps35
  go_wp2
  go_ret
  exact ⟨by rw [← HE.out]; rfl, rfl⟩

set_option maxRecDepth 100000 in
set_option maxHeartbeats 1000000 in
theorem word_any (s : ByteArray) (i : Nat) (w : World) (hi : 8 * i + 8 ≤ s.size) (hs : s.size ≤ 4611686018427387904) :
    Calls Tryd.prog 26 #[.string s, .int .i64 (i : Int)] w fun e w' => e = .returned (.int .u32 (Sh.wordOf 0 ((s.data.toList.drop (8 * i)).take 8) : Int)) ∧ w = w' := by
  have hd := str_drop s
  have hlen : s.data.toList.length = s.size := by rw [Array.length_toList]; rfl
  have hsn : ∀ j, j < 8 → (hj : 8 * i + j < s.size) → (s.data.toList.drop (8 * i)).take (j + 1) = (s.data.toList.drop (8 * i)).take j ++ [s[8 * i + j]] := by
    intro j _ hj
    have h1 : j < (s.data.toList.drop (8 * i)).length := by rw [List.length_drop, hlen]; omega
    rw [List.take_succ_eq_append_getElem h1]
    congr 1
    have h2 := hd (8 * i + j) hj
    rw [← List.drop_drop, List.drop_eq_getElem_cons h1] at h2
    rw [(List.cons.inj h2).1]
  generalize s.data.toList.drop (8 * i) = l at *
  have HS := Lib.hid hsn
  clear hsn hd hlen
  go_enter Tryd.func26, Tryd.ntmps26
  go_wp2
  go_loop [5, 6] (fun x iv => ∃ (j X : Nat), j ≤ 8 ∧ iv = .int .i64 (8 * (i : Int) + (j : Int)) ∧ x = .int .u32 (X : Int) ∧ X = Sh.wordOf 0 (l.take j)) (fun _ iv => 8 * i + 8 - (intOf iv).toNat)
  case atStart => exact ⟨0, 0, by omega, by go_num, rfl, rfl⟩
  case round =>
    obtain ⟨j, X, hj, rfl, rfl, hX⟩ := hrel
    by_cases hlt : j < 8
    · have hin : 8 * i + j < s.size := by omega
      have h2 := HS.out j hlt hin
      have CD := Lib.hid (digit_any s[8 * i + j])
      have hdg := Sh.digit_le s[8 * i + j].toNat
      have HX := Lib.hid (show ((Sh.wordOf 0 (l.take (j + 1)) : Nat) : Int) = (16 * (X : Int) % 4294967296 + (Sh.digit s[8 * i + j].toNat : Int)) % 4294967296 by rw [h2, Sh.wordOf_snoc, ← hX]; unfold Sh.add; omega)
      clear hX h2
      generalize Sh.digit s[8 * i + j].toNat = dg at *
      go_wp2_with fail
      refine (CD.out _).mono ?_; rintro e' w' ⟨rfl, rfl⟩
      go_wp2_with fail
      go_round
      case rel => exact ⟨j + 1, _, by omega, by go_num, by rw [HX.out], rfl⟩
      case measure => simp [intOf]; omega
    · obtain rfl : j = 8 := by omega
      go_wp2
      go_ret
      subst hX
      exact ⟨rfl, rfl⟩
end Go.Proofs.YtkgkllpecpcgjaaDoor
