/- The contract of the document's GetNum. -/
import Derived.Test.YtjgegggcbjecbaaGet
namespace Go.Proofs.Ytjgegggcbjecbaa
open Go Go.RowKit

theorem str_drop (s : ByteArray) (k : Nat) (h : k < s.size) : s.data.toList.drop k = s[k] :: s.data.toList.drop (k + 1) := by
  have hl : k < s.data.toList.length := by rw [Array.length_toList]; exact h
  rw [List.drop_eq_getElem_cons hl]
  rfl

set_option maxRecDepth 100000 in
set_option maxHeartbeats 4000000 in
theorem refGetNum_in (s : ByteArray) (k : Nat) (w : World) (hm : s.size ≤ 9223372036854775807) (hk : k ≤ s.size) :
    Calls Try.prog 42 #[.string s, .int .i64 (k : Int)] w fun e w' => e = .returned (getV (Wi.getNum s.data.toList k)) ∧ w = w' := by
  have hlen : s.data.toList.length = s.size := by rw [Array.length_toList]; rfl
  have hdrop := str_drop s
  generalize s.data.toList = l at *
  obtain ⟨G, hG⟩ : ∃ G, G = Wi.get 0 0 (l.drop k) := ⟨_, rfl⟩
  have HV := Lib.hid (getV_in (show k ≤ l.length by omega) hG)
  have HG := Lib.hid hG
  clear hG
  have HN := Lib.hid (show l.drop s.size = [] by rw [← hlen, List.drop_length])
  clear hlen
  have HR := Lib.hid hdrop
  clear hdrop
  have hend : ∀ (e : Nat), e ≠ 0 → G = (0, 0, e) → Ending.returned (.tuple #[.int .i64 0, .int .i64 0, .int .i64 (e : Int)]) = .returned (getV (Wi.getNum l k)) := fun e he h => by
    rw [HV.out, h]; simp [getV, he]
  have hok : ∀ (n i : Nat) (a b : Int), a = n → b = (k : Int) + i + 1 → G = (n, i + 1, 0) → Ending.returned (.tuple #[.int .i64 a, .int .i64 b, .int .i64 0]) = .returned (getV (Wi.getNum l k)) := fun n i a b ha hb h => by
    rw [HV.out, h, ha, hb]; simp [getV]; omega
  have HE := Lib.hid hend
  have HO := Lib.hid hok
  clear hend hok
  have hd1 : decide ((k : Int) < 0) = false := by simp
  have hd2 : decide ((s.size : Int) < (k : Int)) = false := by simp; omega
  have hd3 : decide (s.size < k) = false := by simp; omega
  go_enter Try.func42, Try.ntmps42
  go_wp2
  go_loop [7, 8] (fun a iv => ∃ (i acc : Nat) (q : Int), iv = .int .i64 (i : Int) ∧ a = .int .i64 q ∧ q = acc ∧ i ≤ 8 ∧ k + i ≤ s.size ∧ acc < 128 ^ i ∧ Wi.get i acc (l.drop (k + i)) = G) (fun _ iv => s.size - (intOf iv).toNat)
  case atStart => exact ⟨0, 0, _, rfl, rfl, rfl, by omega, by omega, by decide, HG.out.symm⟩
  case round =>
    obtain ⟨i, acc, _, rfl, rfl, rfl, hi, hki, ha, hg⟩ := hrel
    by_cases hlt : k + i < s.size
    · have hx : (s[k + i].toNat : Int) < 256 := by have := s[k + i].toNat_lt; omega
      rw [HR.out (k + i) hlt] at hg
      have HA := Lib.hid ha
      by_cases h128 : 128 ≤ s[k + i].toNat
      · by_cases h8 : i = 8
        · rw [Wi.get_range _ h128 h8] at hg
          have HGG := Lib.hid hg
          have h8' : 8 ≤ i := by omega
          clear hg ha h8
          go_wp2
          go_ret3
          exact ⟨HE.out 9 (by decide) HGG.out.symm, rfl⟩
        · rw [Wi.get_more _ h128 h8] at hg
          have HGG := Lib.hid hg
          clear hg ha
          go_wp2
          go_round
          case rel => exact ⟨i + 1, acc + s[k + i].toNat % 128 * 128 ^ i, _, by go_num, rfl, shl_sum acc i _ HA.out hi, by omega, by omega, pow_step HA.out, HGG.out⟩
          case measure => simp [intOf]; omega
      · by_cases h0 : s[k + i].toNat = 0 ∧ 0 < i
        · rw [Wi.get_form _ h0.1 h0.2] at hg
          have HGG := Lib.hid hg
          obtain ⟨h0, h1⟩ := h0
          clear hg ha
          go_wp2
          go_ret3
          exact ⟨HE.out 7 (by decide) HGG.out.symm, rfl⟩
        · rw [Wi.get_last _ h128 h0] at hg
          have HGG := Lib.hid hg
          clear hg ha
          by_cases hz : s[k + i].toNat = 0
          · have hi0 : ¬ 0 < i := fun h => h0 ⟨hz, h⟩
            have HZ := Lib.hid hz
            have HW := Lib.hid (IntWalk.wrap64_in (acc : Int) ⟨(acc_in HA.out hi).1, by have := (acc_in HA.out hi).2; omega⟩)
            clear h0
            go_wp2
            go_ret3
            exact ⟨HO.out (acc + s[k + i].toNat * 128 ^ i) i _ _ (by rw [HZ.out, Nat.zero_mul, Nat.add_zero]; exact HW.out) (by omega) HGG.out.symm, rfl⟩
          · clear h0
            go_wp2
            go_ret3
            exact ⟨HO.out _ i _ _ (by have e := shl_sum acc i s[k + i].toNat HA.out hi; rw [Nat.mod_eq_of_lt (show s[k + i].toNat < 128 by omega)] at e; exact e) (by omega) HGG.out.symm, rfl⟩
    · obtain he : k + i = s.size := by omega
      rw [he, HN.out] at hg
      have HGG := Lib.hid hg
      clear hg ha
      go_wp2
      go_ret3
      exact ⟨HE.out 8 (by decide) HGG.out.symm, rfl⟩

set_option maxHeartbeats 1000000 in
theorem refGetNum_any (s : ByteArray) (p : Int) (w : World) (hm : s.size ≤ 9223372036854775807) :
    Calls Try.prog 42 #[.string s, .int .i64 p] w fun e w' => e = .returned (getV (Wi.getNum s.data.toList p)) ∧ w = w' := by
  have hlen : s.data.toList.length = s.size := by rw [Array.length_toList]; rfl
  by_cases h : p < 0
  · have HA := Lib.hid (Wi.getNum_arg (l := s.data.toList) (p := p) (Or.inl h))
    generalize s.data.toList = l at *
    go_enter Try.func42, Try.ntmps42
    go_wp2
    go_ret3
    exact ⟨by rw [HA.out]; rfl, rfl⟩
  · by_cases h2 : (s.size : Int) < p
    · have HA := Lib.hid (Wi.getNum_arg (l := s.data.toList) (p := p) (Or.inr (by omega)))
      generalize s.data.toList = l at *
      clear hlen
      go_enter Try.func42, Try.ntmps42
      go_wp2
      go_ret3
      exact ⟨by rw [HA.out]; rfl, rfl⟩
    · obtain ⟨k, rfl⟩ := Int.eq_ofNat_of_zero_le (show 0 ≤ p by omega)
      exact refGetNum_in s k w hm (by omega)

set_option maxHeartbeats 1000000 in
theorem getNum_any (A : Option Addr) (c B : Nat) (p : Int) (l : List UInt8) (w : World) (hr : Rd w B A l.length (bv l)) (hc : l.length ≤ c) (hm : c ≤ 9223372036854775807) :
    Calls Try.prog 89 #[.slice A l.length c, .int .i64 p] w fun e w' => e = .returned (getV (Wi.getNum l p)) ∧ w = w' := by
  by_cases h : p < 0
  · have HA := Lib.hid (Wi.getNum_arg (l := l) (p := p) (Or.inl h))
    go_enter Try.func89, Try.ntmps89
    go_wp2
    go_step3
    go_wp2
    rw [Exit.noGoto_ret]
    go_ret3
    exact ⟨by rw [HA.out]; rfl, rfl⟩
  · by_cases h2 : (l.length : Int) < p
    · have HA := Lib.hid (Wi.getNum_arg (l := l) (p := p) (Or.inr h2))
      go_enter Try.func89, Try.ntmps89
      go_wp2
      go_step3
      go_wp2
      rw [Exit.noGoto_ret]
      go_ret3
      exact ⟨by rw [HA.out]; rfl, rfl⟩
    · obtain ⟨k, rfl⟩ := Int.eq_ofNat_of_zero_le (show 0 ≤ p by omega)
      exact getNum_in A c k B l w hr hc hm (by omega)
end Go.Proofs.Ytjgegggcbjecbaa
