/- The contract of GetNum: the number that stands at a place. -/
import Derived.Test.YtjgegggcbjecbaaDoorNums2
import Derived.WalkMore
import Derived.ScopeJumps
namespace Go.Proofs.YtjgegggcbjecbaaDoor
open Go Go.RowKit

/-- What GetNum answers. -/
def getV (r : Nat × Nat × Nat) : Value := .tuple #[.int .i64 (r.1 : Int), .int .i64 (r.2.1 : Int), .int .i64 (r.2.2 : Int)]

theorem shl_sum (acc i x : Nat) (ha : acc < 128 ^ i) (hi : i ≤ 8) : wrap64 ((acc : Int) + wrap64 ((x : Int) % 128 * 2 ^ (7 * i))) = ((acc + x % 128 * 128 ^ i : Nat) : Int) := by
  have e1 : (2 : Int) ^ (7 * i) = ((128 ^ i : Nat) : Int) := by
    rw [Int.pow_mul]
    push_cast
    rfl
  have h8 : 128 ^ i ≤ 128 ^ 8 := Nat.pow_le_pow_right (by decide) hi
  have e3 : (128 : Nat) ^ 8 = 72057594037927936 := by decide
  rw [e3] at h8
  rw [e1]
  generalize 128 ^ i = p at *
  have h2 : x % 128 * p ≤ 127 * p := Nat.mul_le_mul_right _ (by omega)
  have e2 : (x : Int) % 128 * (p : Int) = ((x % 128 * p : Nat) : Int) := by push_cast; rfl
  rw [e2]
  generalize x % 128 * p = y at *
  rw [IntWalk.wrap64_in (y : Int) ⟨by omega, by omega⟩, IntWalk.wrap64_in _ ⟨by omega, by omega⟩]
  omega

theorem acc_in {acc i : Nat} (ha : acc < 128 ^ i) (hi : i ≤ 8) : -9223372036854775808 ≤ (acc : Int) ∧ (acc : Int) < 9223372036854775808 := by
  have h8 : 128 ^ i ≤ 128 ^ 8 := Nat.pow_le_pow_right (by decide) hi
  have e3 : (128 : Nat) ^ 8 = 72057594037927936 := by decide
  omega

theorem pow_step {acc i x : Nat} (ha : acc < 128 ^ i) : acc + x % 128 * 128 ^ i < 128 ^ (i + 1) := by
  have : x % 128 * 128 ^ i ≤ 127 * 128 ^ i := Nat.mul_le_mul_right _ (by omega)
  rw [Nat.pow_succ]
  omega

theorem getV_in {l : List UInt8} {k : Nat} (hk : k ≤ l.length) {G : Nat × Nat × Nat} (hG : G = Wi.get 0 0 (l.drop k)) : Wi.getNum l k = (G.1, if G.2.2 = 0 then k + G.2.1 else 0, G.2.2) := by
  rw [Wi.getNum_in hk, ← hG]

set_option maxRecDepth 100000 in
set_option maxHeartbeats 4000000 in
theorem getNum_in (A : Option Addr) (c k B : Nat) (l : List UInt8) (w : World) (hr : Rd w B A l.length (bv l)) (hc : l.length ≤ c) (hm : c ≤ 9223372036854775807) (hk : k ≤ l.length) :
    Calls Tryd.prog 80 #[.slice A l.length c, .int .i64 (k : Int)] w fun e w' => e = .returned (getV (Wi.getNum l k)) ∧ w = w' := by
  obtain ⟨G, hG⟩ : ∃ G, G = Wi.get 0 0 (l.drop k) := ⟨_, rfl⟩
  have HV := Lib.hid (getV_in hk hG)
  have HG := Lib.hid hG
  clear hG
  have hend : ∀ (e : Nat), e ≠ 0 → G = (0, 0, e) → Ending.returned (.tuple #[.int .i64 0, .int .i64 0, .int .i64 (e : Int)]) = .returned (getV (Wi.getNum l k)) := fun e he h => by
    rw [HV.out, h]; simp [getV, he]
  have hok : ∀ (n i : Nat) (a b : Int), a = n → b = (k : Int) + i + 1 → G = (n, i + 1, 0) → Ending.returned (.tuple #[.int .i64 a, .int .i64 b, .int .i64 0]) = .returned (getV (Wi.getNum l k)) := fun n i a b ha hb h => by
    rw [HV.out, h, ha, hb]; simp [getV]; omega
  have HE := Lib.hid hend
  have HO := Lib.hid hok
  clear hend hok
  go_enter Tryd.func80, Tryd.ntmps80
  go_wp2
  refine wp_scope_jumps 0 (fun a' w' => ∃ (i acc : Nat) (a p s : Int) (u8 u9 u10 u11 u12 u13 u14 u15 u16 u17 u18 u19 u20 u21 u22 u23 u24 u25 u26 u27 u28 u29 u30 u31 u32 u33 u34 u35 u36 u37 u38 u39 u40 u41 u42 u43 u44 u45 u46 u47 u48 : Value), a' = { tmps := #[.slice A l.length c, .int .i64 (k : Int), undef, undef, .int .i64 a, .int .i64 p, .int .i64 0, .int .i64 s, u8, u9, u10, u11, u12, u13, u14, u15, u16, u17, u18, u19, u20, u21, u22, u23, u24, u25, u26, u27, u28, u29, u30, u31, u32, u33, u34, u35, u36, u37, u38, u39, u40, u41, u42, u43, u44, u45, u46, u47, u48], defers := [] } ∧ a = acc ∧ p = (k : Int) + i ∧ s = 7 * (i : Int) ∧ i ≤ 8 ∧ k + i ≤ l.length ∧ acc < 128 ^ i ∧ Wi.get i acc (l.drop (k + i)) = G ∧ w = w') (fun a' _ => 64 - (intOf (a'.tmps.getD 7 undef)).toNat) rfl ?_ ?_
  · go_wp2
    by_cases hlt : k < l.length
    · obtain ⟨ad, x, rfl, hd, hcell⟩ := hr.byteAt hlt
      have hx : (x.toNat : Int) < 256 := by have := x.toNat_lt; omega
      have HD := Lib.hid hd
      clear hd
      by_cases h128 : 128 ≤ x.toNat
      · have HL := Lib.hid (Wi.get_more (i := 0) (acc := 0) (l.drop (k + 1)) h128 (by omega))
        go_step3
        go_wp2
        go_step3
        refine ⟨rfl, 1, x.toNat % 128, _, _, _, _, _, _, _, _, _, _, _, _, _, _, _, _, _, _, _, _, _, _, _, _, _, _, _, _, _, _, _, _, _, _, _, _, _, _, _, _, _, _, _, _, rfl, by omega, by omega, by omega, by omega, by omega, by omega, ?_, rfl⟩
        rw [HG.out, HD.out, HL.out]; simp
      · have HL := Lib.hid (Wi.get_last (i := 0) (acc := 0) (l.drop (k + 1)) h128 (by omega))
        go_step3
        go_wp2
        all_goals
          simp only [Exit.jump]
          go_ret3
          exact ⟨HO.out x.toNat 0 _ _ (by omega) (by omega) (by rw [HG.out, HD.out, HL.out]; simp), rfl⟩
    · obtain rfl : k = l.length := by omega
      go_step3
      go_wp2
      simp only [Exit.jump]
      go_ret3
      exact ⟨HE.out 8 (by decide) (by rw [HG.out, List.drop_length]; rfl), rfl⟩
  · rintro a' w' ⟨i, acc, _, _, _, u8, u9, u10, u11, u12, u13, u14, u15, u16, u17, u18, u19, u20, u21, u22, u23, u24, u25, u26, u27, u28, u29, u30, u31, u32, u33, u34, u35, u36, u37, u38, u39, u40, u41, u42, u43, u44, u45, u46, u47, u48, rfl, rfl, rfl, rfl, hi, hki, ha, hg, rfl⟩
    by_cases hlt : k + i < l.length
    · obtain ⟨ad, x, rfl, hd, hcell⟩ := hr.byteAt hlt
      have hx : (x.toNat : Int) < 256 := by have := x.toNat_lt; omega
      rw [hd] at hg
      have HA := Lib.hid ha
      by_cases h128 : 128 ≤ x.toNat
      · by_cases h8 : i = 8
        · rw [Wi.get_range _ h128 h8] at hg
          have HGG := Lib.hid hg
          have h8' : 8 ≤ i := by omega
          clear hg hd ha h8
          go_wp2
          simp only [Exit.jump]
          go_ret3
          exact ⟨HE.out 9 (by decide) HGG.out.symm, rfl⟩
        · rw [Wi.get_more _ h128 h8] at hg
          have HGG := Lib.hid hg
          clear hg hd ha
          go_wp2
          go_step3
          refine ⟨rfl, ⟨i + 1, acc + x.toNat % 128 * 128 ^ i, _, _, _, _, _, _, _, _, _, _, _, _, _, _, _, _, _, _, _, _, _, _, _, _, _, _, _, _, _, _, _, _, _, _, _, _, _, _, _, _, _, _, _, _, rfl, shl_sum acc i x.toNat HA.out hi, by omega, by omega, by omega, by omega, pow_step HA.out, HGG.out, rfl⟩, ?_⟩
          simp [intOf]; omega
      · by_cases h0 : x.toNat = 0 ∧ 0 < i
        · rw [Wi.get_form _ h0.1 h0.2] at hg
          have HGG := Lib.hid hg
          obtain ⟨h0, h1⟩ := h0
          clear hg hd ha
          go_wp2
          simp only [Exit.jump]
          go_ret3
          exact ⟨HE.out 7 (by decide) HGG.out.symm, rfl⟩
        · rw [Wi.get_last _ h128 h0] at hg
          have HGG := Lib.hid hg
          clear hg hd ha
          by_cases hz : x.toNat = 0
          · have hi0 : ¬ 0 < i := fun h => h0 ⟨hz, h⟩
            have HZ := Lib.hid hz
            have HW := Lib.hid (IntWalk.wrap64_in (acc : Int) ⟨(acc_in HA.out hi).1, by have := (acc_in HA.out hi).2; omega⟩)
            clear h0
            go_wp2
            simp only [Exit.jump]
            go_ret3
            exact ⟨HO.out (acc + x.toNat * 128 ^ i) i _ _ (by rw [HZ.out, Nat.zero_mul, Nat.add_zero]; exact HW.out) (by omega) HGG.out.symm, rfl⟩
          · clear h0
            go_wp2
            simp only [Exit.jump]
            go_ret3
            exact ⟨HO.out _ i _ _ (by have e := shl_sum acc i x.toNat HA.out hi; rw [Nat.mod_eq_of_lt (show x.toNat < 128 by omega)] at e; exact e) (by omega) HGG.out.symm, rfl⟩
    · obtain he : k + i = l.length := by omega
      rw [he, List.drop_length] at hg
      have HGG := Lib.hid hg
      clear hg ha
      go_wp2
      simp only [Exit.jump]
      go_ret3
      exact ⟨HE.out 8 (by decide) HGG.out.symm, rfl⟩
end Go.Proofs.YtjgegggcbjecbaaDoor
