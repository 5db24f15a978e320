/- The program's isNameByte and Name. -/
import Derived.Test.YtjgegggcbjecbaaDoorRName
import Derived.Test.YtjgegggcbjecbaaDoorShelf
namespace Go.Proofs.YtjgegggcbjecbaaDoor
open Go Go.RowKit

theorem mark_ix (x : UInt8) : decide (0 ≤ Lib.indexByte [45, 95, 46, 35, 64, 126] x) = (decide (x = 45) || decide (x = 95) || decide (x = 46) || decide (x = 35) || decide (x = 64) || decide (x = 126)) := by
  by_cases h1 : x = 45
  · subst h1; rfl
  by_cases h2 : x = 95
  · subst h2; rfl
  by_cases h3 : x = 46
  · subst h3; rfl
  by_cases h4 : x = 35
  · subst h4; rfl
  by_cases h5 : x = 64
  · subst h5; rfl
  by_cases h6 : x = 126
  · subst h6; rfl
  have g1 : (45 == x) = false := beq_eq_false_iff_ne.2 (fun h => h1 h.symm)
  have g2 : (95 == x) = false := beq_eq_false_iff_ne.2 (fun h => h2 h.symm)
  have g3 : (46 == x) = false := beq_eq_false_iff_ne.2 (fun h => h3 h.symm)
  have g4 : (35 == x) = false := beq_eq_false_iff_ne.2 (fun h => h4 h.symm)
  have g5 : (64 == x) = false := beq_eq_false_iff_ne.2 (fun h => h5 h.symm)
  have g6 : (126 == x) = false := beq_eq_false_iff_ne.2 (fun h => h6 h.symm)
  simp [Lib.indexByte, g1, g2, g3, g4, g5, g6, h1, h2, h3, h4, h5, h6]
theorem u8_is {x : UInt8} {k : Nat} (hk : k < 256) : x = UInt8.ofNat k ↔ x.toNat = k := by
  constructor
  · rintro rfl; simp [UInt8.toNat_ofNat', Nat.mod_eq_of_lt hk]
  · intro h; apply UInt8.toNat_inj.1; simp [UInt8.toNat_ofNat', Nat.mod_eq_of_lt hk, h]

set_option maxRecDepth 100000 in
set_option maxHeartbeats 4000000 in
theorem isNameByte_any (x : UInt8) (w : World) : Calls Tryd.prog 47 #[.int .u8 (x.toNat : Int)] w fun e w' => e = .returned (.bool (Cm.okC x)) ∧ w = w' := by
  have HIX := Lib.hid (fun w => Tryd.strings_IndexByte ⟨#[45, 95, 46, 35, 64, 126]⟩ (x.toNat : Int) w)
  have hx8 : ((x.toNat : Int).toNat).toUInt8 = x := by simp
  rw [hx8] at HIX
  have hl : (ByteArray.mk #[45, 95, 46, 35, 64, 126]).data.toList = [45, 95, 46, 35, 64, 126] := rfl
  rw [hl] at HIX
  have hm := mark_ix x
  have h256 := UInt8.toNat_lt x
  obtain ⟨v, hv⟩ : ∃ v, v = Lib.indexByte [45, 95, 46, 35, 64, 126] x := ⟨_, rfl⟩
  rw [← hv] at HIX hm
  have e1 := u8_is (x := x) (k := 45) (by decide)
  have e2 := u8_is (x := x) (k := 95) (by decide)
  have e3 := u8_is (x := x) (k := 46) (by decide)
  have e4 := u8_is (x := x) (k := 35) (by decide)
  have e5 := u8_is (x := x) (k := 64) (by decide)
  have e6 := u8_is (x := x) (k := 126) (by decide)
  have HAL : Hid ((65 ≤ x.toNat ∧ x.toNat ≤ 90) ∨ (97 ≤ x.toNat ∧ x.toNat ≤ 122) ∨ (48 ≤ x.toNat ∧ x.toNat ≤ 57) → Cm.okC x = true) := by
    intro h
    unfold Cm.okC
    simp only [Bool.or_eq_true, Bool.and_eq_true, decide_eq_true_eq]
    omega
  have HOK : Hid (¬ ((65 ≤ x.toNat ∧ x.toNat ≤ 90) ∨ (97 ≤ x.toNat ∧ x.toNat ≤ 122) ∨ (48 ≤ x.toNat ∧ x.toNat ≤ 57)) → decide (0 ≤ v) = Cm.okC x) := by
    intro h
    rw [hm]
    unfold Cm.okC
    rw [Bool.eq_iff_iff]
    simp only [Bool.or_eq_true, Bool.and_eq_true, decide_eq_true_eq]
    have e1' : x = 45 ↔ x.toNat = 45 := e1
    have e2' : x = 95 ↔ x.toNat = 95 := e2
    have e3' : x = 46 ↔ x.toNat = 46 := e3
    have e4' : x = 35 ↔ x.toNat = 35 := e4
    have e5' : x = 64 ↔ x.toNat = 64 := e5
    have e6' : x = 126 ↔ x.toNat = 126 := e6
    rw [e1', e2', e3', e4', e5', e6']
    omega
  obtain ⟨k, hk⟩ : ∃ k, k = Cm.okC x := ⟨_, rfl⟩
  rw [← hk] at HAL HOK ⊢
  obtain ⟨n, hn⟩ : ∃ n, n = x.toNat := ⟨_, rfl⟩
  rw [← hn] at HAL HOK HIX h256 ⊢
  clear e1 e2 e3 e4 e5 e6 hm hv hk hn hx8 hl
  by_cases hc0 : n ≤ 47
  · have g65 : decide (65 ≤ n) = false := decide_eq_false (by omega)
    have i65 : ¬ (65 : Int) ≤ (n : Int) := by omega
    have g97 : decide (97 ≤ n) = false := decide_eq_false (by omega)
    have i97 : ¬ (97 : Int) ≤ (n : Int) := by omega
    have g48 : decide (48 ≤ n) = false := decide_eq_false (by omega)
    have i48 : ¬ (48 : Int) ≤ (n : Int) := by omega
    have g90 : decide (n ≤ 90) = true := decide_eq_true (by omega)
    have i90 : (n : Int) ≤ (90 : Int) := by omega
    have g122 : decide (n ≤ 122) = true := decide_eq_true (by omega)
    have i122 : (n : Int) ≤ (122 : Int) := by omega
    have g57 : decide (n ≤ 57) = true := decide_eq_true (by omega)
    have i57 : (n : Int) ≤ (57 : Int) := by omega
    have HN := Lib.hid (HOK.out (by omega))
    clear hc0 HAL HOK h256
    go_enter Tryd.func47, Tryd.ntmps47
    go_wp2_with (go_at_call 68; refine (HIX.out _).mono ?_; rintro e w1 ⟨rfl, rfl⟩)
    go_ret
    exact ⟨by rw [← HN.out]; rfl, rfl⟩
  · by_cases hc1 : n ≤ 57
    · have g65 : decide (65 ≤ n) = false := decide_eq_false (by omega)
      have i65 : ¬ (65 : Int) ≤ (n : Int) := by omega
      have g97 : decide (97 ≤ n) = false := decide_eq_false (by omega)
      have i97 : ¬ (97 : Int) ≤ (n : Int) := by omega
      have g48 : decide (48 ≤ n) = true := decide_eq_true (by omega)
      have i48 : (48 : Int) ≤ (n : Int) := by omega
      have g90 : decide (n ≤ 90) = true := decide_eq_true (by omega)
      have i90 : (n : Int) ≤ (90 : Int) := by omega
      have g122 : decide (n ≤ 122) = true := decide_eq_true (by omega)
      have i122 : (n : Int) ≤ (122 : Int) := by omega
      have g57 : decide (n ≤ 57) = true := decide_eq_true (by omega)
      have i57 : (n : Int) ≤ (57 : Int) := by omega
      have HN := Lib.hid (HAL.out (by omega))
      clear hc0 hc1 HOK HAL HIX h256
      go_enter Tryd.func47, Tryd.ntmps47
      go_wp2_with fail
      go_ret
      exact ⟨by rw [HN.out]; rfl, rfl⟩
    · by_cases hc2 : n ≤ 64
      · have g65 : decide (65 ≤ n) = false := decide_eq_false (by omega)
        have i65 : ¬ (65 : Int) ≤ (n : Int) := by omega
        have g97 : decide (97 ≤ n) = false := decide_eq_false (by omega)
        have i97 : ¬ (97 : Int) ≤ (n : Int) := by omega
        have g48 : decide (48 ≤ n) = true := decide_eq_true (by omega)
        have i48 : (48 : Int) ≤ (n : Int) := by omega
        have g90 : decide (n ≤ 90) = true := decide_eq_true (by omega)
        have i90 : (n : Int) ≤ (90 : Int) := by omega
        have g122 : decide (n ≤ 122) = true := decide_eq_true (by omega)
        have i122 : (n : Int) ≤ (122 : Int) := by omega
        have g57 : decide (n ≤ 57) = false := decide_eq_false (by omega)
        have i57 : ¬ (n : Int) ≤ (57 : Int) := by omega
        have HN := Lib.hid (HOK.out (by omega))
        clear hc0 hc1 hc2 HAL HOK h256
        go_enter Tryd.func47, Tryd.ntmps47
        go_wp2_with (go_at_call 68; refine (HIX.out _).mono ?_; rintro e w1 ⟨rfl, rfl⟩)
        go_ret
        exact ⟨by rw [← HN.out]; rfl, rfl⟩
      · by_cases hc3 : n ≤ 90
        · have g65 : decide (65 ≤ n) = true := decide_eq_true (by omega)
          have i65 : (65 : Int) ≤ (n : Int) := by omega
          have g97 : decide (97 ≤ n) = false := decide_eq_false (by omega)
          have i97 : ¬ (97 : Int) ≤ (n : Int) := by omega
          have g48 : decide (48 ≤ n) = true := decide_eq_true (by omega)
          have i48 : (48 : Int) ≤ (n : Int) := by omega
          have g90 : decide (n ≤ 90) = true := decide_eq_true (by omega)
          have i90 : (n : Int) ≤ (90 : Int) := by omega
          have g122 : decide (n ≤ 122) = true := decide_eq_true (by omega)
          have i122 : (n : Int) ≤ (122 : Int) := by omega
          have g57 : decide (n ≤ 57) = false := decide_eq_false (by omega)
          have i57 : ¬ (n : Int) ≤ (57 : Int) := by omega
          have HN := Lib.hid (HAL.out (by omega))
          clear hc0 hc1 hc2 hc3 HOK HAL HIX h256
          go_enter Tryd.func47, Tryd.ntmps47
          go_wp2_with fail
          go_ret
          exact ⟨by rw [HN.out]; rfl, rfl⟩
        · by_cases hc4 : n ≤ 96
          · have g65 : decide (65 ≤ n) = true := decide_eq_true (by omega)
            have i65 : (65 : Int) ≤ (n : Int) := by omega
            have g97 : decide (97 ≤ n) = false := decide_eq_false (by omega)
            have i97 : ¬ (97 : Int) ≤ (n : Int) := by omega
            have g48 : decide (48 ≤ n) = true := decide_eq_true (by omega)
            have i48 : (48 : Int) ≤ (n : Int) := by omega
            have g90 : decide (n ≤ 90) = false := decide_eq_false (by omega)
            have i90 : ¬ (n : Int) ≤ (90 : Int) := by omega
            have g122 : decide (n ≤ 122) = true := decide_eq_true (by omega)
            have i122 : (n : Int) ≤ (122 : Int) := by omega
            have g57 : decide (n ≤ 57) = false := decide_eq_false (by omega)
            have i57 : ¬ (n : Int) ≤ (57 : Int) := by omega
            have HN := Lib.hid (HOK.out (by omega))
            clear hc0 hc1 hc2 hc3 hc4 HAL HOK h256
            go_enter Tryd.func47, Tryd.ntmps47
            go_wp2_with (go_at_call 68; refine (HIX.out _).mono ?_; rintro e w1 ⟨rfl, rfl⟩)
            go_ret
            exact ⟨by rw [← HN.out]; rfl, rfl⟩
          · by_cases hc5 : n ≤ 122
            · have g65 : decide (65 ≤ n) = true := decide_eq_true (by omega)
              have i65 : (65 : Int) ≤ (n : Int) := by omega
              have g97 : decide (97 ≤ n) = true := decide_eq_true (by omega)
              have i97 : (97 : Int) ≤ (n : Int) := by omega
              have g48 : decide (48 ≤ n) = true := decide_eq_true (by omega)
              have i48 : (48 : Int) ≤ (n : Int) := by omega
              have g90 : decide (n ≤ 90) = false := decide_eq_false (by omega)
              have i90 : ¬ (n : Int) ≤ (90 : Int) := by omega
              have g122 : decide (n ≤ 122) = true := decide_eq_true (by omega)
              have i122 : (n : Int) ≤ (122 : Int) := by omega
              have g57 : decide (n ≤ 57) = false := decide_eq_false (by omega)
              have i57 : ¬ (n : Int) ≤ (57 : Int) := by omega
              have HN := Lib.hid (HAL.out (by omega))
              clear hc0 hc1 hc2 hc3 hc4 hc5 HOK HAL HIX h256
              go_enter Tryd.func47, Tryd.ntmps47
              go_wp2_with fail
              go_ret
              exact ⟨by rw [HN.out]; rfl, rfl⟩
            · have g65 : decide (65 ≤ n) = true := decide_eq_true (by omega)
              have i65 : (65 : Int) ≤ (n : Int) := by omega
              have g97 : decide (97 ≤ n) = true := decide_eq_true (by omega)
              have i97 : (97 : Int) ≤ (n : Int) := by omega
              have g48 : decide (48 ≤ n) = true := decide_eq_true (by omega)
              have i48 : (48 : Int) ≤ (n : Int) := by omega
              have g90 : decide (n ≤ 90) = false := decide_eq_false (by omega)
              have i90 : ¬ (n : Int) ≤ (90 : Int) := by omega
              have g122 : decide (n ≤ 122) = false := decide_eq_false (by omega)
              have i122 : ¬ (n : Int) ≤ (122 : Int) := by omega
              have g57 : decide (n ≤ 57) = false := decide_eq_false (by omega)
              have i57 : ¬ (n : Int) ≤ (57 : Int) := by omega
              have HN := Lib.hid (HOK.out (by omega))
              clear hc0 hc1 hc2 hc3 hc4 hc5 HAL HOK h256
              go_enter Tryd.func47, Tryd.ntmps47
              go_wp2_with (go_at_call 68; refine (HIX.out _).mono ?_; rintro e w1 ⟨rfl, rfl⟩)
              go_ret
              exact ⟨by rw [← HN.out]; rfl, rfl⟩

set_option maxRecDepth 100000 in
set_option maxHeartbeats 4000000 in
theorem pname_any (s : List UInt8) (w : World) (hs : s.length ≤ 4611686018427387904) :
    Calls Tryd.prog 25 #[.string (sB s)] w fun e w' => e = .returned (.bool (Cm.nameB s)) ∧ w = w' := by
  have hsz := sB_size s
  by_cases h0 : s.length = 0
  · have HN := Lib.hid (show Cm.nameB s = false by unfold Cm.nameB; rw [h0]; simp)
    have b0 : ((s.length : Int) == 0) = true := by rw [h0]; rfl
    clear h0
    go_enter Tryd.func25, Tryd.ntmps25
    go_wp2_with fail
    go_ret
    exact ⟨by rw [HN.out]; rfl, rfl⟩
  have b0 : ((s.length : Int) == 0) = false := by rw [beq_eq_false_iff_ne]; omega
  by_cases h24 : 24 < s.length
  · have HN := Lib.hid (show Cm.nameB s = false by unfold Cm.nameB; rw [decide_eq_false (show ¬ s.length ≤ 24 by omega)]; simp)
    have b1 : decide ((24 : Int) < (s.length : Int)) = true := decide_eq_true (by omega)
    have b2 : decide (24 < s.length) = true := decide_eq_true h24
    clear h0 h24
    go_enter Tryd.func25, Tryd.ntmps25
    go_wp2_with fail
    go_ret
    exact ⟨by rw [HN.out]; rfl, rfl⟩
  have b1 : decide ((24 : Int) < (s.length : Int)) = false := decide_eq_false (by omega)
  have b2 : decide (24 < s.length) = false := decide_eq_false h24
  have HL := Lib.hid (⟨Nat.pos_of_ne_zero h0, Nat.le_of_not_lt h24⟩ : 0 < s.length ∧ s.length ≤ 24)
  clear h0 h24
  go_enter Tryd.func25, Tryd.ntmps25
  go_wp2_with fail
  go_loopw [14] (fun iv wr => ∃ i : Nat, i ≤ s.length ∧ iv = .int .i64 (i : Int) ∧ Hid (∀ x ∈ s.take i, Cm.okC x = true) ∧ w = wr) (fun iv _ => s.length - (intOf iv).toNat)
  case atStart => exact ⟨0, Nat.zero_le _, rfl, (fun x hx => by simp at hx), rfl⟩
  case round =>
    obtain ⟨i, hi, rfl, HA, rfl⟩ := hrel
    by_cases hlt : i < s.length
    · have hltI : (i : Int) < (s.length : Int) := by omega
      have hix := fun w => run_str_index (P := Tryd.prog) Tryd.underlying9 s i hlt w
      have HNO := Lib.hid (name_no hlt)
      have HMO := Lib.hid (name_more hlt HA.out)
      have HB := Lib.hid (fun w => isNameByte_any s[i] w)
      obtain ⟨x, hx⟩ : ∃ x, x = s[i] := ⟨_, rfl⟩
      rw [← hx] at hix HNO HMO HB
      clear hx
      cases hok : Cm.okC x with
      | true =>
        rw [hok] at HB
        have HM := Lib.hid (HMO.out hok)
        clear hok HMO HNO
        go_wp2_with (go_at_call 47; refine (HB.out _).mono ?_; rintro e w1 ⟨rfl, rfl⟩)
        go_roundw
        case rel => exact ⟨i + 1, by omega, by go_num, HM, trivial⟩
        case measure => simp [intOf] <;> omega
      | false =>
        rw [hok] at HB
        have HN := Lib.hid (HNO.out hok)
        clear hok HMO HNO
        go_wp2_with (go_at_call 47; refine (HB.out _).mono ?_; rintro e w1 ⟨rfl, rfl⟩)
        go_ret
        exact ⟨by rw [HN.out]; rfl, rfl⟩
    · have hltI : ¬ (i : Int) < (s.length : Int) := by omega
      have HY := Lib.hid (show Cm.nameB s = true by
        rw [name_yes (s := s) (by have := HA.out; rwa [show i = s.length by omega, List.take_length] at this), decide_eq_true HL.out.1, decide_eq_true HL.out.2]; rfl)
      clear hi hlt HA
      go_wp2_with fail
      go_ret
      exact ⟨by rw [HY.out]; rfl, rfl⟩
end Go.Proofs.YtjgegggcbjecbaaDoor
