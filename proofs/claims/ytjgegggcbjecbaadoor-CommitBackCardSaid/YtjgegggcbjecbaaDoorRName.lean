/- The document's Name. -/
import Derived.Test.YtjgegggcbjecbaaDoorDg
import Derived.Test.YtjgegggcbjecbaaDoorMaths
namespace Go.Proofs.YtjgegggcbjecbaaDoor
open Go Go.RowKit

theorem name_no {s : List UInt8} {i : Nat} (hi : i < s.length) (h : Cm.okC s[i] = false) : Cm.nameB s = false := by
  unfold Cm.nameB
  rw [List.all_eq_false.2 ⟨s[i], List.getElem_mem hi, by rw [h]; decide⟩]
  rfl
theorem name_yes {s : List UInt8} (h : ∀ x ∈ s, Cm.okC x = true) : Cm.nameB s = (decide (0 < s.length) && decide (s.length ≤ 24)) := by
  unfold Cm.nameB
  rw [List.all_eq_true.2 h, Bool.true_and]
theorem name_more {s : List UInt8} {i : Nat} (hi : i < s.length) (h : ∀ x ∈ s.take i, Cm.okC x = true) (hx : Cm.okC s[i] = true) : ∀ x ∈ s.take (i + 1), Cm.okC x = true := by
  intro x hm
  rw [List.take_succ_eq_append_getElem hi, List.mem_append, List.mem_singleton] at hm
  rcases hm with hm | rfl
  · exact h x hm
  · exact hx

set_option maxRecDepth 100000 in
set_option maxHeartbeats 8000000 in
theorem rname_any (s : List UInt8) (w : World) (hs : s.length ≤ 4611686018427387904) :
    Calls Tryd.prog 41 #[.string (sB s)] w fun e w' => e = .returned (.bool (Cm.nameB s)) ∧ w = w' := by
  have hsz := sB_size s
  go_enter Tryd.func41, Tryd.ntmps41
  go_wp2_with fail
  go_loopw [3] (fun iv wr => ∃ i : Nat, i ≤ s.length ∧ iv = .int .i64 (i : Int) ∧ Hid (∀ x ∈ s.take i, Cm.okC x = true) ∧ w = wr) (fun iv _ => s.length - (intOf iv).toNat)
  case atStart => exact ⟨0, Nat.zero_le _, rfl, (fun x hx => by simp at hx), rfl⟩
  case round =>
    obtain ⟨i, hi, rfl, HA, rfl⟩ := hrel
    by_cases hlt : i < s.length
    · have hltI : (i : Int) < (s.length : Int) := by omega
      have hix := fun w => run_str_index (P := Tryd.prog) Tryd.underlying9 s i hlt w
      have HNO := Lib.hid (name_no hlt)
      have HMO := Lib.hid (name_more hlt HA.out)
      have h256 := UInt8.toNat_lt s[i]
      obtain ⟨x, hx⟩ : ∃ x, x = s[i] := ⟨_, rfl⟩
      rw [← hx] at hix HNO HMO h256
      clear hx
      have HOK : Hid (Cm.okC x = true ↔ (((65 ≤ x.toNat ∧ x.toNat ≤ 90) ∨ (97 ≤ x.toNat ∧ x.toNat ≤ 122) ∨ (48 ≤ x.toNat ∧ x.toNat ≤ 57)) ∨ x.toNat = 45 ∨ x.toNat = 95 ∨ x.toNat = 46 ∨ x.toNat = 35 ∨ x.toNat = 64 ∨ x.toNat = 126)) := Lib.hid (by
        unfold Cm.okC
        simp only [Bool.or_eq_true, Bool.and_eq_true, decide_eq_true_eq]
        omega)
      obtain ⟨n, hn⟩ : ∃ n, n = x.toNat := ⟨_, rfl⟩
      rw [← hn] at HOK hix h256
      clear hn
      by_cases hc0 : n ≤ 34
      · have g65 : decide (65 ≤ n) = false := decide_eq_false (by omega)
        have i65 : ¬ (65 : Int) ≤ (n : Int) := by omega
        have g97 : decide (97 ≤ n) = false := decide_eq_false (by omega)
        have i97 : ¬ (97 : Int) ≤ (n : Int) := by omega
        have g48 : decide (48 ≤ n) = false := decide_eq_false (by omega)
        have i48 : ¬ (48 : Int) ≤ (n : Int) := by omega
        have g90 : decide (n ≤ 90) = true := decide_eq_true (by omega)
        have i90 : (n : Int) ≤ (90 : Int) := by omega
        have g122 : decide (n ≤ 122) = true := decide_eq_true (by omega)
        have i122 : (n : Int) ≤ (122 : Int) := by omega
        have g57 : decide (n ≤ 57) = true := decide_eq_true (by omega)
        have i57 : (n : Int) ≤ (57 : Int) := by omega
        have e45 : ((n : Int) != 45) = true := by rw [bne_iff_ne]; omega
        have f45 : ¬ n = 45 := by omega
        have e95 : ((n : Int) != 95) = true := by rw [bne_iff_ne]; omega
        have f95 : ¬ n = 95 := by omega
        have e46 : ((n : Int) != 46) = true := by rw [bne_iff_ne]; omega
        have f46 : ¬ n = 46 := by omega
        have e35 : ((n : Int) != 35) = true := by rw [bne_iff_ne]; omega
        have f35 : ¬ n = 35 := by omega
        have e64 : ((n : Int) != 64) = true := by rw [bne_iff_ne]; omega
        have f64 : ¬ n = 64 := by omega
        have e126 : ((n : Int) != 126) = true := by rw [bne_iff_ne]; omega
        have f126 : ¬ n = 126 := by omega
        have HN := Lib.hid (HNO.out (by rw [Bool.eq_false_iff]; intro h; have := HOK.out.1 h; omega))
        clear HOK HMO HNO h256 hc0
        go_wp2_with fail
        go_ret
        exact ⟨by rw [HN.out]; rfl, rfl⟩
      · by_cases hc1 : n ≤ 35
        · obtain rfl : n = 35 := by omega
          have HN := Lib.hid (HMO.out (HOK.out.2 (by omega)))
          clear HOK HMO HNO h256 hc0 hc1
          go_wp2_with fail
          go_roundw
          case rel => exact ⟨i + 1, by omega, by go_num, HN, trivial⟩
          case measure => simp [intOf] <;> omega
        · by_cases hc2 : n ≤ 44
          · have g65 : decide (65 ≤ n) = false := decide_eq_false (by omega)
            have i65 : ¬ (65 : Int) ≤ (n : Int) := by omega
            have g97 : decide (97 ≤ n) = false := decide_eq_false (by omega)
            have i97 : ¬ (97 : Int) ≤ (n : Int) := by omega
            have g48 : decide (48 ≤ n) = false := decide_eq_false (by omega)
            have i48 : ¬ (48 : Int) ≤ (n : Int) := by omega
            have g90 : decide (n ≤ 90) = true := decide_eq_true (by omega)
            have i90 : (n : Int) ≤ (90 : Int) := by omega
            have g122 : decide (n ≤ 122) = true := decide_eq_true (by omega)
            have i122 : (n : Int) ≤ (122 : Int) := by omega
            have g57 : decide (n ≤ 57) = true := decide_eq_true (by omega)
            have i57 : (n : Int) ≤ (57 : Int) := by omega
            have e45 : ((n : Int) != 45) = true := by rw [bne_iff_ne]; omega
            have f45 : ¬ n = 45 := by omega
            have e95 : ((n : Int) != 95) = true := by rw [bne_iff_ne]; omega
            have f95 : ¬ n = 95 := by omega
            have e46 : ((n : Int) != 46) = true := by rw [bne_iff_ne]; omega
            have f46 : ¬ n = 46 := by omega
            have e35 : ((n : Int) != 35) = true := by rw [bne_iff_ne]; omega
            have f35 : ¬ n = 35 := by omega
            have e64 : ((n : Int) != 64) = true := by rw [bne_iff_ne]; omega
            have f64 : ¬ n = 64 := by omega
            have e126 : ((n : Int) != 126) = true := by rw [bne_iff_ne]; omega
            have f126 : ¬ n = 126 := by omega
            have HN := Lib.hid (HNO.out (by rw [Bool.eq_false_iff]; intro h; have := HOK.out.1 h; omega))
            clear HOK HMO HNO h256 hc0 hc1 hc2
            go_wp2_with fail
            go_ret
            exact ⟨by rw [HN.out]; rfl, rfl⟩
          · by_cases hc3 : n ≤ 45
            · obtain rfl : n = 45 := by omega
              have HN := Lib.hid (HMO.out (HOK.out.2 (by omega)))
              clear HOK HMO HNO h256 hc0 hc1 hc2 hc3
              go_wp2_with fail
              go_roundw
              case rel => exact ⟨i + 1, by omega, by go_num, HN, trivial⟩
              case measure => simp [intOf] <;> omega
            · by_cases hc4 : n ≤ 46
              · obtain rfl : n = 46 := by omega
                have HN := Lib.hid (HMO.out (HOK.out.2 (by omega)))
                clear HOK HMO HNO h256 hc0 hc1 hc2 hc3 hc4
                go_wp2_with fail
                go_roundw
                case rel => exact ⟨i + 1, by omega, by go_num, HN, trivial⟩
                case measure => simp [intOf] <;> omega
              · by_cases hc5 : n ≤ 47
                · obtain rfl : n = 47 := by omega
                  have HN := Lib.hid (HNO.out (by rw [Bool.eq_false_iff]; intro h; have := HOK.out.1 h; omega))
                  clear HOK HMO HNO h256 hc0 hc1 hc2 hc3 hc4 hc5
                  go_wp2_with fail
                  go_ret
                  exact ⟨by rw [HN.out]; rfl, rfl⟩
                · by_cases hc6 : n ≤ 57
                  · have g65 : decide (65 ≤ n) = false := decide_eq_false (by omega)
                    have i65 : ¬ (65 : Int) ≤ (n : Int) := by omega
                    have g97 : decide (97 ≤ n) = false := decide_eq_false (by omega)
                    have i97 : ¬ (97 : Int) ≤ (n : Int) := by omega
                    have g48 : decide (48 ≤ n) = true := decide_eq_true (by omega)
                    have i48 : (48 : Int) ≤ (n : Int) := by omega
                    have g90 : decide (n ≤ 90) = true := decide_eq_true (by omega)
                    have i90 : (n : Int) ≤ (90 : Int) := by omega
                    have g122 : decide (n ≤ 122) = true := decide_eq_true (by omega)
                    have i122 : (n : Int) ≤ (122 : Int) := by omega
                    have g57 : decide (n ≤ 57) = true := decide_eq_true (by omega)
                    have i57 : (n : Int) ≤ (57 : Int) := by omega
                    have e45 : ((n : Int) != 45) = true := by rw [bne_iff_ne]; omega
                    have f45 : ¬ n = 45 := by omega
                    have e95 : ((n : Int) != 95) = true := by rw [bne_iff_ne]; omega
                    have f95 : ¬ n = 95 := by omega
                    have e46 : ((n : Int) != 46) = true := by rw [bne_iff_ne]; omega
                    have f46 : ¬ n = 46 := by omega
                    have e35 : ((n : Int) != 35) = true := by rw [bne_iff_ne]; omega
                    have f35 : ¬ n = 35 := by omega
                    have e64 : ((n : Int) != 64) = true := by rw [bne_iff_ne]; omega
                    have f64 : ¬ n = 64 := by omega
                    have e126 : ((n : Int) != 126) = true := by rw [bne_iff_ne]; omega
                    have f126 : ¬ n = 126 := by omega
                    have HN := Lib.hid (HMO.out (HOK.out.2 (by omega)))
                    clear HOK HMO HNO h256 hc0 hc1 hc2 hc3 hc4 hc5 hc6
                    go_wp2_with fail
                    go_roundw
                    case rel => exact ⟨i + 1, by omega, by go_num, HN, trivial⟩
                    case measure => simp [intOf] <;> omega
                  · by_cases hc7 : n ≤ 63
                    · have g65 : decide (65 ≤ n) = false := decide_eq_false (by omega)
                      have i65 : ¬ (65 : Int) ≤ (n : Int) := by omega
                      have g97 : decide (97 ≤ n) = false := decide_eq_false (by omega)
                      have i97 : ¬ (97 : Int) ≤ (n : Int) := by omega
                      have g48 : decide (48 ≤ n) = true := decide_eq_true (by omega)
                      have i48 : (48 : Int) ≤ (n : Int) := by omega
                      have g90 : decide (n ≤ 90) = true := decide_eq_true (by omega)
                      have i90 : (n : Int) ≤ (90 : Int) := by omega
                      have g122 : decide (n ≤ 122) = true := decide_eq_true (by omega)
                      have i122 : (n : Int) ≤ (122 : Int) := by omega
                      have g57 : decide (n ≤ 57) = false := decide_eq_false (by omega)
                      have i57 : ¬ (n : Int) ≤ (57 : Int) := by omega
                      have e45 : ((n : Int) != 45) = true := by rw [bne_iff_ne]; omega
                      have f45 : ¬ n = 45 := by omega
                      have e95 : ((n : Int) != 95) = true := by rw [bne_iff_ne]; omega
                      have f95 : ¬ n = 95 := by omega
                      have e46 : ((n : Int) != 46) = true := by rw [bne_iff_ne]; omega
                      have f46 : ¬ n = 46 := by omega
                      have e35 : ((n : Int) != 35) = true := by rw [bne_iff_ne]; omega
                      have f35 : ¬ n = 35 := by omega
                      have e64 : ((n : Int) != 64) = true := by rw [bne_iff_ne]; omega
                      have f64 : ¬ n = 64 := by omega
                      have e126 : ((n : Int) != 126) = true := by rw [bne_iff_ne]; omega
                      have f126 : ¬ n = 126 := by omega
                      have HN := Lib.hid (HNO.out (by rw [Bool.eq_false_iff]; intro h; have := HOK.out.1 h; omega))
                      clear HOK HMO HNO h256 hc0 hc1 hc2 hc3 hc4 hc5 hc6 hc7
                      go_wp2_with fail
                      go_ret
                      exact ⟨by rw [HN.out]; rfl, rfl⟩
                    · by_cases hc8 : n ≤ 64
                      · obtain rfl : n = 64 := by omega
                        have HN := Lib.hid (HMO.out (HOK.out.2 (by omega)))
                        clear HOK HMO HNO h256 hc0 hc1 hc2 hc3 hc4 hc5 hc6 hc7 hc8
                        go_wp2_with fail
                        go_roundw
                        case rel => exact ⟨i + 1, by omega, by go_num, HN, trivial⟩
                        case measure => simp [intOf] <;> omega
                      · by_cases hc9 : n ≤ 90
                        · have g65 : decide (65 ≤ n) = true := decide_eq_true (by omega)
                          have i65 : (65 : Int) ≤ (n : Int) := by omega
                          have g97 : decide (97 ≤ n) = false := decide_eq_false (by omega)
                          have i97 : ¬ (97 : Int) ≤ (n : Int) := by omega
                          have g48 : decide (48 ≤ n) = true := decide_eq_true (by omega)
                          have i48 : (48 : Int) ≤ (n : Int) := by omega
                          have g90 : decide (n ≤ 90) = true := decide_eq_true (by omega)
                          have i90 : (n : Int) ≤ (90 : Int) := by omega
                          have g122 : decide (n ≤ 122) = true := decide_eq_true (by omega)
                          have i122 : (n : Int) ≤ (122 : Int) := by omega
                          have g57 : decide (n ≤ 57) = false := decide_eq_false (by omega)
                          have i57 : ¬ (n : Int) ≤ (57 : Int) := by omega
                          have e45 : ((n : Int) != 45) = true := by rw [bne_iff_ne]; omega
                          have f45 : ¬ n = 45 := by omega
                          have e95 : ((n : Int) != 95) = true := by rw [bne_iff_ne]; omega
                          have f95 : ¬ n = 95 := by omega
                          have e46 : ((n : Int) != 46) = true := by rw [bne_iff_ne]; omega
                          have f46 : ¬ n = 46 := by omega
                          have e35 : ((n : Int) != 35) = true := by rw [bne_iff_ne]; omega
                          have f35 : ¬ n = 35 := by omega
                          have e64 : ((n : Int) != 64) = true := by rw [bne_iff_ne]; omega
                          have f64 : ¬ n = 64 := by omega
                          have e126 : ((n : Int) != 126) = true := by rw [bne_iff_ne]; omega
                          have f126 : ¬ n = 126 := by omega
                          have HN := Lib.hid (HMO.out (HOK.out.2 (by omega)))
                          clear HOK HMO HNO h256 hc0 hc1 hc2 hc3 hc4 hc5 hc6 hc7 hc8 hc9
                          go_wp2_with fail
                          go_roundw
                          case rel => exact ⟨i + 1, by omega, by go_num, HN, trivial⟩
                          case measure => simp [intOf] <;> omega
                        · by_cases hc10 : n ≤ 94
                          · have g65 : decide (65 ≤ n) = true := decide_eq_true (by omega)
                            have i65 : (65 : Int) ≤ (n : Int) := by omega
                            have g97 : decide (97 ≤ n) = false := decide_eq_false (by omega)
                            have i97 : ¬ (97 : Int) ≤ (n : Int) := by omega
                            have g48 : decide (48 ≤ n) = true := decide_eq_true (by omega)
                            have i48 : (48 : Int) ≤ (n : Int) := by omega
                            have g90 : decide (n ≤ 90) = false := decide_eq_false (by omega)
                            have i90 : ¬ (n : Int) ≤ (90 : Int) := by omega
                            have g122 : decide (n ≤ 122) = true := decide_eq_true (by omega)
                            have i122 : (n : Int) ≤ (122 : Int) := by omega
                            have g57 : decide (n ≤ 57) = false := decide_eq_false (by omega)
                            have i57 : ¬ (n : Int) ≤ (57 : Int) := by omega
                            have e45 : ((n : Int) != 45) = true := by rw [bne_iff_ne]; omega
                            have f45 : ¬ n = 45 := by omega
                            have e95 : ((n : Int) != 95) = true := by rw [bne_iff_ne]; omega
                            have f95 : ¬ n = 95 := by omega
                            have e46 : ((n : Int) != 46) = true := by rw [bne_iff_ne]; omega
                            have f46 : ¬ n = 46 := by omega
                            have e35 : ((n : Int) != 35) = true := by rw [bne_iff_ne]; omega
                            have f35 : ¬ n = 35 := by omega
                            have e64 : ((n : Int) != 64) = true := by rw [bne_iff_ne]; omega
                            have f64 : ¬ n = 64 := by omega
                            have e126 : ((n : Int) != 126) = true := by rw [bne_iff_ne]; omega
                            have f126 : ¬ n = 126 := by omega
                            have HN := Lib.hid (HNO.out (by rw [Bool.eq_false_iff]; intro h; have := HOK.out.1 h; omega))
                            clear HOK HMO HNO h256 hc0 hc1 hc2 hc3 hc4 hc5 hc6 hc7 hc8 hc9 hc10
                            go_wp2_with fail
                            go_ret
                            exact ⟨by rw [HN.out]; rfl, rfl⟩
                          · by_cases hc11 : n ≤ 95
                            · obtain rfl : n = 95 := by omega
                              have HN := Lib.hid (HMO.out (HOK.out.2 (by omega)))
                              clear HOK HMO HNO h256 hc0 hc1 hc2 hc3 hc4 hc5 hc6 hc7 hc8 hc9 hc10 hc11
                              go_wp2_with fail
                              go_roundw
                              case rel => exact ⟨i + 1, by omega, by go_num, HN, trivial⟩
                              case measure => simp [intOf] <;> omega
                            · by_cases hc12 : n ≤ 96
                              · obtain rfl : n = 96 := by omega
                                have HN := Lib.hid (HNO.out (by rw [Bool.eq_false_iff]; intro h; have := HOK.out.1 h; omega))
                                clear HOK HMO HNO h256 hc0 hc1 hc2 hc3 hc4 hc5 hc6 hc7 hc8 hc9 hc10 hc11 hc12
                                go_wp2_with fail
                                go_ret
                                exact ⟨by rw [HN.out]; rfl, rfl⟩
                              · by_cases hc13 : n ≤ 122
                                · have g65 : decide (65 ≤ n) = true := decide_eq_true (by omega)
                                  have i65 : (65 : Int) ≤ (n : Int) := by omega
                                  have g97 : decide (97 ≤ n) = true := decide_eq_true (by omega)
                                  have i97 : (97 : Int) ≤ (n : Int) := by omega
                                  have g48 : decide (48 ≤ n) = true := decide_eq_true (by omega)
                                  have i48 : (48 : Int) ≤ (n : Int) := by omega
                                  have g90 : decide (n ≤ 90) = false := decide_eq_false (by omega)
                                  have i90 : ¬ (n : Int) ≤ (90 : Int) := by omega
                                  have g122 : decide (n ≤ 122) = true := decide_eq_true (by omega)
                                  have i122 : (n : Int) ≤ (122 : Int) := by omega
                                  have g57 : decide (n ≤ 57) = false := decide_eq_false (by omega)
                                  have i57 : ¬ (n : Int) ≤ (57 : Int) := by omega
                                  have e45 : ((n : Int) != 45) = true := by rw [bne_iff_ne]; omega
                                  have f45 : ¬ n = 45 := by omega
                                  have e95 : ((n : Int) != 95) = true := by rw [bne_iff_ne]; omega
                                  have f95 : ¬ n = 95 := by omega
                                  have e46 : ((n : Int) != 46) = true := by rw [bne_iff_ne]; omega
                                  have f46 : ¬ n = 46 := by omega
                                  have e35 : ((n : Int) != 35) = true := by rw [bne_iff_ne]; omega
                                  have f35 : ¬ n = 35 := by omega
                                  have e64 : ((n : Int) != 64) = true := by rw [bne_iff_ne]; omega
                                  have f64 : ¬ n = 64 := by omega
                                  have e126 : ((n : Int) != 126) = true := by rw [bne_iff_ne]; omega
                                  have f126 : ¬ n = 126 := by omega
                                  have HN := Lib.hid (HMO.out (HOK.out.2 (by omega)))
                                  clear HOK HMO HNO h256 hc0 hc1 hc2 hc3 hc4 hc5 hc6 hc7 hc8 hc9 hc10 hc11 hc12 hc13
                                  go_wp2_with fail
                                  go_roundw
                                  case rel => exact ⟨i + 1, by omega, by go_num, HN, trivial⟩
                                  case measure => simp [intOf] <;> omega
                                · by_cases hc14 : n ≤ 125
                                  · have g65 : decide (65 ≤ n) = true := decide_eq_true (by omega)
                                    have i65 : (65 : Int) ≤ (n : Int) := by omega
                                    have g97 : decide (97 ≤ n) = true := decide_eq_true (by omega)
                                    have i97 : (97 : Int) ≤ (n : Int) := by omega
                                    have g48 : decide (48 ≤ n) = true := decide_eq_true (by omega)
                                    have i48 : (48 : Int) ≤ (n : Int) := by omega
                                    have g90 : decide (n ≤ 90) = false := decide_eq_false (by omega)
                                    have i90 : ¬ (n : Int) ≤ (90 : Int) := by omega
                                    have g122 : decide (n ≤ 122) = false := decide_eq_false (by omega)
                                    have i122 : ¬ (n : Int) ≤ (122 : Int) := by omega
                                    have g57 : decide (n ≤ 57) = false := decide_eq_false (by omega)
                                    have i57 : ¬ (n : Int) ≤ (57 : Int) := by omega
                                    have e45 : ((n : Int) != 45) = true := by rw [bne_iff_ne]; omega
                                    have f45 : ¬ n = 45 := by omega
                                    have e95 : ((n : Int) != 95) = true := by rw [bne_iff_ne]; omega
                                    have f95 : ¬ n = 95 := by omega
                                    have e46 : ((n : Int) != 46) = true := by rw [bne_iff_ne]; omega
                                    have f46 : ¬ n = 46 := by omega
                                    have e35 : ((n : Int) != 35) = true := by rw [bne_iff_ne]; omega
                                    have f35 : ¬ n = 35 := by omega
                                    have e64 : ((n : Int) != 64) = true := by rw [bne_iff_ne]; omega
                                    have f64 : ¬ n = 64 := by omega
                                    have e126 : ((n : Int) != 126) = true := by rw [bne_iff_ne]; omega
                                    have f126 : ¬ n = 126 := by omega
                                    have HN := Lib.hid (HNO.out (by rw [Bool.eq_false_iff]; intro h; have := HOK.out.1 h; omega))
                                    clear HOK HMO HNO h256 hc0 hc1 hc2 hc3 hc4 hc5 hc6 hc7 hc8 hc9 hc10 hc11 hc12 hc13 hc14
                                    go_wp2_with fail
                                    go_ret
                                    exact ⟨by rw [HN.out]; rfl, rfl⟩
                                  · by_cases hc15 : n ≤ 126
                                    · obtain rfl : n = 126 := by omega
                                      have HN := Lib.hid (HMO.out (HOK.out.2 (by omega)))
                                      clear HOK HMO HNO h256 hc0 hc1 hc2 hc3 hc4 hc5 hc6 hc7 hc8 hc9 hc10 hc11 hc12 hc13 hc14 hc15
                                      go_wp2_with fail
                                      go_roundw
                                      case rel => exact ⟨i + 1, by omega, by go_num, HN, trivial⟩
                                      case measure => simp [intOf] <;> omega
                                    · have g65 : decide (65 ≤ n) = true := decide_eq_true (by omega)
                                      have i65 : (65 : Int) ≤ (n : Int) := by omega
                                      have g97 : decide (97 ≤ n) = true := decide_eq_true (by omega)
                                      have i97 : (97 : Int) ≤ (n : Int) := by omega
                                      have g48 : decide (48 ≤ n) = true := decide_eq_true (by omega)
                                      have i48 : (48 : Int) ≤ (n : Int) := by omega
                                      have g90 : decide (n ≤ 90) = false := decide_eq_false (by omega)
                                      have i90 : ¬ (n : Int) ≤ (90 : Int) := by omega
                                      have g122 : decide (n ≤ 122) = false := decide_eq_false (by omega)
                                      have i122 : ¬ (n : Int) ≤ (122 : Int) := by omega
                                      have g57 : decide (n ≤ 57) = false := decide_eq_false (by omega)
                                      have i57 : ¬ (n : Int) ≤ (57 : Int) := by omega
                                      have e45 : ((n : Int) != 45) = true := by rw [bne_iff_ne]; omega
                                      have f45 : ¬ n = 45 := by omega
                                      have e95 : ((n : Int) != 95) = true := by rw [bne_iff_ne]; omega
                                      have f95 : ¬ n = 95 := by omega
                                      have e46 : ((n : Int) != 46) = true := by rw [bne_iff_ne]; omega
                                      have f46 : ¬ n = 46 := by omega
                                      have e35 : ((n : Int) != 35) = true := by rw [bne_iff_ne]; omega
                                      have f35 : ¬ n = 35 := by omega
                                      have e64 : ((n : Int) != 64) = true := by rw [bne_iff_ne]; omega
                                      have f64 : ¬ n = 64 := by omega
                                      have e126 : ((n : Int) != 126) = true := by rw [bne_iff_ne]; omega
                                      have f126 : ¬ n = 126 := by omega
                                      have HN := Lib.hid (HNO.out (by rw [Bool.eq_false_iff]; intro h; have := HOK.out.1 h; omega))
                                      clear HOK HMO HNO h256 hc0 hc1 hc2 hc3 hc4 hc5 hc6 hc7 hc8 hc9 hc10 hc11 hc12 hc13 hc14 hc15
                                      go_wp2_with fail
                                      go_ret
                                      exact ⟨by rw [HN.out]; rfl, rfl⟩
    · have hltI : ¬ (i : Int) < (s.length : Int) := by omega
      have HY := Lib.hid (name_yes (s := s) (by have := HA.out; rwa [show i = s.length by omega, List.take_length] at this))
      have hd : decide (i < s.length) = false := decide_eq_false hlt
      clear hi hlt HA
      by_cases h0 : 0 < s.length
      · have d0 : decide (0 < s.length) = true := decide_eq_true h0
        have h0I : (0 : Int) < (s.length : Int) := by omega
        by_cases h24 : s.length ≤ 24
        · have d1 : decide (s.length ≤ 24) = true := decide_eq_true h24
          have h1I : (s.length : Int) ≤ 24 := by omega
          go_wp2_with fail
          go_ret
          exact ⟨by rw [HY.out, d0, d1]; rfl, rfl⟩
        · have d1 : decide (s.length ≤ 24) = false := decide_eq_false h24
          have h1I : ¬ (s.length : Int) ≤ 24 := by omega
          go_wp2_with fail
          go_ret
          exact ⟨by rw [HY.out, d0, d1]; rfl, rfl⟩
      · have d0 : decide (0 < s.length) = false := decide_eq_false h0
        have h0I : ¬ (0 : Int) < (s.length : Int) := by omega
        go_wp2_with fail
        go_ret
        exact ⟨by rw [HY.out, d0]; rfl, rfl⟩
end Go.Proofs.YtjgegggcbjecbaaDoor
