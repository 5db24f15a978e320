/- The program's mayBe, and Cost. -/
import Derived.Test.YtmanafhdmijfeaaAppl
namespace Go.Proofs.Ytmanafhdmijfeaa
open Go Go.RowKit

set_option maxRecDepth 100000 in
set_option maxHeartbeats 800000 in
theorem pmay_any (e : Ed) (w : World) : Calls Try.prog 33 #[edV e] w fun x w' => x = .returned (.bool (mayB e)) ∧ Below w.heap.size w w' := by
  obtain ⟨kd, n, t⟩ := e
  unfold edV
  by_cases k1 : kd = 1
  · subst k1
    go_enter Try.func33, Try.ntmps33
    go_wp2_with fail
    all_goals
      go_ret
      refine ⟨?_, (Below.refl _ _).alloc (Nat.le_refl _) _⟩
      first | (simp [mayB, *]; done) | (simp [mayB, *]; intro h; omega) | (simp [mayB, *]; rw [sB_toList])
  by_cases k2 : kd = 2
  · subst k2
    go_enter Try.func33, Try.ntmps33
    go_wp2_with fail
    all_goals
      go_ret
      refine ⟨?_, (Below.refl _ _).alloc (Nat.le_refl _) _⟩
      first | (simp [mayB, *]; done) | (simp [mayB, *]; intro h; omega) | (simp [mayB, *]; rw [sB_toList])
  by_cases k3 : kd = 3
  · subst k3
    go_enter Try.func33, Try.ntmps33
    go_wp2_with fail
    all_goals
      go_ret
      refine ⟨?_, (Below.refl _ _).alloc (Nat.le_refl _) _⟩
      first | (simp [mayB, *]; done) | (simp [mayB, *]; intro h; omega) | (simp [mayB, *]; rw [sB_toList])
  · have b1 : (kd == 1) = false := by simpa using k1
    have b2 : (kd == 2) = false := by simpa using k2
    have b3 : (kd == 3) = false := by simpa using k3
    go_enter Try.func33, Try.ntmps33
    go_wp2_with fail
    all_goals
      go_ret
      exact ⟨by simp [mayB, *], (Below.refl _ _).alloc (Nat.le_refl _) _⟩

theorem wrap_one {S : Int} {s n l : Nat} (hS : S = wrap64 (s : Int)) : wrap64 (S + wrap64 ((n : Int) + (l : Int))) = wrap64 ((s + (n + l) : Nat) : Int) := by subst hS; unfold wrap64; omega
theorem wrap_none {S : Int} {s : Nat} (hS : S = wrap64 (s : Int)) (l : Nat) (hl : l = 0) : S = wrap64 ((s + l : Nat) : Int) := by subst hl; exact hS
theorem cost_keep {e : Ed} (h : mayB e = true) (hk : e.kind = 1) : cost1 e = 0 := by
  unfold mayB at h; rw [if_neg (by omega)] at h
  simp only [Bool.and_eq_true, List.isEmpty_iff] at h
  unfold cost1; rw [if_neg (by omega), h.2]; rfl
theorem cost_other {e : Ed} (h : mayB e = true) (hk : e.kind ≠ 1) : cost1 e = e.n.toNat + e.text.length := by
  unfold cost1
  split
  · rfl
  · rename_i h2
    unfold mayB at h
    split at h
    · simp only [Bool.and_eq_true, decide_eq_true_eq] at h
      rw [h.1]; simp
    · simp only [Bool.and_eq_true, Bool.or_eq_true, decide_eq_true_eq] at h
      omega

set_option maxRecDepth 100000 in
set_option maxHeartbeats 2000000 in
theorem pcost_all (A : Option Addr) (c : Nat) (L : List Ed) (w : World) (h : Rd w w.heap.size A (L.length * 3) (ev L)) (hl : L.length ≤ 4611686018427387904) :
    Calls Try.prog 18 #[.slice A L.length c] w fun x w' => x = .returned (costR L) ∧ Below w.heap.size w w' := by
  have H := Lib.hid h
  clear h
  go_enter Try.func18, Try.ntmps18
  go_wp2_with fail
  go_loopw [4, 9] (fun s i wr => ∃ k : Nat, k ≤ L.length ∧ i = .int .i64 (k : Int) ∧ s = .int .i64 (wrap64 (sumC (L.take k) : Int)) ∧ (L.take k).all mayC = true ∧ Below w.heap.size w wr) (fun _ i _ => L.length - (intOf i).toNat)
  case atStart => exact ⟨0, Nat.zero_le _, rfl, ret_i64 (by simp [sumC, wrap64]), rfl, Below.refl _ _⟩
  case round =>
    obtain ⟨k, hk, rfl, rfl, ha, hB⟩ := hrel
    have HA := Lib.hid ha
    obtain ⟨S, hS⟩ : ∃ S, S = wrap64 (sumC (L.take k) : Int) := ⟨_, rfl⟩
    rw [← hS]
    have hSl := wrap64_lim (sumC (L.take k) : Int)
    rw [← hS] at hSl
    have HSS := Lib.hid hS
    clear ha hS
    by_cases hlt : k < L.length
    · have hltI : (k : Int) < (L.length : Int) := by omega
      obtain ⟨x, hx⟩ : ∃ x, L[k]? = some x := ⟨_, List.getElem?_eq_getElem hlt⟩
      obtain ⟨ad, rfl, -, c0, c1, c2⟩ := (H.out.below hB).ed hx
      have hsn := sumC_next hx
      have HM := Lib.hid (pmay_any x)
      unfold edV at HM
      have HX := Lib.hid hx
      have HS := Lib.hid hsn
      clear hx hsn
      obtain ⟨kd, n, t⟩ := x
      simp only [] at c0 c1 c2 HM
      obtain ⟨wa, hwa⟩ : ∃ y, y = wr.alloc (.cells #[.int .i64 kd, .int .i64 n, .string (sB t)] 32) := ⟨_, rfl⟩
      have hSb : Blk wa wr.heap.size 32 #[.int .i64 kd, .int .i64 n, .string (sB t)] := by rw [hwa]; exact Blk.new wr _ _
      have hBa : Below w.heap.size w wa := by rw [hwa]; exact hB.alloc hB.size _
      have s0 := hSb.cell 0
      have s1 := hSb.cell 1
      have s2 := hSb.cell 2
      simp only [List.getElem?_toArray, List.getElem?_cons_zero, List.getElem?_cons_succ] at s0 s1 s2
      have HSB := Lib.hid hSb
      replace hwa := hwa.symm
      have hsi : ((sB t).size : Int) = (t.length : Int) := by rw [sB_size]
      have HSZ := Lib.hid hsi
      clear hSb hsi
      by_cases hm : mayB ⟨kd, n, t⟩ = true
      · have hn1 : 0 ≤ n := mayB_n hm
        by_cases hb : n ≤ 1000
        · have hbg : decide (1000 < n) = false := decide_eq_false (by omega)
          have hmc : mayC ⟨kd, n, t⟩ = true := by unfold mayC; rw [hm, decide_eq_true (show (⟨kd, n, t⟩ : Ed).n ≤ 1000 from hb)]; rfl
          have HMC := Lib.hid hmc
          clear hmc
          by_cases hk2 : kd = 1
          · have hkb : (kd == 1) = true := by rw [hk2]; rfl
            have HCS := Lib.hid (cost_keep hm hk2)
            subst hk2
            go_wp2_with fail
            refine (HM.out _).mono ?_; rintro e w1 ⟨rfl, hb1⟩
            have hB1 := hBa.trans (hb1.mono hBa.size)
            have hS1 := HSB.out.later hb1
            have r0 := hS1.cell 0
            have r1 := hS1.cell 1
            have r2 := hS1.cell 2
            simp only [List.getElem?_toArray, List.getElem?_cons_zero, List.getElem?_cons_succ] at r0 r1 r2
            clear c0 c1 c2 s0 s1 s2 hwa hS1
            go_wp2_with fail
            go_roundw
            case rel => exact ⟨k + 1, by omega, by go_num, ret_i64 (by rw [HS.out]; exact wrap_none HSS.out _ HCS.out), all_next HX.out HA.out HMC.out, hB1⟩
            case measure => simp [intOf]; omega
          · have hkb : (kd == 1) = false := by simpa using hk2
            have HCS := Lib.hid (cost_other hm hk2)
            go_wp2_with fail
            refine (HM.out _).mono ?_; rintro e w1 ⟨rfl, hb1⟩
            have hB1 := hBa.trans (hb1.mono hBa.size)
            have hS1 := HSB.out.later hb1
            have r0 := hS1.cell 0
            have r1 := hS1.cell 1
            have r2 := hS1.cell 2
            simp only [List.getElem?_toArray, List.getElem?_cons_zero, List.getElem?_cons_succ] at r0 r1 r2
            clear c0 c1 c2 s0 s1 s2 hwa hS1
            go_wp2_with fail
            go_roundw
            case rel => exact ⟨k + 1, by omega, by go_num, ret_i64 (by rw [HS.out, HCS.out, HSZ.out]; rw [← Int.toNat_of_nonneg hn1]; exact wrap_one HSS.out), all_next HX.out HA.out HMC.out, hB1⟩
            case measure => simp [intOf]; omega
        · have hbg : decide (1000 < n) = true := decide_eq_true (by omega)
          have hmc : mayC ⟨kd, n, t⟩ = false := by unfold mayC; rw [decide_eq_false (show ¬ (⟨kd, n, t⟩ : Ed).n ≤ 1000 from hb), Bool.and_false]
          have HMC := Lib.hid hmc
          clear hmc
          go_wp2_with fail
          refine (HM.out _).mono ?_; rintro e w1 ⟨rfl, hb1⟩
          have hB1 := hBa.trans (hb1.mono hBa.size)
          have hS1 := HSB.out.later hb1
          have r0 := hS1.cell 0
          have r1 := hS1.cell 1
          have r2 := hS1.cell 2
          simp only [List.getElem?_toArray, List.getElem?_cons_zero, List.getElem?_cons_succ] at r0 r1 r2
          clear c0 c1 c2 s0 s1 s2 hwa hS1
          go_wp2_with fail
          go_ret2
          exact ⟨by unfold costR; rw [all_not HX.out HMC.out]; rfl, hB1⟩
      · have hm' : mayB ⟨kd, n, t⟩ = false := by simpa using hm
        have hmc : mayC ⟨kd, n, t⟩ = false := by unfold mayC; rw [hm', Bool.false_and]
        have HMC := Lib.hid hmc
        clear hmc hm
        go_wp2_with fail
        refine (HM.out _).mono ?_; rintro e w1 ⟨rfl, hb1⟩
        have hB1 := hBa.trans (hb1.mono hBa.size)
        clear c0 c1 c2 s0 s1 s2 hwa
        go_wp2_with fail
        go_ret2
        exact ⟨by unfold costR; rw [all_not HX.out HMC.out]; rfl, hB1⟩
    · have hltI : ¬ (k : Int) < (L.length : Int) := by omega
      obtain rfl : k = L.length := by omega
      have ha := HA.out
      rw [List.take_length] at ha
      have HA2 := Lib.hid ha
      clear ha
      go_wp2_with fail
      go_ret2
      exact ⟨by rw [HSS.out, List.take_length]; unfold costR; rw [HA2.out]; rfl, hB⟩
end Go.Proofs.Ytmanafhdmijfeaa
