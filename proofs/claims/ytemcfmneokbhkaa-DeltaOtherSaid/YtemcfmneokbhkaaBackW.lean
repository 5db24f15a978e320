/- DeltaBack: a target is told by a delta just as it is. DeltaShort: a delta has at most six bytes more than its target, and the same for the same. No conditions but the row's own. -/
import Derived.Test.YtemcfmneokbhkaaMakesW
namespace Go.Proofs.Ytemcfmneokbhkaa
open Go Go.RowKit

theorem eql_zero (n : Nat) : ((n : Int) == 0) = decide (n = 0) := beq_zero n

set_option maxRecDepth 100000 in
set_option maxHeartbeats 2000000 in
theorem deltaBack_walk (A1 : Option Addr) (c1 : Nat) (base : List UInt8) (A2 : Option Addr) (c2 : Nat) (t : List UInt8) (w : World) (h1 : Rd w w.heap.size A1 base.length (bv base)) (hl1 : base.length ≤ c1) (hm1 : c1 ≤ 140737488351232) (h2 : Rd w w.heap.size A2 t.length (bv t)) (hl2 : t.length ≤ c2) (hm2 : c2 ≤ 140737488351232) :
    Calls Try.prog 5 #[.slice A1 base.length c1, .slice A2 t.length c2] w (Ret (.bool true) w) := by
  have H1 := Lib.hid h1
  have H2 := Lib.hid h2
  by_cases hlong : 4096 < base.length ∨ 4096 < t.length
  · have HMK := Lib.hid (pmake_any A1 A2 c1 c2 base t w h1 h2 ⟨hl1, by omega⟩ ⟨hl2, by omega⟩ (by omega) (by omega))
    rw [show Dl.makeD base t = ([], 3) from by unfold Dl.makeD; rw [if_pos hlong]] at HMK
    clear h1 h2
    by_cases hb : 4096 < base.length
    · have hd1 : decide ((4096 : Int) < (base.length : Int)) = true := decide_eq_true (by omega)
      go_enter Try.func5, Try.ntmps5
      go_wp2_with fail
      refine HMK.out.mono ?_; rintro e' w1 ⟨v, rfl, ho, hb1⟩
      obtain ⟨A3, c3, hv, -, -, -⟩ := own_form ho
      subst hv
      have HB1 := Lib.hid hb1
      simp only [List.length_nil]
      clear ho hb1
      go_wp2_with fail
      refine (alive_any _).mono ?_; rintro e' w7 ⟨rfl, hb7⟩
      go_wp2_with fail
      go_ret
      exact ⟨rfl, HB1.out.trans (hb7.mono HB1.out.size)⟩
    · have hd1 : decide ((4096 : Int) < (base.length : Int)) = false := decide_eq_false (by omega)
      have hd2 : decide ((4096 : Int) < (t.length : Int)) = true := decide_eq_true (by omega)
      go_enter Try.func5, Try.ntmps5
      go_wp2_with fail
      refine HMK.out.mono ?_; rintro e' w1 ⟨v, rfl, ho, hb1⟩
      obtain ⟨A3, c3, hv, -, -, -⟩ := own_form ho
      subst hv
      have HB1 := Lib.hid hb1
      simp only [List.length_nil]
      clear ho hb1
      go_wp2_with fail
      refine (alive_any _).mono ?_; rintro e' w7 ⟨rfl, hb7⟩
      go_wp2_with fail
      go_ret
      exact ⟨rfl, HB1.out.trans (hb7.mono HB1.out.size)⟩
  · have hb : base.length ≤ 4096 := by omega
    have ht : t.length ≤ 4096 := by omega
    have HMK := Lib.hid (pmake_any A1 A2 c1 c2 base t w h1 h2 ⟨hl1, by omega⟩ ⟨hl2, by omega⟩ (by omega) (by omega))
    have hlen := Dl.makeD_len hb ht
    have hback := Dl.makeD_back hb ht
    have he0 : (Dl.makeD base t).2 = 0 := by unfold Dl.makeD; rw [if_neg hlong]
    obtain ⟨K, hK⟩ : ∃ K, K = (Dl.makeD base t).1 := ⟨_, rfl⟩
    rw [← hK] at HMK hlen hback
    rw [he0] at HMK
    have HBK := Lib.hid hback
    clear hK he0 hback h1 h2 hlong
    go_enter Try.func5, Try.ntmps5
    go_wp2_with fail
    refine HMK.out.mono ?_; rintro e' w1 ⟨v, rfl, ho, hb1⟩
    obtain ⟨A3, c3, hv, hl3, hm3, -⟩ := own_form ho
    subst hv
    have HB1 := Lib.hid hb1
    have hm3' : c3 ≤ 9223372036854775807 := by simpa [maxLen] using hm3
    have HAP := Lib.hid (papply_any A1 A3 c1 c3 base K w1 (H1.out.later hb1) (Rd.of_own ho) ⟨hl1, by omega⟩ ⟨hl3, hm3'⟩ (by omega) (by omega))
    rw [HBK.out] at HAP
    clear ho hb1 hm3
    go_wp2_with fail
    refine HAP.out.mono ?_; rintro e' w2 ⟨v2, rfl, ho2, hb2⟩
    obtain ⟨A4, c4, hv, -, -, -⟩ := own_form ho2
    subst hv
    have HB2 := Lib.hid (HB1.out.trans (hb2.mono HB1.out.size))
    have hcv1 := conv_str w2 _ A4 t.length c4 t (Rd.of_own ho2)
    have hcv2 := conv_str w2 _ A2 t.length c2 t (H2.out.later HB2.out)
    simp only [okL, errN]
    clear ho2 hb2
    go_wp2_with fail
    refine (alive_any _).mono ?_; rintro e' w7 ⟨rfl, hb7⟩
    go_wp2_with fail
    go_ret
    exact ⟨rfl, HB2.out.trans (hb7.mono HB2.out.size)⟩

set_option maxRecDepth 100000 in
set_option maxHeartbeats 2000000 in
theorem deltaShort_walk (A1 : Option Addr) (c1 : Nat) (base : List UInt8) (A2 : Option Addr) (c2 : Nat) (t : List UInt8) (w : World) (h1 : Rd w w.heap.size A1 base.length (bv base)) (hl1 : base.length ≤ c1) (hm1 : c1 ≤ 140737488351232) (h2 : Rd w w.heap.size A2 t.length (bv t)) (hl2 : t.length ≤ c2) (hm2 : c2 ≤ 140737488351232) :
    Calls Try.prog 6 #[.slice A1 base.length c1, .slice A2 t.length c2] w (Ret (.bool true) w) := by
  have H1 := Lib.hid h1
  have H2 := Lib.hid h2
  have HMK := Lib.hid (fun w h1 h2 => pmake_any A1 A2 c1 c2 base t w h1 h2 ⟨hl1, by omega⟩ ⟨hl2, by omega⟩ (by omega) (by omega))
  have hcase : ((Dl.makeD base t).2 ≠ 0) ∨ ((Dl.makeD base t).2 = 0 ∧ (Dl.makeD base t).1.length ≤ t.length + 6) := by
    by_cases hlong : 4096 < base.length ∨ 4096 < t.length
    · left; unfold Dl.makeD; rw [if_pos hlong]; decide
    · right; exact ⟨by unfold Dl.makeD; rw [if_neg hlong], Dl.makeD_len (by omega) (by omega)⟩
  obtain ⟨K, e, hKe⟩ : ∃ K e, Dl.makeD base t = (K, e) := ⟨_, _, rfl⟩
  rw [hKe] at HMK hcase
  simp only [] at hcase
  have k3 : ((e : Int) == (e : Int)) = true := by simp
  clear h1 h2 hKe
  rcases hcase with he | ⟨rfl, hlen⟩
  · have hbe : ((e : Int) != 0) = true := by rw [bne_zero]; exact decide_eq_true he
    go_enter Try.func6, Try.ntmps6
    go_wp2_with fail
    refine (HMK.out w H1.out H2.out).mono ?_; rintro e' w1 ⟨v, rfl, ho, hb1⟩
    obtain ⟨A3, c3, hv, -, -, -⟩ := own_form ho
    subst hv
    have HB1 := Lib.hid hb1
    have HR1 := Lib.hid (Rd.of_own ho)
    clear ho hb1
    go_wp2_with fail
    refine (HMK.out w1 (H1.out.later HB1.out) (H2.out.later HB1.out)).mono ?_; rintro e' w2 ⟨v, rfl, ho, hb2⟩
    obtain ⟨A4, c4, hv, -, -, -⟩ := own_form ho
    subst hv
    have HB2 := Lib.hid (HB1.out.trans (hb2.mono HB1.out.size))
    have hcv1 := conv_str w2 _ A3 K.length c3 K (HR1.out.later hb2)
    have hcv2 := conv_str w2 _ A4 K.length c4 K (Rd.of_own ho)
    clear ho hb2
    go_wp2_with fail
    refine (alive_any _).mono ?_; rintro e' w7 ⟨rfl, hb7⟩
    go_wp2_with fail
    go_ret
    exact ⟨rfl, HB2.out.trans (hb7.mono HB2.out.size)⟩
  · have hw : IntKind.i64.wrap ((t.length : Int) + 6) = (t.length : Int) + 6 := IntWalk.i64_in _ (by omega)
    have hd : decide ((K.length : Int) ≤ (t.length : Int) + 6) = true := decide_eq_true (by omega)
    go_enter Try.func6, Try.ntmps6
    go_wp2_with fail
    refine (HMK.out w H1.out H2.out).mono ?_; rintro e' w1 ⟨v, rfl, ho, hb1⟩
    obtain ⟨A3, c3, hv, -, -, -⟩ := own_form ho
    subst hv
    have HB1 := Lib.hid hb1
    have HR1 := Lib.hid (Rd.of_own ho)
    clear ho hb1
    go_wp2_with fail
    refine (HMK.out w1 (H1.out.later HB1.out) (H2.out.later HB1.out)).mono ?_; rintro e' w2 ⟨v, rfl, ho, hb2⟩
    obtain ⟨A4, c4, hv, -, -, -⟩ := own_form ho
    subst hv
    have HB2 := Lib.hid (HB1.out.trans (hb2.mono HB1.out.size))
    have hcv1 := conv_str w2 _ A3 K.length c3 K (HR1.out.later hb2)
    have hcv2 := conv_str w2 _ A4 K.length c4 K (Rd.of_own ho)
    clear ho hb2
    go_wp2_with fail
    refine (alive_any _).mono ?_; rintro e' w7 ⟨rfl, hb7⟩
    go_wp2_with fail
    go_ret
    exact ⟨rfl, HB2.out.trans (hb7.mono HB2.out.size)⟩
end Go.Proofs.Ytemcfmneokbhkaa
