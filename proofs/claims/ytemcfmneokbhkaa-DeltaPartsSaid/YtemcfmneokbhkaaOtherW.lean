/- DeltaOther: a delta tells nothing of a base of another length. DeltaParts: a target that stands in the base, with eight bytes or more, is told by at most eight. No conditions but the row's own. -/
import Derived.Test.YtemcfmneokbhkaaBackW
namespace Go.Proofs.Ytemcfmneokbhkaa
open Go Go.RowKit

set_option maxRecDepth 100000 in
set_option maxHeartbeats 2000000 in
theorem deltaOther_walk (A1 : Option Addr) (c1 : Nat) (base : List UInt8) (A2 : Option Addr) (c2 : Nat) (other : List UInt8) (A3 : Option Addr) (c3 : Nat) (t : List UInt8) (w : World) (h1 : Rd w w.heap.size A1 base.length (bv base)) (hl1 : base.length ≤ c1) (hm1 : c1 ≤ 140737488351232) (h2 : Rd w w.heap.size A2 other.length (bv other)) (hl2 : other.length ≤ c2) (hm2 : c2 ≤ 140737488351232) (h3 : Rd w w.heap.size A3 t.length (bv t)) (hl3 : t.length ≤ c3) (hm3 : c3 ≤ 140737488351232) :
    Calls Try.prog 9 #[.slice A1 base.length c1, .slice A2 other.length c2, .slice A3 t.length c3] w (Ret (.bool true) w) := by
  have H2 := Lib.hid h2
  have HMK := Lib.hid (pmake_any A1 A3 c1 c3 base t w h1 h3 ⟨hl1, by omega⟩ ⟨hl3, by omega⟩ (by omega) (by omega))
  clear h1 h2 h3
  by_cases hlong : 4096 < base.length ∨ 4096 < t.length
  · rw [show Dl.makeD base t = ([], 3) from by unfold Dl.makeD; rw [if_pos hlong]] at HMK
    clear hlong
    go_enter Try.func9, Try.ntmps9
    go_wp2_with fail
    refine HMK.out.mono ?_; rintro e' w1 ⟨v, rfl, ho, hb1⟩
    have HB1 := Lib.hid hb1
    clear ho hb1
    go_wp2_with fail
    refine (alive_any _).mono ?_; rintro e' w7 ⟨rfl, hb7⟩
    go_wp2_with fail
    go_ret
    exact ⟨rfl, HB1.out.trans (hb7.mono HB1.out.size)⟩
  have hb : base.length ≤ 4096 := by omega
  have ht : t.length ≤ 4096 := by omega
  have hlen := Dl.makeD_len hb ht
  have he0 : (Dl.makeD base t).2 = 0 := by unfold Dl.makeD; rw [if_neg hlong]
  by_cases hne : base.length = other.length
  · have hbe : ((base.length : Int) == (other.length : Int)) = true := by rw [beq_nat]; exact decide_eq_true hne
    rw [he0] at HMK
    clear hlong he0 hne
    go_enter Try.func9, Try.ntmps9
    go_wp2_with fail
    refine HMK.out.mono ?_; rintro e' w1 ⟨v, rfl, ho, hb1⟩
    have HB1 := Lib.hid hb1
    clear ho hb1
    go_wp2_with fail
    refine (alive_any _).mono ?_; rintro e' w7 ⟨rfl, hb7⟩
    go_wp2_with fail
    go_ret
    exact ⟨rfl, HB1.out.trans (hb7.mono HB1.out.size)⟩
  · have hbe : ((base.length : Int) == (other.length : Int)) = false := by rw [beq_nat]; exact decide_eq_false hne
    have hoth := Dl.applyD_other hb ht hne
    obtain ⟨K, hK⟩ : ∃ K, K = (Dl.makeD base t).1 := ⟨_, rfl⟩
    rw [← hK] at HMK hlen hoth
    rw [he0] at HMK
    have HOT := Lib.hid hoth
    clear hK he0 hoth hlong
    by_cases ho4 : 4096 < other.length
    · have hd1 : decide ((4096 : Int) < (other.length : Int)) = true := decide_eq_true (by omega)
      rw [if_pos ho4] at HOT
      go_enter Try.func9, Try.ntmps9
      go_wp2_with fail
      refine HMK.out.mono ?_; rintro e' w1 ⟨v, rfl, ho, hb1⟩
      obtain ⟨A4, c4, hv, hl4, hm4, -⟩ := own_form ho
      subst hv
      have HB1 := Lib.hid hb1
      have hm4' : c4 ≤ 9223372036854775807 := by simpa [maxLen] using hm4
      have HAP := Lib.hid (papply_any A2 A4 c2 c4 other K w1 (H2.out.later hb1) (Rd.of_own ho) ⟨hl2, by omega⟩ ⟨hl4, hm4'⟩ (by omega) (by omega))
      rw [HOT.out] at HAP
      clear ho hb1 hm4
      go_wp2_with fail
      refine HAP.out.mono ?_; rintro e' w2 ⟨v2, rfl, ho2, hb2⟩
      obtain ⟨A5, c5, hv, -, -, -⟩ := own_form ho2
      subst hv
      have HB2 := Lib.hid (HB1.out.trans (hb2.mono HB1.out.size))
      simp only [okL, errN, List.length_nil]
      clear ho2 hb2
      go_wp2_with fail
      refine (alive_any _).mono ?_; rintro e' w7 ⟨rfl, hb7⟩
      go_wp2_with fail
      go_ret
      exact ⟨rfl, HB2.out.trans (hb7.mono HB2.out.size)⟩
    · have hd1 : decide ((4096 : Int) < (other.length : Int)) = false := decide_eq_false (by omega)
      rw [if_neg ho4] at HOT
      go_enter Try.func9, Try.ntmps9
      go_wp2_with fail
      refine HMK.out.mono ?_; rintro e' w1 ⟨v, rfl, ho, hb1⟩
      obtain ⟨A4, c4, hv, hl4, hm4, -⟩ := own_form ho
      subst hv
      have HB1 := Lib.hid hb1
      have hm4' : c4 ≤ 9223372036854775807 := by simpa [maxLen] using hm4
      have HAP := Lib.hid (papply_any A2 A4 c2 c4 other K w1 (H2.out.later hb1) (Rd.of_own ho) ⟨hl2, by omega⟩ ⟨hl4, hm4'⟩ (by omega) (by omega))
      rw [HOT.out] at HAP
      clear ho hb1 hm4
      go_wp2_with fail
      refine HAP.out.mono ?_; rintro e' w2 ⟨v2, rfl, ho2, hb2⟩
      obtain ⟨A5, c5, hv, -, -, -⟩ := own_form ho2
      subst hv
      have HB2 := Lib.hid (HB1.out.trans (hb2.mono HB1.out.size))
      simp only [okL, errN, List.length_nil]
      clear ho2 hb2
      go_wp2_with fail
      refine (alive_any _).mono ?_; rintro e' w7 ⟨rfl, hb7⟩
      go_wp2_with fail
      go_ret
      exact ⟨rfl, HB2.out.trans (hb7.mono HB2.out.size)⟩

/-- A piece of a slice. -/
theorem run_piece {w : World} {A : Option Addr} {l : List UInt8} {c i j : Nat} (hij : i < j) (hj : j ≤ l.length) (hc : l.length ≤ c) (h : Rd w w.heap.size A l.length (bv l)) :
    ∃ ad, A = some ad ∧ Rd w w.heap.size (some (ad.add i)) (j - i) (bv ((l.take j).drop i)) ∧ ∀ w' : World, (Instr.slice 22 (.slice A l.length c) (some (.int .i64 (i : Int))) (some (.int .i64 (j : Int))) none).run Try.prog w' = .ok (.slice (some (ad.add i)) (j - i) (c - i)) w' := by
  obtain ⟨ad, hA, hr⟩ := (h.take (k := j) hj).drop (k := i) hij
  subst hA
  refine ⟨ad, rfl, by rw [bv_drop, bv_take]; exact hr, fun w' => ?_⟩
  have hsz : (Try.prog.info? (Try.prog.elem 22)).map (·.size) = some 1 := by kernel_rfl
  rw [run_slice_lh (P := Try.prog) (w := w') (t := 22) (a := some ad) (len := l.length) (cap := c) (by kernel_rfl) .i64 .i64 (i : Int) (j : Int) (by omega) (by omega) (by omega)]
  cases hq : Try.prog.info? (Try.prog.elem 22) with
  | none => simp [hq] at hsz
  | some x =>
    have hs : x.size = 1 := by simpa [hq] using hsz
    have e2 : ¬ c = i := by omega
    simp [sizeOf, typeInfo, hq, hs, sliced, e2, Result.andThen]

set_option maxRecDepth 100000 in
set_option maxHeartbeats 2000000 in
theorem deltaParts_walk (A1 : Option Addr) (c1 : Nat) (base : List UInt8) (a b : Int) (w : World) (h1 : Rd w w.heap.size A1 base.length (bv base)) (hl1 : base.length ≤ c1) (hm1 : c1 ≤ 140737488351232) (ha : -9223372036854775808 ≤ a ∧ a ≤ 9223372036854775807) (hb : -9223372036854775808 ≤ b ∧ b ≤ 9223372036854775807) :
    Calls Try.prog 7 #[.slice A1 base.length c1, .int .i64 a, .int .i64 b] w (Ret (.bool true) w) := by
  have H1 := Lib.hid h1
  by_cases hin : 0 ≤ a ∧ a + 8 ≤ b ∧ b ≤ base.length ∧ base.length ≤ 4096
  · obtain ⟨i, rfl⟩ := Int.eq_ofNat_of_zero_le hin.1
    obtain ⟨j, rfl⟩ := Int.eq_ofNat_of_zero_le (show 0 ≤ b by omega)
    have hij : i + 8 ≤ j := by omega
    have hj : j ≤ base.length := by omega
    have hbl : base.length ≤ 4096 := hin.2.2.2
    have hlen := Dl.makeD_part hbl hij hj
    have htl : ((base.take j).drop i).length = j - i := by rw [List.length_drop, List.length_take]; omega
    obtain ⟨ad, hA, hr, hsl⟩ := run_piece (c := c1) (i := i) (j := j) (by omega) hj hl1 h1
    subst hA
    have he0 : (Dl.makeD base ((base.take j).drop i)).2 = 0 := by unfold Dl.makeD; rw [if_neg (by omega)]
    have hr2 := hr
    rw [← htl] at hr2
    have HMK := Lib.hid (pmake_any (some ad) (some (ad.add i)) c1 (c1 - i) base ((base.take j).drop i) w h1 hr2 ⟨hl1, by omega⟩ (by omega) (by omega) (by omega))
    rw [he0, htl] at HMK
    obtain ⟨K, hK⟩ : ∃ K, K = (Dl.makeD base ((base.take j).drop i)).1 := ⟨_, rfl⟩
    rw [← hK] at HMK hlen
    have g1 : decide ((i : Int) < 0) = false := decide_eq_false (by omega)
    have g2 : decide ((base.length : Int) < (j : Int)) = false := decide_eq_false (by omega)
    have g3 : decide ((j : Int) < (i : Int)) = false := decide_eq_false (by omega)
    have hw : IntKind.i64.wrap ((j : Int) - (i : Int)) = (j : Int) - (i : Int) := IntWalk.i64_in _ (by omega)
    have g4 : decide ((j : Int) - (i : Int) < 8) = false := decide_eq_false (by omega)
    have g5 : decide ((4096 : Int) < (base.length : Int)) = false := decide_eq_false (by omega)
    have g6 : decide ((K.length : Int) ≤ 8) = true := decide_eq_true (by omega)
    clear h1 hr hr2 htl he0 hK hin
    go_enter Try.func7, Try.ntmps7
    go_wp2_with fail
    refine HMK.out.mono ?_; rintro e' w1 ⟨v, rfl, ho, hb1⟩
    obtain ⟨A4, c4, hv, -, -, -⟩ := own_form ho
    subst hv
    have HB1 := Lib.hid hb1
    clear ho hb1
    go_wp2_with fail
    refine (alive_any _).mono ?_; rintro e' w7 ⟨rfl, hb7⟩
    go_wp2_with fail
    go_ret
    exact ⟨rfl, HB1.out.trans (hb7.mono HB1.out.size)⟩
  · clear h1
    by_cases g1 : a < 0
    · have d1 : decide (a < 0) = true := decide_eq_true g1
      go_enter Try.func7, Try.ntmps7
      go_wp2_with fail
      refine (alive_any _).mono ?_; rintro e' w7 ⟨rfl, hb7⟩
      go_wp2_with fail
      go_ret
      exact ⟨rfl, hb7⟩
    have d1 : decide (a < 0) = false := decide_eq_false g1
    by_cases g2 : (base.length : Int) < b
    · have d2 : decide ((base.length : Int) < b) = true := decide_eq_true g2
      go_enter Try.func7, Try.ntmps7
      go_wp2_with fail
      refine (alive_any _).mono ?_; rintro e' w7 ⟨rfl, hb7⟩
      go_wp2_with fail
      go_ret
      exact ⟨rfl, hb7⟩
    have d2 : decide ((base.length : Int) < b) = false := decide_eq_false g2
    by_cases g3 : b < a
    · have d3 : decide (b < a) = true := decide_eq_true g3
      go_enter Try.func7, Try.ntmps7
      go_wp2_with fail
      refine (alive_any _).mono ?_; rintro e' w7 ⟨rfl, hb7⟩
      go_wp2_with fail
      go_ret
      exact ⟨rfl, hb7⟩
    have d3 : decide (b < a) = false := decide_eq_false g3
    have hw : IntKind.i64.wrap (b - a) = b - a := IntWalk.i64_in _ (by omega)
    by_cases g4 : b - a < 8
    · have d4 : decide (b - a < 8) = true := decide_eq_true g4
      go_enter Try.func7, Try.ntmps7
      go_wp2_with fail
      refine (alive_any _).mono ?_; rintro e' w7 ⟨rfl, hb7⟩
      go_wp2_with fail
      go_ret
      exact ⟨rfl, hb7⟩
    have d4 : decide (b - a < 8) = false := decide_eq_false g4
    have d5 : decide ((4096 : Int) < (base.length : Int)) = true := decide_eq_true (by omega)
    go_enter Try.func7, Try.ntmps7
    go_wp2_with fail
    refine (alive_any _).mono ?_; rintro e' w7 ⟨rfl, hb7⟩
    go_wp2_with fail
    go_ret
    exact ⟨rfl, hb7⟩
end Go.Proofs.Ytemcfmneokbhkaa
