/- The document's Same: two scripts. -/
import Derived.Test.YtmanafhdmijfeaaEd
import Derived.Deep.QuietTactic
import Derived.BigQuiet
namespace Go.Proofs.Ytmanafhdmijfeaa
open Go Go.RowKit

theorem take_next {α : Type} {L L' : List α} {k : Nat} {x y : α} (hx : L[k]? = some x) (hy : L'[k]? = some y) (ht : L.take k = L'.take k) (h : x = y) : L.take (k + 1) = L'.take (k + 1) := by
  rw [List.take_add_one, List.take_add_one, hx, hy, ht, h]
theorem ret_bool {a b : Bool} (h : a = b) : Ending.returned (.bool a) = .returned (.bool b) := by rw [h]

set_option maxRecDepth 100000 in
set_option maxHeartbeats 1000000 in
theorem same_any (A A' : Option Addr) (c c' : Nat) (L L' : List Ed) (B B' : Nat) (w : World) (h : Rd w B A (L.length * 3) (ev L)) (h' : Rd w B' A' (L'.length * 3) (ev L')) (hl : L.length ≤ 4611686018427387904) :
    Calls Try.prog 14 #[.slice A L.length c, .slice A' L'.length c'] w fun x w' => x = .returned (.bool (decide (L = L'))) ∧ ∃ n, w' = w.drewN n := by
  have H := Lib.hid h
  have H' := Lib.hid h'
  have HN := Lib.hid run_neq_ed
  clear h h'
  by_cases hn : L.length = L'.length
  · have hb : ((L.length : Int) != (L'.length : Int)) = false := by simp [hn]
    have hN := Lib.hid hn
    have HN2 := Lib.hid (Nat.le_of_eq hn.symm)
    clear hn
    go_enter Try.func14, Try.ntmps14
    go_wp2_with fail
    go_loopw [5] (fun i wr => ∃ k m : Nat, k ≤ L.length ∧ i = .int .i64 (k : Int) ∧ L.take k = L'.take k ∧ wr = w.drewN m) (fun i _ => L.length - (intOf i).toNat)
    case atStart => exact ⟨0, 0, Nat.zero_le _, rfl, rfl, rfl⟩
    case round =>
      obtain ⟨k, m, hk, rfl, ht, rfl⟩ := hrel
      have HT := Lib.hid ht
      clear ht
      by_cases hlt : k < L.length
      · have hltI : (k : Int) < (L.length : Int) := by omega
        have hlt' : k < L'.length := by rw [← hN.out]; exact hlt
        have hltI' : (k : Int) < (L'.length : Int) := by omega
        obtain ⟨x, hx⟩ : ∃ x, L[k]? = some x := ⟨_, List.getElem?_eq_getElem hlt⟩
        obtain ⟨y, hy⟩ : ∃ y, L'[k]? = some y := ⟨_, List.getElem?_eq_getElem hlt'⟩
        obtain ⟨ad, rfl, -, c0, c1, c2⟩ := H.out.ed hx
        obtain ⟨ad', rfl, -, d0, d1, d2⟩ := H'.out.ed hy
        have hne := HN.out x y
        have HX := Lib.hid hx
        have HY := Lib.hid hy
        unfold edV at hne
        clear hx hy
        by_cases hxy : x = y
        · have hd : (!decide (x = y)) = false := by simp [hxy]
          rw [hd] at hne
          have HXY := Lib.hid hxy
          clear hd hxy
          go_wp2_with fail
          go_quiet (fail)
          go_wp2_with fail
          go_roundw
          case rel => exact ⟨k + 1, m + nq, by omega, by go_num, take_next HX.out HY.out HT.out HXY.out, rfl⟩
          case measure => simp [intOf]; omega
        · have hd : (!decide (x = y)) = true := by simp [hxy]
          rw [hd] at hne
          have HXY := Lib.hid hxy
          clear hd hxy
          go_wp2_with fail
          go_quiet (fail)
          go_wp2_with fail
          go_ret
          exact ⟨ret_bool (decide_eq_false (fun hL => HXY.out (Option.some.inj (HX.out.symm.trans (by rw [hL]; exact HY.out))))).symm, m + nq, by simp⟩
      · have hltI : ¬ (k : Int) < (L.length : Int) := by omega
        go_wp2_with fail
        go_ret
        refine ⟨ret_bool (decide_eq_true ?_).symm, m, rfl⟩
        have h1 := HT.out
        have h2 := HN2.out
        rwa [List.take_of_length_le (by omega), List.take_of_length_le (by omega)] at h1
  · have hb : ((L.length : Int) != (L'.length : Int)) = true := by rw [bne_iff_ne]; omega
    have hN := Lib.hid hn
    clear hn
    go_enter Try.func14, Try.ntmps14
    go_wp2_with fail
    go_ret
    exact ⟨ret_bool (decide_eq_false (fun hL => hN.out (by rw [hL]))).symm, 0, rfl⟩
end Go.Proofs.Ytmanafhdmijfeaa
