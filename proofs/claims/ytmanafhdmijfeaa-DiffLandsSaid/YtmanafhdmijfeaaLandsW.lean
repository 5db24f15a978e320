/- The walk of DiffLands. -/
import Derived.Test.YtmanafhdmijfeaaLCost
namespace Go.Proofs.Ytmanafhdmijfeaa
open Go Go.RowKit

set_option maxRecDepth 100000 in
set_option maxHeartbeats 4000000 in
theorem diffLands_walk (a b : ByteArray) (w : World) (hal : a.size ≤ 4611686018427387904) (hbl : b.size ≤ 4611686018427387904) :
    Calls Try.prog 7 #[.string a, .string b] w fun e w' => e = .returned (.bool true) ∧ Below w.heap.size w w' := by
  obtain ⟨a', rfl⟩ : ∃ l, a = sB l := ⟨a.data.toList, rfl⟩
  obtain ⟨b', rfl⟩ : ∃ l, b = sB l := ⟨b.data.toList, rfl⟩
  rw [sB_size] at hal hbl
  have hsa := sB_size a'
  have hsb := sB_size b'
  have hm := pmake_any a' b' w hal hbl
  by_cases hlong : 1000 < a'.length ∨ 1000 < b'.length
  · have hr : makeR a' b' = ([], 3) := by unfold makeR; rw [if_pos hlong]
    rw [hr] at hm
    have HM := Lib.hid hm
    clear hm hr
    by_cases ha : 1000 < a'.length
    · have da : decide ((1000 : Int) < (a'.length : Int)) = true := decide_eq_true (by omega)
      clear hlong
      go_enter Try.func7, Try.ntmps7
      go_wp2_with fail
      refine HM.out.mono ?_; rintro x w1 ⟨v, rfl, ho, hb1⟩
      clear ho
      go_wp2_with fail
      refine (alive_any _).mono ?_; rintro x w4 ⟨rfl, hb4⟩
      go_wp2_with fail
      go_ret
      exact ⟨rfl, hb1.trans (hb4.mono hb1.size)⟩
    · have da : decide ((1000 : Int) < (a'.length : Int)) = false := decide_eq_false (by omega)
      have db : decide ((1000 : Int) < (b'.length : Int)) = true := decide_eq_true (by omega)
      clear hlong
      go_enter Try.func7, Try.ntmps7
      go_wp2_with fail
      refine HM.out.mono ?_; rintro x w1 ⟨v, rfl, ho, hb1⟩
      clear ho
      go_wp2_with fail
      refine (alive_any _).mono ?_; rintro x w4 ⟨rfl, hb4⟩
      go_wp2_with fail
      go_ret
      exact ⟨rfl, hb1.trans (hb4.mono hb1.size)⟩
  · have hr : makeR a' b' = (scriptS a' b', 0) := by unfold makeR; rw [if_neg hlong]
    have hlen := script_len a' b'
    have hd := script_does a' b'
    have hres := hd.apply (a := a') (b := b') (by omega) (by omega)
    have hnt := script_noTwo a' b'
    have htx : ∀ x ∈ scriptS a' b', x.text.length ≤ 1000 := by
      intro x hx
      have := does_text hd x hx
      omega
    rw [hr] at hm
    have HM := Lib.hid hm
    have HTX := Lib.hid htx
    have HRES := Lib.hid hres
    obtain ⟨L, hL⟩ : ∃ L, L = scriptS a' b' := ⟨_, rfl⟩
    rw [← hL] at HM HTX HRES hlen hnt
    have HNT := Lib.hid hnt
    simp only [] at HM
    have hll : L.length ≤ 2000 := by omega
    clear hm hr hd hres hnt htx hL hlen
    go_enter Try.func7, Try.ntmps7
    go_wp2_with fail
    refine HM.out.mono ?_; rintro x w1 ⟨v, rfl, ho, hb1⟩
    obtain ⟨A, c, hv, hc1, hc2, -⟩ := own_form ho
    subst hv
    have hap := papply_any a' A c L w1 (Rd.of_ownK ho) (by omega) ⟨hc1, by simpa [maxLen] using hc2⟩ (fun x hx => by have := HTX.out x hx; omega) (by omega)
    rw [HRES.out] at hap
    have HAP := Lib.hid hap
    have HO := Lib.hid ho
    clear hap ho hc1 hc2
    go_wp2_with fail
    refine HAP.out.mono ?_; rintro x w2 ⟨rfl, hb2⟩
    unfold resA
    have HO2 := Lib.hid (own_below HO.out hb2)
    have hB2 := hb1.trans (hb2.mono hb1.size)
    go_wp2_with fail
    go_loopw [9] (fun i wr => ∃ k n : Nat, i = .int .i64 ((k : Int) + 1) ∧ wr = w2.drewN n) (fun i _ => L.length - (intOf i).toNat)
    case atStart => exact ⟨0, 0, rfl, rfl⟩
    case round =>
      obtain ⟨k, n, rfl, rfl⟩ := hrel
      by_cases hlt : k + 1 < L.length
      · have hltI : (k : Int) + 1 < (L.length : Int) := by omega
        obtain ⟨q, hq⟩ := own_some HO2.out (by omega)
        subst hq
        obtain ⟨x, hx⟩ : ∃ x, L[k]? = some x := ⟨_, List.getElem?_eq_getElem (by omega)⟩
        obtain ⟨y, hy⟩ : ∃ y, L[k + 1]? = some y := ⟨_, List.getElem?_eq_getElem hlt⟩
        have c0 : w2.cell? ⟨q, k * 3, none⟩ = some (.int .i64 x.kind) := (HO2.out.cellAt (k * 3) (by omega)).trans ((ev_at L k 0 x hx (by omega)).trans rfl)
        have c1 : w2.cell? ⟨q, (k + 1) * 3, none⟩ = some (.int .i64 y.kind) := (HO2.out.cellAt ((k + 1) * 3) (by omega)).trans ((ev_at L (k + 1) 0 y hy (by omega)).trans rfl)
        have hne : (y.kind == x.kind) = false := by
          rw [beq_eq_false_iff_ne]
          exact fun e => HNT.out k x.kind y.kind (by rw [List.getElem?_map, hx]; rfl) (by rw [List.getElem?_map, hy]; rfl) e.symm
        have hw1 : IntKind.i64.wrap ((k : Int) + 1 - 1) = (k : Int) := by rw [IntWalk.i64_in _ (by omega)]; omega
        have ht1 : ((k : Int) + 1).toNat = k + 1 := by omega
        have hn0 : 0 ≤ (k : Int) + 1 := by omega
        have hltk : (k : Int) < (L.length : Int) := by omega
        clear hx hy
        go_wp2_with fail
        go_quiet (fail)
        go_wp2_with fail
        go_roundw
        case rel => exact ⟨k + 1, n + nq, by go_num, rfl⟩
        case measure => simp [intOf]; omega
      · have hltI : ¬ (k : Int) + 1 < (L.length : Int) := by omega
        have e1 : ((sB b').toList == (sB b').toList) = true := beq_self_eq_true _
        go_wp2_with fail
        refine (alive_any _).mono ?_; rintro x w6 ⟨rfl, hb6⟩
        go_wp2_with fail
        go_ret
        exact ⟨rfl, (below_drewN hB2 n).trans (hb6.mono hB2.size)⟩
end Go.Proofs.Ytmanafhdmijfeaa
