/- The document's Check. -/
import Derived.Test.YtebfocfeehajjaaRWrong
namespace Go.Proofs.Ytebfocfeehajjaa
open Go Go.RowKit

theorem bne_zero' {n : Nat} (h : n ≠ 0) : ((n : Int) != 0) = true := by rw [bne_iff_ne]; omega
set_option maxRecDepth 100000 in
set_option maxHeartbeats 4000000 in
theorem rcheck_any (ll : List (Nod × Option Addr × Nat)) (A : Option Addr) (c BB : Nat) (w : World) (hN : NIn w ll) (hR : Rd w BB A (ll.length * 33) (rows nC ll)) (hB : BB ≤ w.heap.size) (hl : ll.length * 56 ≤ 140737488351232) (hcp : ll.length ≤ c ∧ c ≤ 9223372036854775807) :
    Calls Try.prog 15 #[.slice A ll.length c] w fun e w' => e = .returned (.tuple #[.int .i64 ((chk (nsOf ll)).1 : Int), .int .i64 ((chk (nsOf ll)).2 : Int)]) ∧ Below w.heap.size w w' := by
  have HN := Lib.hid hN
  have HR := Lib.hid hR
  have HB := Lib.hid hB
  have HLN := Lib.hid (show (nsOf ll).length = ll.length by unfold nsOf; rw [List.length_map])
  clear hN hR hB
  by_cases h200 : 200 < ll.length
  · have HCH := Lib.hid (show chk (nsOf ll) = (0, 4) by unfold chk; rw [HLN.out, if_pos h200])
    have d8 : (200 : Int) < (ll.length : Int) := by omega
    clear h200
    go_enter Try.func15, Try.ntmps15
    go_wp2_with fail
    go_ret2
    exact ⟨by rw [HCH.out]; rfl, Below.refl _ _⟩
  have HCH := Lib.hid (show chk (nsOf ll) = chkGo [] (nsOf ll) by unfold chk; rw [HLN.out, if_neg h200])
  have d8 : ¬ (200 : Int) < (ll.length : Int) := by omega
  go_enter Try.func15, Try.ntmps15
  go_wp2_with fail
  go_loopw [4] (fun iv wr => ∃ i : Nat, iv = .int .i64 (i : Int) ∧ i ≤ ll.length ∧ Hid (chkGo [] (nsOf ll) = chkGo ((Gr.idsOf (nsOf ll)).take i) ((nsOf ll).drop i)) ∧ Below w.heap.size w wr) (fun iv _ => ll.length - (intOf iv).toNat)
  case atStart => exact ⟨0, rfl, Nat.zero_le _, rfl, Below.refl _ _⟩
  case round =>
    obtain ⟨i, rfl, hi, HG, hb⟩ := hrel
    have HBl := Lib.hid hb
    clear hb
    by_cases hlt : i < ll.length
    · have hltI : (i : Int) < (ll.length : Int) := by omega
      obtain ⟨⟨x, Ax, cx⟩, hx⟩ : ∃ t, ll[i]? = some t := ⟨_, List.getElem?_eq_getElem hlt⟩
      have HC := Lib.hid (rwrong_any ll A c i x Ax cx BB wr (HN.out.later HBl.out) (HR.out.below (HBl.out.mono HB.out)) (Nat.le_trans HB.out HBl.out.size) hl hcp hx)
      have hnx : (nsOf ll)[i]? = some x := by unfold nsOf; rw [List.getElem?_map, hx]; rfl
      have hit : ((Gr.idsOf (nsOf ll)).take i).length = i := by rw [List.length_take, Gr.ids_len, HLN.out]; omega
      have HGO := Lib.hid (show chkGo [] (nsOf ll) = if wrongN ((Gr.idsOf (nsOf ll)).take i) x ≠ 0 then (i, wrongN ((Gr.idsOf (nsOf ll)).take i) x) else chkGo ((Gr.idsOf (nsOf ll)).take (i + 1)) ((nsOf ll).drop (i + 1)) by
        have e : (nsOf ll)[i]'(by rw [HLN.out]; exact hlt) = x := by have h := hnx; rw [List.getElem?_eq_getElem (by rw [HLN.out]; exact hlt)] at h; exact Option.some.inj h
        rw [HG.out, List.drop_eq_getElem_cons (by rw [HLN.out]; exact hlt), chkGo, e, hit, take_snoc (Gr.ids_at hnx)])
      obtain ⟨e, he⟩ : ∃ e, e = wrongN ((Gr.idsOf (nsOf ll)).take i) x := ⟨_, rfl⟩
      rw [← he] at HC HGO
      clear hx hnx hit he HG
      go_wp2_with fail
      refine HC.out.mono ?_; rintro e' w' ⟨rfl, hb⟩
      have HBz := Lib.hid (HBl.out.trans (hb.mono HBl.out.size))
      clear hb HC
      by_cases he0 : e = 0
      · subst he0
        have hz : ((↑(0 : Nat) : Int) != 0) = false := rfl
        go_wp2_with fail
        go_roundw
        case rel =>
          refine ⟨i + 1, by go_num, by omega, Lib.hid ?_, HBz.out⟩
          rw [HGO.out, if_neg (by simp)]
        case measure => simp [intOf] <;> omega
      · have hz := bne_zero' he0
        rw [if_pos he0] at HGO
        clear he0
        go_wp2_with fail
        go_ret2
        exact ⟨by rw [HCH.out, HGO.out]; rfl, HBz.out⟩
    · have hltI : ¬ (i : Int) < (ll.length : Int) := by omega
      obtain rfl : i = ll.length := by omega
      have HG2 := Lib.hid (show chkGo [] (nsOf ll) = (0, 0) by rw [HG.out, List.drop_eq_nil_of_le (by rw [HLN.out]; exact Nat.le_refl _)]; rfl)
      clear HG
      go_wp2_with fail
      go_ret2
      exact ⟨by rw [HCH.out, HG2.out]; rfl, HBl.out⟩
end Go.Proofs.Ytebfocfeehajjaa
