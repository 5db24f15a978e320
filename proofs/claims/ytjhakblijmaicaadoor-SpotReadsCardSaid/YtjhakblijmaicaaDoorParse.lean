/- The contracts of Cut at a colon, of Parse and of the numbers in it, of the program and of the document's answer. -/
import Derived.Test.YtjhakblijmaicaaDoorLess
import Derived.Test.YtjhakblijmaicaaDoorNum
namespace Go.Proofs.YtjhakblijmaicaaDoor
open Go Go.RowKit

theorem below_drewN {B : Nat} {a w : World} (h : Below B a w) (n : Nat) : Below B a (w.drewN n) := ⟨h.os, h.tape, h.output, h.size, h.block⟩

/-- What Cut at a colon tells. -/
def CutV (s : ByteArray) (e : Ending) : Prop :=
  (Lib.indexByte s.data.toList 58 = -1 ∧ e = .returned (.tuple #[.string s, .string ⟨#[]⟩, .bool false])) ∨
  (∃ i : Nat, Lib.indexByte s.data.toList 58 = i ∧ i < s.size ∧ e = .returned (.tuple #[.string (s.extract 0 i), .string (s.extract (i + 1) s.size), .bool true]))

set_option maxHeartbeats 1000000 in
theorem cut_lite (s : ByteArray) (w : World) (hs : s.size ≤ 140737488351232) :
    Calls Tryd.prog 52 #[.string s, .string ⟨#[58]⟩] w fun e w' => CutV s e ∧ ∃ n, w.drewN n = w' := by
  have C := Lib.hid (fun w => Tryd.stringslite_Index_one s 58 w)
  have hlen : s.data.toList.length = s.size := by rw [Array.length_toList]; rfl
  by_cases hi : Lib.indexByte s.data.toList 58 = -1
  · have HI := Lib.hid hi
    clear hi hlen
    go_enter Tryd.func52, Tryd.ntmps52
    go_wp2_with fail
    refine (C.out _).mono ?_; rintro e w1 ⟨rfl, rfl⟩
    rw [HI.out]
    go_wp2
    go_ret3
    exact ⟨Or.inl ⟨HI.out, rfl⟩, 0, rfl⟩
  · obtain ⟨i, ho⟩ := Int.eq_ofNat_of_zero_le (show 0 ≤ Lib.indexByte s.data.toList 58 by have := Lib.indexByte_ge s.data.toList 58; omega)
    obtain ⟨g1, -⟩ := Lib.indexByte_some ho
    have hil : i < s.data.toList.length := (List.getElem?_eq_some_iff.1 g1).1
    rw [hlen] at hil
    have HO := Lib.hid ho
    clear g1 ho hi hlen
    go_enter Tryd.func52, Tryd.ntmps52
    go_wp2_with fail
    refine (C.out _).mono ?_; rintro e w1 ⟨rfl, rfl⟩
    rw [HO.out]
    go_wp2
    go_quiet (fail)
    go_wp2
    go_ret3
    exact ⟨Or.inr ⟨i, HO.out, hil, rfl⟩, nq, rfl⟩

set_option maxHeartbeats 1000000 in
theorem cut_any (s : ByteArray) (w : World) (hs : s.size ≤ 140737488351232) :
    Calls Tryd.prog 40 #[.string s, .string ⟨#[58]⟩] w fun e w' => CutV s e ∧ ∃ n, w.drewN n = w' := by
  go_enter Tryd.func40, Tryd.ntmps40
  go_wp2_with fail
  refine (cut_lite s _ hs).mono ?_; rintro e w1 ⟨hv, n, rfl⟩
  rcases hv with ⟨hi, rfl⟩ | ⟨i, hi, hl, rfl⟩
  · have HI := Lib.hid hi
    clear hi
    go_wp2
    go_ret3
    exact ⟨Or.inl ⟨HI.out, rfl⟩, n, rfl⟩
  · have HI := Lib.hid hi
    clear hi
    go_wp2
    go_ret3
    exact ⟨Or.inr ⟨i, HI.out, hl, rfl⟩, n, rfl⟩

/-- What parsePart tells. -/
def PartV (o : Option Nat) (e : Ending) : Prop :=
  match o with
  | some n => e = .returned (.tuple #[.float .f64 (Fl.FN n), .bool true])
  | none => e = .returned (.tuple #[.float .f64 0, .bool false])

theorem data_at (s : ByteArray) (k : Nat) (h : k < s.size) : s.data.toList[k]? = some s[k] := by
  rw [List.getElem?_eq_getElem (by simpa using h)]; rfl

theorem head_at (s : ByteArray) (h : 0 < s.size) : s.data.toList.head? = some s[0] := by
  rw [List.head?_eq_getElem?]; exact data_at s 0 h

theorem byte_lt (c : UInt8) : (c.toNat : Int) < 256 := by have := c.toNat_lt; omega

/-- A byte is a digit, or below them, or above them. -/
theorem dig_cases (c : UInt8) : (Num.dig c = true ∧ 48 ≤ (c.toNat : Int) ∧ (c.toNat : Int) ≤ 57) ∨ (Num.dig c = false ∧ (c.toNat : Int) < 48) ∨ (Num.dig c = false ∧ 48 ≤ (c.toNat : Int) ∧ 57 < (c.toNat : Int)) := by
  unfold Num.dig
  simp only [decide_eq_true_eq, decide_eq_false_iff_not]
  omega

set_option maxRecDepth 100000 in
set_option maxHeartbeats 2000000 in
theorem parsePart_any (s : ByteArray) (w : World) (hs : s.size ≤ 140737488351232) :
    Calls Tryd.prog 41 #[.string s] w fun e w' => PartV (Num.numO s.data.toList) e ∧ w = w' := by
  have hlen : s.data.toList.length = s.size := by rw [Array.length_toList]; rfl
  by_cases h0 : s.data.toList = []
  · have HN := Lib.hid (show Num.numO s.data.toList = none by rw [h0]; rfl)
    have he : s.toList.isEmpty = true := by rw [Lib.toList_data, h0]; rfl
    clear h0 hlen
    go_enter Tryd.func41, Tryd.ntmps41
    go_wp2
    go_ret2
    exact ⟨by rw [HN.out]; exact rfl, rfl⟩
  · have hpos : 0 < s.size := by rw [← hlen]; exact List.length_pos_iff.2 h0
    have he : s.toList.isEmpty = false := by rw [Lib.toList_data]; simpa using h0
    have hh := head_at s hpos
    by_cases hz : s[0] = 48 ∧ s.size ≠ 1
    · have HN := Lib.hid (Num.numO_zero s.data.toList (by rw [hh, hz.1]) (by rw [hlen]; exact hz.2))
      have k1 : ((s[0].toNat : Int) == 48) = true := by rw [hz.1]; rfl
      have k2 : (!s.toList == [48]) = true := by
        rw [Lib.toList_data]
        simp only [Bool.not_eq_true', beq_eq_false_iff_ne]
        intro e
        have := congrArg List.length e
        rw [hlen] at this
        exact hz.2 this
      clear hz hh h0 hlen
      go_enter Tryd.func41, Tryd.ntmps41
      go_wp2
      go_ret2
      exact ⟨by rw [HN.out]; exact rfl, rfl⟩
    · have HZ := Lib.hid (show s.data.toList.head? ≠ some 48 ∨ s.data.toList.length = 1 by
        rw [hh, hlen]
        by_cases e : s[0] = 48
        · exact Or.inr (by
            by_cases e2 : s.size = 1
            · exact e2
            · exact absurd ⟨e, e2⟩ hz)
        · exact Or.inl (fun h => e (Option.some.inj h)))
      have H0 := Lib.hid h0
      have HL := Lib.hid hlen
      have kk : ((s[0].toNat : Int) == 48) = false ∨ ((s[0].toNat : Int) == 48) = true ∧ (!s.toList == [48]) = false := by
        by_cases e : s[0] = 48
        · have e2 : s.size = 1 := by
            by_cases e2 : s.size = 1
            · exact e2
            · exact absurd ⟨e, e2⟩ hz
          refine Or.inr ⟨by rw [e]; rfl, ?_⟩
          rw [Lib.toList_data]
          have : s.data.toList = [48] := by
            apply List.ext_getElem?
            intro i
            by_cases hi : i = 0
            · subst hi; rw [data_at s 0 hpos, e]; rfl
            · rw [List.getElem?_eq_none (by omega), List.getElem?_eq_none (by simp; omega)]
          rw [this]; rfl
        · exact Or.inl (by
            rw [beq_eq_false_iff_ne]
            intro h
            exact e (UInt8.toNat_inj.1 (by have : s[0].toNat = 48 := by omega
                                           rw [this]; rfl)))
      clear hz hh h0 hlen
      go_enter Tryd.func41, Tryd.ntmps41
      rcases kk with k1 | ⟨k1, k2⟩
      all_goals
        go_wp2
        go_loop [4, 19] (fun nv iv => ∃ k n : Nat, k ≤ s.size ∧ iv = .int .i64 k ∧ nv = .int .i64 n ∧ n ≤ 1125899906842624 ∧ Num.numV (s.data.toList.take k) = n ∧ ∀ j c, j < k → s.data.toList[j]? = some c → Num.dig c = true) (fun _ iv => s.size - (intOf iv).toNat)
        case atStart => exact ⟨0, 0, Nat.zero_le _, rfl, rfl, Nat.zero_le _, rfl, fun j _ hj => absurd hj (Nat.not_lt_zero _)⟩
        case round =>
          obtain ⟨k, n, hk, rfl, rfl, hn, hv, hd⟩ := hrel
          have HV := Lib.hid hv
          have HD := Lib.hid hd
          clear hv hd
          by_cases hlt : k < s.size
          · have HA := Lib.hid (data_at s k hlt)
            have HS := Lib.hid (Num.numV_take_succ s.data.toList k _ (data_at s k hlt))
            have hb := byte_lt s[k]
            rcases dig_cases s[k] with ⟨g, g1, g2⟩ | ⟨g, g1⟩ | ⟨g, g1, g2⟩
            · have HG := Lib.hid g
              clear g
              go_wp2
              · have hm : 1125899906842624 < (n : Int) * 10 + ((s[k].toNat : Int) - 48) := by assumption
                have HN := Num.numO_great s.data.toList (k + 1) (by rw [HS.out, HV.out]; unfold Num.most; omega)
                go_ret2
                exact ⟨by rw [HN]; exact rfl, rfl⟩
              · have hm : (n : Int) * 10 + ((s[k].toNat : Int) - 48) ≤ 1125899906842624 := by assumption
                go_round
                case rel => exact ⟨k + 1, n * 10 + (s[k].toNat - 48), by omega, by go_num, by congr 1; omega, by omega, by rw [HS.out, HV.out], fun j c hj hc => by
                  by_cases e : j = k
                  · subst e; rw [HA.out] at hc; rw [← Option.some.inj hc]; exact HG.out
                  · exact HD.out j c (by omega) hc⟩
                case measure => simp [intOf]; omega
            · have HN := Lib.hid (Num.numO_nondig _ _ _ HA.out g)
              clear g
              go_wp2
              go_ret2
              exact ⟨by rw [HN.out]; exact rfl, rfl⟩
            · have HN := Lib.hid (Num.numO_nondig _ _ _ HA.out g)
              clear g
              go_wp2
              go_ret2
              exact ⟨by rw [HN.out]; exact rfl, rfl⟩
          · obtain rfl : k = s.size := by omega
            have hv := HV.out
            rw [List.take_of_length_le (by rw [HL.out]; exact Nat.le_refl _)] at hv
            have HN := Lib.hid (Num.numO_some s.data.toList H0.out (fun j c hc => HD.out j c (by rw [← HL.out]; exact (List.getElem?_eq_some_iff.1 hc).1) hc) HZ.out (by rw [hv]; exact hn))
            have HF := Lib.hid (floatOfInt_FN n)
            have HV2 := Lib.hid hv
            clear hv
            go_wp2
            go_ret2
            exact ⟨by rw [HN.out, HV2.out]; show Ending.returned _ = Ending.returned _; rw [← HF.out]; rfl, rfl⟩
end Go.Proofs.YtjhakblijmaicaaDoor
