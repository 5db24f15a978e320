/- The contracts of Parse, of the program and of the document's answer. -/
import Derived.Test.YtjhakblijmaicaaDoorParse
import Derived.Test.YtjhakblijmaicaaDoorAt
namespace Go.Proofs.YtjhakblijmaicaaDoor
open Go Go.RowKit

/-- What Parse tells: the words of a spot's two parts; or nothing. -/
def ParseV (o : Option (Nat × Nat)) (e : Ending) : Prop :=
  match o with
  | some p => e = .returned (.tuple #[.complex .f64 (Fl.FN p.1) (Fl.FN p.2), .bool true])
  | none => e = .returned (.tuple #[.complex .f64 0 0, .bool false])

theorem empty_toList : (⟨#[]⟩ : ByteArray).data.toList = [] := rfl

set_option maxRecDepth 100000 in
set_option maxHeartbeats 2000000 in
theorem parse_any (s : ByteArray) (w : World) (hs : s.size ≤ 140737488351232) :
    Calls Tryd.prog 29 #[.string s] w fun e w' => ParseV (Num.parseO s.data.toList) e ∧ ∃ n, w.drewN n = w' := by
  go_enter Tryd.func29, Tryd.ntmps29
  go_wp2_with fail
  refine (cut_any s _ hs).mono ?_; rintro e w1 ⟨hv, n, rfl⟩
  rcases hv with ⟨hi, rfl⟩ | ⟨i, hi, hl, rfl⟩
  · have HP := Lib.hid (Num.parseO_none _ hi)
    clear hi
    go_wp2
    go_ret2
    exact ⟨by rw [HP.out]; exact rfl, n, rfl⟩
  · have HP := Lib.hid (Num.parseO_at _ i hi)
    have E1 := Lib.hid (Pos.extract_take s i)
    have E2 := Lib.hid (Pos.extract_drop s (i + 1))
    clear hi
    go_wp2_with fail
    refine (parsePart_any (s.extract 0 i) _ (by have := extract_size_le s 0 i; omega)).mono ?_; rintro e w2 ⟨hv, rfl⟩
    rw [E1.out] at hv
    cases ha : Num.numO (s.data.toList.take i) with
    | none =>
      rw [ha] at hv
      obtain rfl := hv
      have HA := Lib.hid ha
      clear ha
      go_wp2
      go_ret2
      exact ⟨by rw [HP.out, HA.out]; exact rfl, n, rfl⟩
    | some a =>
      rw [ha] at hv
      obtain rfl := hv
      have HA := Lib.hid ha
      clear ha
      go_wp2_with fail
      refine (parsePart_any (s.extract (i + 1) s.size) _ (by have := extract_size_le s (i + 1) s.size; omega)).mono ?_; rintro e w2 ⟨hv, rfl⟩
      rw [E2.out] at hv
      cases hb : Num.numO (s.data.toList.drop (i + 1)) with
      | none =>
        rw [hb] at hv
        obtain rfl := hv
        have HB := Lib.hid hb
        clear hb
        go_wp2
        go_ret2
        exact ⟨by rw [HP.out, HA.out, HB.out]; exact rfl, n, rfl⟩
      | some b =>
        rw [hb] at hv
        obtain rfl := hv
        have HB := Lib.hid hb
        clear hb
        go_wp2
        go_ret2
        exact ⟨by rw [HP.out, HA.out, HB.out]; exact rfl, n, rfl⟩

/-- What the document's number tells. -/
def NumberV (o : Option Nat) (e : Ending) : Prop :=
  match o with
  | some n => e = .returned (.tuple #[.int .i64 n, .bool true])
  | none => ∃ n : Nat, e = .returned (.tuple #[.int .i64 n, .bool false])

set_option maxRecDepth 100000 in
set_option maxHeartbeats 2000000 in
theorem number_any (s : ByteArray) (w : World) (hs : s.size ≤ 140737488351232) :
    Calls Tryd.prog 42 #[.string s] w fun e w' => NumberV (Num.numO s.data.toList) e ∧ w = w' := by
  have hlen : s.data.toList.length = s.size := by rw [Array.length_toList]; rfl
  have HL := Lib.hid hlen
  clear hlen
  go_enter Tryd.func42, Tryd.ntmps42
  go_wp2
  go_loop [4, 5] (fun nv iv => ∃ k n : Nat, k ≤ s.size ∧ iv = .int .i64 k ∧ nv = .int .i64 n ∧ n ≤ 11258999068426249 ∧ Num.numV (s.data.toList.take k) = n ∧ ∀ j c, j < k → s.data.toList[j]? = some c → Num.dig c = true) (fun _ iv => s.size - (intOf iv).toNat)
  case atStart => exact ⟨0, 0, Nat.zero_le _, rfl, rfl, Nat.zero_le _, rfl, fun j _ hj => absurd hj (Nat.not_lt_zero _)⟩
  case round =>
    obtain ⟨k, n, hk, rfl, rfl, hn, hv, hd⟩ := hrel
    have HV := Lib.hid hv
    have HD := Lib.hid hd
    clear hv hd
    by_cases hlt : k < s.size
    · have HA := Lib.hid (data_at s k hlt)
      have HS := Lib.hid (Num.numV_take_succ s.data.toList k _ (data_at s k hlt))
      have hb := byte_lt s[k]
      rcases dig_cases s[k] with ⟨g, g1, g2⟩ | ⟨g, g1⟩ | ⟨g, g1, g2⟩
      · have HG := Lib.hid g
        clear g
        by_cases hm : n ≤ 1125899906842624
        · go_wp2
          go_round
          case rel => exact ⟨k + 1, n * 10 + (s[k].toNat - 48), by omega, by go_num, by congr 1; omega, by omega, by rw [HS.out, HV.out], fun j c hj hc => by
            by_cases e : j = k
            · subst e; rw [HA.out] at hc; rw [← Option.some.inj hc]; exact HG.out
            · exact HD.out j c (by omega) hc⟩
          case measure => simp [intOf]; omega
        · have hm' : 1125899906842624 < (n : Int) := by omega
          have HN := Lib.hid (Num.numO_great s.data.toList k (by rw [HV.out]; unfold Num.most; omega))
          go_wp2
          go_ret2
          exact ⟨by rw [HN.out]; exact ⟨0, rfl⟩, rfl⟩
      · have HN := Lib.hid (Num.numO_nondig _ _ _ HA.out g)
        clear g
        go_wp2
        go_ret2
        exact ⟨by rw [HN.out]; exact ⟨0, rfl⟩, rfl⟩
      · have HN := Lib.hid (Num.numO_nondig _ _ _ HA.out g)
        clear g
        go_wp2
        go_ret2
        exact ⟨by rw [HN.out]; exact ⟨0, rfl⟩, rfl⟩
    · obtain rfl : k = s.size := by omega
      have hv := HV.out
      rw [List.take_of_length_le (by rw [HL.out]; exact Nat.le_refl _)] at hv
      have HV2 := Lib.hid hv
      clear hv hlt
      by_cases h0 : s.size = 0
      · have HN := Lib.hid (show Num.numO s.data.toList = none by rw [List.length_eq_zero_iff.1 (HL.out.trans h0)]; rfl)
        have hz : ¬ 0 < s.size := by omega
        clear h0
        go_wp2
        go_ret2
        exact ⟨by rw [HN.out]; exact ⟨n, rfl⟩, rfl⟩
      · have hpos : 0 < s.size := by omega
        by_cases hm : n ≤ 1125899906842624
        · have hh := head_at s hpos
          by_cases hz : s[0] = 48 ∧ s.size ≠ 1
          · have HN := Lib.hid (Num.numO_zero s.data.toList (by rw [hh, hz.1]) (by rw [HL.out]; exact hz.2))
            have k1 : ((s[0].toNat : Int) != 48) = false := by rw [hz.1]; rfl
            have k2 : ((s.size : Int) == 1) = false := beq_eq_false_iff_ne.2 (by omega)
            clear hz hh h0
            go_wp2
            go_ret2
            exact ⟨by rw [HN.out]; exact ⟨n, rfl⟩, rfl⟩
          · have hd' : ∀ (j : Nat) (c : UInt8), s.data.toList[j]? = some c → Num.dig c = true := fun j c hc => HD.out j c (by rw [← HL.out]; exact (List.getElem?_eq_some_iff.1 hc).1) hc
            have hhead : s.data.toList.head? ≠ some 48 ∨ s.data.toList.length = 1 := by
              rw [hh, HL.out]
              by_cases e : s[0] = 48
              · exact Or.inr (by
                  by_cases e2 : s.size = 1
                  · exact e2
                  · exact absurd ⟨e, e2⟩ hz)
              · exact Or.inl (fun h => e (Option.some.inj h))
            have HN := Lib.hid (Num.numO_some s.data.toList (fun e => h0 (by rw [← HL.out, e]; rfl)) hd' hhead (by rw [HV2.out]; exact hm))
            by_cases e : s[0] = 48
            · have e2 : s.size = 1 := by
                by_cases e2 : s.size = 1
                · exact e2
                · exact absurd ⟨e, e2⟩ hz
              have k1 : ((s[0].toNat : Int) != 48) = false := by rw [e]; rfl
              have k2 : ((s.size : Int) == 1) = true := beq_iff_eq.2 (by omega)
              clear hz hh h0 hd' hhead e e2
              go_wp2
              go_ret2
              exact ⟨by rw [HN.out, HV2.out]; exact rfl, rfl⟩
            · have k1 : ((s[0].toNat : Int) != 48) = true := by
                rw [bne_iff_ne]
                intro h
                exact e (UInt8.toNat_inj.1 (by have : s[0].toNat = 48 := by omega
                                               rw [this]; rfl))
              clear hz hh h0 hd' hhead e
              go_wp2
              go_ret2
              exact ⟨by rw [HN.out, HV2.out]; exact rfl, rfl⟩
        · have hm' : 1125899906842624 < (n : Int) := by omega
          have HN := Lib.hid (Num.numO_great s.data.toList s.size (by rw [HV.out]; unfold Num.most; omega))
          clear h0
          go_wp2
          go_ret2
          exact ⟨by rw [HN.out]; exact ⟨n, rfl⟩, rfl⟩
end Go.Proofs.YtjhakblijmaicaaDoor
