/- The contracts of the document's Parse, of its digits and its Text, and of the program's Text at every spot. -/
import Derived.Test.YtjhakblijmaicaaDoorParseR
namespace Go.Proofs.YtjhakblijmaicaaDoor
open Go Go.RowKit

theorem indexByte_at {l : List UInt8} {c : UInt8} {k : Nat} (h1 : l[k]? = some c) (h2 : ∀ j, j < k → l[j]? ≠ some c) : Lib.indexByte l c = k := by
  by_cases hi : Lib.indexByte l c = -1
  · exact absurd h1 (Lib.indexByte_none hi k)
  · obtain ⟨o, ho⟩ := Int.eq_ofNat_of_zero_le (show 0 ≤ Lib.indexByte l c by have := Lib.indexByte_ge l c; omega)
    obtain ⟨g1, g2⟩ := Lib.indexByte_some ho
    rcases Nat.lt_trichotomy o k with h | h | h
    · exact absurd g1 (h2 o h)
    · rw [ho, h]
    · exact absurd h1 (g2 k h)

theorem indexByte_no {l : List UInt8} {c : UInt8} (h : ∀ j : Nat, l[j]? ≠ some c) : Lib.indexByte l c = -1 := by
  by_cases hi : Lib.indexByte l c = -1
  · exact hi
  · obtain ⟨o, ho⟩ := Int.eq_ofNat_of_zero_le (show 0 ≤ Lib.indexByte l c by have := Lib.indexByte_ge l c; omega)
    exact absurd (Lib.indexByte_some ho).1 (h o)

/-- What the document's Parse tells. -/
def refParseV (o : Option (Nat × Nat)) : Value :=
  match o with
  | some p => .tuple #[spotV p.1 p.2, .bool true]
  | none => .tuple #[spotV 0 0, .bool false]

set_option maxRecDepth 100000 in
set_option maxHeartbeats 2000000 in
theorem refParse_any (s : ByteArray) (w : World) (hs : s.size ≤ 140737488351232) :
    Calls Tryd.prog 30 #[.string s] w (Ret (refParseV (Num.parseO s.data.toList)) w) := by
  have HL := Lib.hid (show s.data.toList.length = s.size by rw [Array.length_toList]; rfl)
  have HB := Lib.hid (fun o => (Below.refl w.heap.size w).alloc (Nat.le_refl _) o)
  go_enter Tryd.func30, Tryd.ntmps30
  go_wp2
  go_loop [4] (fun iv => ∃ k : Nat, k ≤ s.size ∧ iv = .int .i64 k ∧ ∀ j, j < k → s.data.toList[j]? ≠ some 58) (fun iv => s.size - (intOf iv).toNat)
  case atStart => exact ⟨0, Nat.zero_le _, rfl, fun j hj => absurd hj (Nat.not_lt_zero _)⟩
  case round =>
    obtain ⟨k, hk, rfl, hn⟩ := hrel
    have HN := Lib.hid hn
    clear hn
    by_cases hlt : k < s.size
    · have HA := Lib.hid (data_at s k hlt)
      by_cases hc : s[k] = 58
      · have k1 : ((s[k].toNat : Int) == 58) = true := by rw [hc]; rfl
        have HP := Lib.hid (Num.parseO_at _ k (indexByte_at (by rw [HA.out, hc]) HN.out))
        have E1 := Lib.hid (Pos.extract_take s k)
        have E2 := Lib.hid (Pos.extract_drop s (k + 1))
        clear hc
        go_wp2_with fail
        refine (number_any (s.extract 0 k) _ (by have := extract_size_le s 0 k; omega)).mono ?_; rintro e w2 ⟨hv, rfl⟩
        rw [E1.out] at hv
        cases ha : Num.numO (s.data.toList.take k) with
        | none =>
          rw [ha] at hv
          obtain ⟨n1, rfl⟩ := hv
          have HA2 := Lib.hid ha
          clear ha
          go_wp2_with fail
          refine (number_any (s.extract (k + 1) s.size) _ (by have := extract_size_le s (k + 1) s.size; omega)).mono ?_; rintro e w2 ⟨hv, rfl⟩
          have hv2 : ∃ (n2 : Nat) (b : Bool), e = .returned (.tuple #[.int .i64 n2, .bool b]) := by
            cases hb : Num.numO (s.extract (k + 1) s.size).data.toList with
            | none => rw [hb] at hv; obtain ⟨n2, rfl⟩ := hv; exact ⟨n2, false, rfl⟩
            | some n2 => rw [hb] at hv; exact ⟨n2, true, hv⟩
          obtain ⟨n2, b, rfl⟩ := hv2
          clear hv
          go_wp2
          refine bodyPost_ret (v := refParseV (Num.parseO s.data.toList)) (by rw [HP.out, HA2.out]; simp [results, Tryd.results30, go_sem, refParseV]) rfl ⟨rfl, HB.out _⟩
        | some a =>
          rw [ha] at hv
          obtain rfl := hv
          have HA2 := Lib.hid ha
          clear ha
          go_wp2_with fail
          refine (number_any (s.extract (k + 1) s.size) _ (by have := extract_size_le s (k + 1) s.size; omega)).mono ?_; rintro e w2 ⟨hv, rfl⟩
          rw [E2.out] at hv
          cases hb : Num.numO (s.data.toList.drop (k + 1)) with
          | none =>
            rw [hb] at hv
            obtain ⟨n2, rfl⟩ := hv
            have HB2 := Lib.hid hb
            clear hb
            go_wp2
            refine bodyPost_ret (v := refParseV (Num.parseO s.data.toList)) (by rw [HP.out, HA2.out, HB2.out]; simp [results, Tryd.results30, go_sem, refParseV]) rfl ⟨rfl, HB.out _⟩
          | some b =>
            rw [hb] at hv
            obtain rfl := hv
            have HB2 := Lib.hid hb
            clear hb
            go_wp2
            refine bodyPost_ret (v := refParseV (Num.parseO s.data.toList)) (by rw [HP.out, HA2.out, HB2.out]; simp [results, Tryd.results30, go_sem, refParseV]) rfl ⟨rfl, HB.out _⟩
      · have k1 : ((s[k].toNat : Int) == 58) = false := by
          rw [beq_eq_false_iff_ne]
          intro h
          exact hc (UInt8.toNat_inj.1 (by have : s[k].toNat = 58 := by omega
                                          rw [this]; rfl))
        have HC := Lib.hid hc
        clear hc
        go_wp2
        go_round
        case rel => exact ⟨k + 1, by omega, by go_num, fun j hj => by
          by_cases e : j = k
          · subst e; rw [HA.out]; exact fun h => HC.out (Option.some.inj h)
          · exact HN.out j (by omega)⟩
        case measure => simp [intOf]; omega
    · obtain rfl : k = s.size := by omega
      have HP := Lib.hid (Num.parseO_none _ (indexByte_no (fun j h => by
        have hj : j < s.size := by rw [← HL.out]; exact (List.getElem?_eq_some_iff.1 h).1
        exact HN.out j hj h)))
      go_wp2
      refine bodyPost_ret (v := refParseV (Num.parseO s.data.toList)) (by rw [HP.out]; simp [results, Tryd.results30, go_sem, refParseV]) rfl ⟨rfl, HB.out _⟩
end Go.Proofs.YtjhakblijmaicaaDoor
