/- The contract of the document's Find. -/
import Derived.Test.YtjhakblijmaicaaDoorAt
namespace Go.Proofs.YtjhakblijmaicaaDoor
open Go Go.RowKit

/-- The world in the midst of the document's Find: the place that is looked for, and the one reached. -/
def findW (w : World) (x y a b : Nat) : World := (w.alloc (.cells #[.int .i64 (x : Int), .int .i64 (y : Int)] 26)).alloc (.cells #[.int .i64 (a : Int), .int .i64 (b : Int)] 26)

set_option maxHeartbeats 2000000 in
theorem refFind_any (s : ByteArray) (x y : Nat) (w : World) (hs : s.size ≤ 140737488351232) :
    Calls Tryd.prog 25 #[.string s, spotV x y] w fun e w' => FindV s (some (x, y)) e ∧ Below w.heap.size w w' := by
  have HL := Lib.hid (show s.data.toList.length = s.size by rw [Array.length_toList]; rfl)
  have HB := Lib.hid (fun o p => below2 w o p)
  go_enter Tryd.func25, Tryd.ntmps25
  go_wp2
  go_loopw [7] (fun i wr => ∃ k : Nat, k ≤ s.size + 1 ∧ i = .int .i64 k ∧ wr = findW w x y (Pos.pos (s.data.toList.take k)).1 (Pos.pos (s.data.toList.take k)).2 ∧ (∀ j, j < k → j ≤ s.size → Pos.pos (s.data.toList.take j) ≠ (x, y))) (fun i _ => s.size + 1 - (intOf i).toNat)
  case atStart => exact ⟨0, Nat.zero_le _, rfl, rfl, fun j hj => absurd hj (Nat.not_lt_zero _)⟩
  case round =>
    obtain ⟨k, hk, rfl, rfl, hn⟩ := hrel
    have HN := Lib.hid hn
    clear hn
    have hle := Pos.pos_take_le s k
    by_cases hlt : k ≤ s.size
    · by_cases hp : Pos.pos (s.data.toList.take k) = (x, y)
      · have HP := Lib.hid hp
        rw [hp]
        clear hp hle
        unfold findW
        go_wp2
        go_ret2
        exact ⟨Or.inl ⟨k, hlt, rfl, by rw [HP.out]⟩, HB.out _ _⟩
      · have HN' := Lib.hid (show ∀ j, j < k + 1 → j ≤ s.size → Pos.pos (s.data.toList.take j) ≠ (x, y) from fun j hj hjs => by
          by_cases e : j = k
          · subst e; exact hp
          · exact HN.out j (by omega) hjs)
        clear HN
        have hps : ((Pos.pos (s.data.toList.take k)).1 = x ∧ ¬ (Pos.pos (s.data.toList.take k)).2 = y) ∨ ¬ (Pos.pos (s.data.toList.take k)).1 = x := by
          by_cases e : (Pos.pos (s.data.toList.take k)).1 = x
          · exact Or.inl ⟨e, fun e2 => hp (by rw [← e, ← e2])⟩
          · exact Or.inr e
        clear hp
        by_cases hl2 : k < s.size
        · have HS := Lib.hid (Pos.pos_take_succ s k hl2)
          generalize Pos.pos (s.data.toList.take k) = p at *
          unfold findW
          by_cases hc : s[k] = 10
          · have hb := byte_ten hc
            have HQ := Lib.hid (show Pos.pos (s.data.toList.take (k + 1)) = (p.1 + 1, 0) by rw [HS.out]; unfold Pos.step; rw [if_pos hc])
            clear hc HS
            rcases hps with ⟨e1, e2⟩ | e1
            · have k1 : ((p.1 : Int) == x) = true := beq_iff_eq.2 (by omega)
              have k2 : ((p.2 : Int) == y) = false := beq_eq_false_iff_ne.2 (by omega)
              clear e1 e2
              go_wp2
              go_roundw
              case rel => exact ⟨k + 1, by omega, by go_num, by rw [HQ.out]; rfl, HN'.out⟩
              case measure => simp [intOf]; omega
            · have k1 : ((p.1 : Int) == x) = false := beq_eq_false_iff_ne.2 (by omega)
              clear e1
              go_wp2
              go_roundw
              case rel => exact ⟨k + 1, by omega, by go_num, by rw [HQ.out]; rfl, HN'.out⟩
              case measure => simp [intOf]; omega
          · have hb := byte_not_ten hc
            have HQ := Lib.hid (show Pos.pos (s.data.toList.take (k + 1)) = (p.1, p.2 + 1) by rw [HS.out]; unfold Pos.step; rw [if_neg hc])
            clear hc HS
            rcases hps with ⟨e1, e2⟩ | e1
            · have k1 : ((p.1 : Int) == x) = true := beq_iff_eq.2 (by omega)
              have k2 : ((p.2 : Int) == y) = false := beq_eq_false_iff_ne.2 (by omega)
              clear e1 e2
              go_wp2
              go_roundw
              case rel => exact ⟨k + 1, by omega, by go_num, by rw [HQ.out]; rfl, HN'.out⟩
              case measure => simp [intOf]; omega
            · have k1 : ((p.1 : Int) == x) = false := beq_eq_false_iff_ne.2 (by omega)
              clear e1
              go_wp2
              go_roundw
              case rel => exact ⟨k + 1, by omega, by go_num, by rw [HQ.out]; rfl, HN'.out⟩
              case measure => simp [intOf]; omega
        · obtain rfl : k = s.size := by omega
          have HQ := Lib.hid (show Pos.pos (s.data.toList.take (s.size + 1)) = Pos.pos (s.data.toList.take s.size) by
            rw [Pos.take_all, List.take_of_length_le (by rw [HL.out]; omega)])
          generalize Pos.pos (s.data.toList.take s.size) = p at *
          unfold findW
          rcases hps with ⟨e1, e2⟩ | e1
          · have k1 : ((p.1 : Int) == x) = true := beq_iff_eq.2 (by omega)
            have k2 : ((p.2 : Int) == y) = false := beq_eq_false_iff_ne.2 (by omega)
            clear e1 e2
            go_wp2
            go_roundw
            case rel => exact ⟨s.size + 1, by omega, by go_num, by rw [HQ.out], HN'.out⟩
            case measure => simp [intOf]
          · have k1 : ((p.1 : Int) == x) = false := beq_eq_false_iff_ne.2 (by omega)
            clear e1
            go_wp2
            go_roundw
            case rel => exact ⟨s.size + 1, by omega, by go_num, by rw [HQ.out], HN'.out⟩
            case measure => simp [intOf]
    · unfold findW
      go_wp2
      go_ret2
      exact ⟨Or.inr ⟨rfl, fun n hn h => HN.out n (by omega) hn (Option.some.inj h).symm⟩, HB.out _ _⟩
end Go.Proofs.YtjhakblijmaicaaDoor
