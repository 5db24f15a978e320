/- SpotOf: the end of any text is where the document's answer says. No conditions but the row's own. -/
import Derived.Test.YtjhakblijmaicaaDoorLess
namespace Go.Proofs.YtjhakblijmaicaaDoor
open Go Go.RowKit

theorem byte_ten {c : UInt8} (h : c = 10) : ((c.toNat : Int) == 10) = true := by rw [h]; rfl
theorem byte_not_ten {c : UInt8} (h : ¬ c = 10) : ((c.toNat : Int) == 10) = false := by
  have : ¬ (c.toNat : Int) = 10 := fun e => h (UInt8.toNat_inj.1 (by have : c.toNat = 10 := by omega
                                                                     rw [this]; rfl))
  simpa using this

/-- The world in the midst of the document's Of: its result's cells, its own place. -/
def ofW (w : World) (a b : Nat) : World := (w.alloc (.cells #[.int .i64 0, .int .i64 0] 26)).alloc (.cells #[.int .i64 (a : Int), .int .i64 (b : Int)] 26)

set_option maxHeartbeats 1000000 in
theorem refOf_any (s : ByteArray) (w : World) (hs : s.size ≤ 1125899906842624) :
    Calls Tryd.prog 17 #[.string s] w (Ret (spotV (Pos.pos s.data.toList).1 (Pos.pos s.data.toList).2) w) := by
  go_enter Tryd.func17, Tryd.ntmps17
  go_wp2
  go_loopw [4] (fun i wr => ∃ k : Nat, k ≤ s.size ∧ i = .int .i64 k ∧ wr = ofW w (Pos.pos (s.data.toList.take k)).1 (Pos.pos (s.data.toList.take k)).2) (fun i _ => s.size - (intOf i).toNat)
  case atStart => exact ⟨0, Nat.zero_le _, rfl, rfl⟩
  case round =>
    obtain ⟨k, hk, rfl, rfl⟩ := hrel
    have hle := Pos.pos_take_le s k
    by_cases hlt : k < s.size
    · have HS := Lib.hid (Pos.pos_take_succ s k hlt)
      generalize hp : Pos.pos (s.data.toList.take k) = p at *
      clear hp
      unfold ofW
      by_cases hc : s[k] = 10
      · have hb := byte_ten hc
        have HQ := Lib.hid (show Pos.pos (s.data.toList.take (k + 1)) = (p.1 + 1, 0) by rw [HS.out]; unfold Pos.step; rw [if_pos hc])
        clear hc HS
        go_wp2
        go_roundw
        case rel => exact ⟨k + 1, by omega, by go_num, by rw [HQ.out]; rfl⟩
        case measure => simp [intOf]; omega
      · have hb := byte_not_ten hc
        have HQ := Lib.hid (show Pos.pos (s.data.toList.take (k + 1)) = (p.1, p.2 + 1) by rw [HS.out]; unfold Pos.step; rw [if_neg hc])
        clear hc HS
        go_wp2
        go_roundw
        case rel => exact ⟨k + 1, by omega, by go_num, by rw [HQ.out]; rfl⟩
        case measure => simp [intOf]; omega
    · obtain rfl : k = s.size := by omega
      rw [Pos.take_all] at hle ⊢
      generalize Pos.pos s.data.toList = p at *
      unfold ofW
      go_wp2
      refine bodyPost_ret (v := spotV p.1 p.2) (by simp [results, Tryd.results17, go_sem]) rfl ⟨rfl, ?_⟩
      exact ((Below.refl _ _).alloc (Nat.le_refl _) _).alloc (by simp) _

set_option maxHeartbeats 1000000 in
theorem spotOf_walk (s : ByteArray) (w : World) (hs : s.size ≤ 140737488351232) : Calls Tryd.prog 3 #[.string s] w (Ret (.bool true) w) := by
  have hle := Pos.pos_le s.data.toList
  have hl : s.data.toList.length = s.size := by rw [Array.length_toList]; rfl
  have C1 := Lib.hid (fun w => of_any s w (Nat.le_trans hs (by decide)))
  have C2 := Lib.hid (fun w => refOf_any s w (Nat.le_trans hs (by decide)))
  generalize Pos.pos s.data.toList = p at *
  have CI := Lib.hid (fun w => is_spot (c := Fl.FN p.1) (d := Fl.FN p.2) (Fl.part_of_rep (Fl.rep_FN (show p.1 < 2 ^ 53 by omega)) (by omega)) (Fl.part_of_rep (Fl.rep_FN (show p.2 < 2 ^ 53 by omega)) (by omega)) p.1 p.2 (by omega) (by omega) w)
  have CI' : Hid (∀ w, Calls Tryd.prog 15 #[.complex .f64 (Fl.FN p.1) (Fl.FN p.2), spotV p.1 p.2] w (Ret (.bool true) w)) := by
    have h := CI.out
    simp only [and_self, decide_true] at h
    exact h
  clear CI hl hle
  go_enter Tryd.func3, Tryd.ntmps3
  go_wp2_with fail
  refine (C1.out _).mono ?_; rintro e w1 ⟨rfl, rfl⟩
  go_wp2_with fail
  refine (C2.out _).mono ?_; rintro e w1 ⟨rfl, hb1⟩
  go_wp2_with fail
  refine (CI'.out _).mono ?_; rintro e w2 ⟨rfl, hb2⟩
  go_wp2_with fail
  refine (alive_any _).mono ?_; rintro e w3 ⟨rfl, rfl⟩
  go_wp2
  go_ret
  exact ⟨rfl, hb1.trans (hb2.mono hb1.size)⟩

set_option maxHeartbeats 1000000 in
theorem spotAdds_walk (a b : ByteArray) (w : World) (ha : a.size ≤ 140737488351232) (hb : b.size ≤ 140737488351232) : Calls Tryd.prog 10 #[.string a, .string b] w (Ret (.bool true) w) := by
  have l1 := Pos.pos_le a.data.toList
  have l2 := Pos.pos_le b.data.toList
  have e1 : a.data.toList.length = a.size := by rw [Array.length_toList]; rfl
  have e2 : b.data.toList.length = b.size := by rw [Array.length_toList]; rfl
  have hsum : (a ++ b).size = a.size + b.size := ByteArray.size_append
  have hd : (a ++ b).data.toList = a.data.toList ++ b.data.toList := by simp
  have CA := Lib.hid (fun w => of_any a w (Nat.le_trans ha (by decide)))
  have CB := Lib.hid (fun w => of_any b w (Nat.le_trans hb (by decide)))
  have CS := fun w => of_any (a ++ b) w (by omega)
  rw [hd, Pos.pos_append] at CS
  have hj : joinO (Pos.pos a.data.toList) (Pos.pos b.data.toList) = some (Pos.join (Pos.pos a.data.toList) (Pos.pos b.data.toList)) := by
    unfold joinO
    rw [if_pos]
    unfold Pos.join
    split <;> simp only <;> omega
  have hx : (Pos.join (Pos.pos a.data.toList) (Pos.pos b.data.toList)).1 ≤ 2 ^ 50 ∧ (Pos.join (Pos.pos a.data.toList) (Pos.pos b.data.toList)).2 ≤ 2 ^ 50 := by
    unfold Pos.join
    split <;> simp only <;> omega
  have big : ∀ n, n ≤ 2 ^ 50 → Fl.part (Fl.FN n) = some n := fun n hn => Fl.part_of_rep (Fl.rep_FN (by omega)) hn
  have CJ := fun w => join_any (Fl.FN (Pos.pos a.data.toList).1) (Fl.FN (Pos.pos a.data.toList).2) (Fl.FN (Pos.pos b.data.toList).1) (Fl.FN (Pos.pos b.data.toList).2) w (Ieee.double.nearest_lt _ _ _)
  rw [spotO_mk (big _ (by omega)) (big _ (by omega)), spotO_mk (big _ (by omega)) (big _ (by omega)), show joinOO (some (Pos.pos a.data.toList)) (some (Pos.pos b.data.toList)) = joinO (Pos.pos a.data.toList) (Pos.pos b.data.toList) from rfl, hj] at CJ
  generalize Pos.pos a.data.toList = p at *
  generalize Pos.pos b.data.toList = q at *
  generalize Pos.join p q = r at *
  have q1 := big r.1 hx.1
  have q2 := big r.2 hx.2
  have C3 := Lib.hid CS
  have C4 := Lib.hid CJ
  have hsz : ((a.size : Nat) : Int) + (b.size : Int) ≤ 9223372036854775807 := by omega
  clear CS CJ big hd hj hsum e1 e2 l1 l2 hx
  go_enter Tryd.func10, Tryd.ntmps10
  go_wp2_with fail
  refine (CA.out _).mono ?_; rintro e w1 ⟨rfl, rfl⟩
  go_wp2_with fail
  refine (CB.out _).mono ?_; rintro e w1 ⟨rfl, rfl⟩
  go_wp2_with fail
  refine (C4.out _).mono ?_; rintro e w1 ⟨hv, rfl⟩
  obtain ⟨c, d, rfl, pc, pd, -⟩ := hv
  have k1 : (FloatKind.f64.format.order c (Fl.FN r.1) == some Ordering.eq) = true := by rw [eq_bit pc q1]; simp
  have k2 : (FloatKind.f64.format.order d (Fl.FN r.2) == some Ordering.eq) = true := by rw [eq_bit pd q2]; simp
  clear q1 q2 pc pd
  go_wp2_with fail
  refine (C3.out _).mono ?_; rintro e w1 ⟨rfl, rfl⟩
  go_wp2_with fail
  refine (alive_any _).mono ?_; rintro e w3 ⟨rfl, rfl⟩
  go_wp2
  go_ret
  exact ⟨rfl, Below.refl _ _⟩
end Go.Proofs.YtjhakblijmaicaaDoor
