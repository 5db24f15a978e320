/- The contract of the document's GetNum. -/
import Derived.Test.YtjgegggcbjecbaaDoorGet
namespace Go.Proofs.YtjgegggcbjecbaaDoor
open Go Go.RowKit

set_option maxHeartbeats 1000000 in
theorem getNum_any (A : Option Addr) (c B : Nat) (p : Int) (l : List UInt8) (w : World) (hr : Rd w B A l.length (bv l)) (hc : l.length ≤ c) (hm : c ≤ 9223372036854775807) :
    Calls Tryd.prog 80 #[.slice A l.length c, .int .i64 p] w fun e w' => e = .returned (getV (Wi.getNum l p)) ∧ w = w' := by
  by_cases h : p < 0
  · have HA := Lib.hid (Wi.getNum_arg (l := l) (p := p) (Or.inl h))
    go_enter Tryd.func80, Tryd.ntmps80
    go_wp2
    go_step3
    go_wp2
    rw [Exit.noGoto_ret]
    go_ret3
    exact ⟨by rw [HA.out]; rfl, rfl⟩
  · by_cases h2 : (l.length : Int) < p
    · have HA := Lib.hid (Wi.getNum_arg (l := l) (p := p) (Or.inr h2))
      go_enter Tryd.func80, Tryd.ntmps80
      go_wp2
      go_step3
      go_wp2
      rw [Exit.noGoto_ret]
      go_ret3
      exact ⟨by rw [HA.out]; rfl, rfl⟩
    · obtain ⟨k, rfl⟩ := Int.eq_ofNat_of_zero_le (show 0 ≤ p by omega)
      exact getNum_in A c k B l w hr hc hm (by omega)
end Go.Proofs.YtjgegggcbjecbaaDoor
