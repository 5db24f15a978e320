/- CommitNames: which texts are names is told as the document says. No conditions but the row's own. -/
import Derived.Test.YtjgegggcbjecbaaAliv
import Derived.Test.YtjgegggcbjecbaaRName
namespace Go.Proofs.Ytjgegggcbjecbaa
open Go Go.RowKit

set_option maxRecDepth 100000 in
set_option maxHeartbeats 1000000 in
theorem commitNames_walk (s : ByteArray) (w : World) (hs : s.size ≤ 140737488351232) :
    Calls Try.prog 3 #[.string s] w (Ret (.bool true) w) := by
  have hl : s.data.toList.length = s.size := by rw [← sB_size, sB_self]
  have C1 := Lib.hid (fun w => pname_any s.data.toList w (by omega))
  have C2 := Lib.hid (fun w => rname_any s.data.toList w (by omega))
  rw [sB_self] at C1 C2
  obtain ⟨b, hb⟩ : ∃ b, b = Cm.nameB s.data.toList := ⟨_, rfl⟩
  rw [← hb] at C1 C2
  have k1 : (b == b) = true := beq_self_eq_true b
  clear hb hl
  go_enter Try.func3, Try.ntmps3
  go_wp2_with fail
  refine (C1.out _).mono ?_; rintro e w1 ⟨rfl, rfl⟩
  go_wp2_with fail
  refine (C2.out _).mono ?_; rintro e w1 ⟨rfl, rfl⟩
  go_wp2_with fail
  refine (alive_any _).mono ?_; rintro e w7 ⟨rfl, hb7⟩
  go_wp2_with fail
  go_ret
  exact ⟨rfl, hb7⟩
end Go.Proofs.Ytjgegggcbjecbaa
