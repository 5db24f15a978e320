/- The document's Text of layer 2. -/
import Derived.Test.YtjgegggcbjecbaaDoorPutText
import Derived.Test.YtjgegggcbjecbaaDoorNums2R
namespace Go.Proofs.YtjgegggcbjecbaaDoor
open Go Go.RowKit

theorem sB_text (s : ByteArray) : sB (Wi.text s.data.toList) = sB (Wi.num s.size) ++ s := by
  unfold Wi.text
  rw [sB_append, str_len, sB_self]

set_option maxRecDepth 100000 in
set_option maxHeartbeats 1000000 in
theorem refText_any (s : ByteArray) (w : World) (h : s.size ≤ 9223372036854775798) :
    Calls Tryd.prog 20 #[.string s] w (Ret (.string (sB (Wi.text s.data.toList))) w) := by
  have C := Lib.hid (refNum_any s.size s.size w (Nat.le_refl _) (by omega))
  have HT := Lib.hid (sB_text s)
  have h9 : (sB (Wi.num s.size)).size ≤ 9 := by rw [sB_size]; exact Wi.num_len_nine (by omega)
  generalize sB (Wi.num s.size) = T at *
  go_enter Tryd.func20, Tryd.ntmps20
  go_wp2_with fail
  refine C.out.mono ?_; rintro e w1 ⟨rfl, hb1⟩
  go_wp2
  go_ret
  exact ⟨by rw [HT.out]; rfl, hb1⟩
end Go.Proofs.YtjgegggcbjecbaaDoor
