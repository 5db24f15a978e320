/- The document's bytes (a digest's). -/
import Derived.Test.YtjgegggcbjecbaaDoorByts
import Derived.Test.YtjgegggcbjecbaaDoorNums2R
import Derived.Test.YtjgegggcbjecbaaDoorPutTextR
namespace Go.Proofs.YtjgegggcbjecbaaDoor
open Go Go.RowKit

set_option maxRecDepth 100000 in
set_option maxHeartbeats 4000000 in
theorem rbytes_any (d : List UInt8) (w : World) (hd : d.length = 32) :
    Calls Tryd.prog 19 #[digV d] w (Ret (.string (sB d)) w) := by
  unfold digV
  obtain ⟨wa, hwa⟩ : ∃ y, y = w.alloc (.cells (bv d).toArray 34) := ⟨_, rfl⟩
  have HX := Lib.hid (show Blk wa w.heap.size 34 (bv d).toArray by rw [hwa]; exact Blk.new w _ _)
  have HBW := Lib.hid (show Below w.heap.size w wa by rw [hwa]; exact below_alloc w _)
  have HD := Lib.hid hd
  obtain ⟨X, hX⟩ : ∃ X, X = (bv d).toArray := ⟨_, rfl⟩
  have HXA := Lib.hid (fun i (h : i < d.length) => (by rw [hX]; exact bv_at d h : X[i]? = some (.int .u8 ((d.getD i 0).toNat : Int))))
  rw [← hX] at HX hwa ⊢
  replace hwa := hwa.symm
  clear hX hd
  go_enter Tryd.func19, Tryd.ntmps19
  go_wp2_with fail
  clear hwa
  go_loopw [3, 4] (fun ov iv wr => ∃ i : Nat, i ≤ 32 ∧ iv = .int .i64 (i : Int) ∧ ov = .string (sB (d.take i)) ∧ Blk wr w.heap.size 34 X ∧ Below w.heap.size w wr) (fun _ iv _ => 32 - (intOf iv).toNat)
  case atStart => exact ⟨0, Nat.zero_le _, rfl, rfl, HX.out, HBW.out⟩
  clear HX HBW
  case round =>
    obtain ⟨i, hi, rfl, rfl, hX, hB⟩ := hrel
    have HX := Lib.hid hX
    have HB := Lib.hid hB
    by_cases hlt : i < 32
    · have hltI : (i : Int) < 32 := by omega
      have hid : i < d.length := by rw [HD.out]; exact hlt
      have c0 := (hX.cell i).trans (HXA.out i hid)
      have HTK := Lib.hid (show d.take (i + 1) = d.take i ++ [d.getD i 0] by rw [List.take_succ_eq_append_getElem hid, List.getD_eq_getElem?_getD, List.getElem?_eq_getElem hid]; rfl)
      have hsz : (sB (d.take i)).size ≤ 32 := by rw [sB_size, List.length_take]; omega
      obtain ⟨x, hx⟩ : ∃ x, x = d.getD i 0 := ⟨_, rfl⟩
      rw [← hx] at c0 HTK
      have hs1 : (sB [x]).size = 1 := rfl
      have hz : ¬ 9223372036854775807 < (sB (d.take i)).size + (sB [x]).size := by omega
      have hcv := conv_one x wr
      clear hX hB hx hid
      go_wp2_with fail
      go_roundw
      case rel => exact ⟨i + 1, by omega, by go_num, by rw [HTK.out, sB_append], HX.out.alloc _, HB.out.alloc HB.out.size _⟩
      case measure => simp [intOf] <;> omega
    · have hltI : ¬ (i : Int) < 32 := by omega
      have HT := Lib.hid (show d.take i = d from List.take_of_length_le (by rw [HD.out]; omega))
      clear hX hB
      go_wp2_with fail
      go_ret
      exact ⟨by rw [HT.out]; rfl, HB.out⟩
end Go.Proofs.YtjgegggcbjecbaaDoor
