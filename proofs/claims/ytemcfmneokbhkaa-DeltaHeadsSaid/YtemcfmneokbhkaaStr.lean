/- Strings as lists of bytes: pieces, joined ones, a byte. -/
import Derived.Test.YtemcfmneokbhkaaOwn
import Derived.Laws.Slices
import Derived.Laws.Concat
namespace Go.Proofs.Ytemcfmneokbhkaa
open Go Go.RowKit

theorem sB_extract (l : List UInt8) (i j : Nat) : (sB l).extract i j = sB ((l.take j).drop i) := by
  apply ByteArray.ext
  unfold sB
  rw [ByteArray.data_extract]
  apply Array.ext'
  rw [Array.toList_extract]
  simp [List.drop_take]
theorem sB_toList (l : List UInt8) : (sB l).toList = l := by
  have h : (sB l).toList = (sB l).data.toList := ByteArray.toList_eq ..
  rw [h]; rfl
theorem sB_inj {a b : List UInt8} (h : sB a = sB b) : a = b := by
  have := congrArg (fun s : ByteArray => s.data.toList) h
  exact this
theorem sB_eq (s : ByteArray) : sB s.data.toList = s := rfl

section
variable {P : Program} {t : TypeId}
theorem run_str_take (ht : P.underlying t = some .string) (l : List UInt8) (n : Nat) (hn : n ≤ l.length) (w : World) :
    (Instr.slice t (.string (sB l)) none (some (.int .i64 (n : Int))) none).run P w = .ok (.string (sB (l.take n))) w := by
  rw [run_slice_string_h (P := P) (w := w) (t := t) (s := sB l) ht .i64 (n : Int) (by omega) (by rw [sB_size]; omega), sB_extract]
  simp
theorem run_str_drop (ht : P.underlying t = some .string) (l : List UInt8) (n : Nat) (hn : n ≤ l.length) (w : World) :
    (Instr.slice t (.string (sB l)) (some (.int .i64 (n : Int))) none none).run P w = .ok (.string (sB (l.drop n))) w := by
  rw [run_slice_string_l (P := P) (w := w) (t := t) (s := sB l) ht .i64 (n : Int) (by omega) (by rw [sB_size]; omega), sB_extract, sB_size]
  simp
theorem run_str_index (ht : P.underlying t = some .string) (l : List UInt8) (n : Nat) (hn : n < l.length) (w : World) :
    (Instr.index t (.string (sB l)) (.int .i64 (n : Int))).run P w = .ok (.int .u8 (l[n].toNat : Int)) w := by
  have hx : (sB l)[n]? = some l[n] := by
    show (sB l).data[n]? = some l[n]
    unfold sB
    simp [hn]
  simp [Instr.index, asIntOf, run_underlying ht, hx]
theorem run_str_one (ht : P.underlying t = some .string) (l : List UInt8) (n : Nat) (hn : n < l.length) (w : World) :
    (Instr.slice t (.string (sB l)) (some (.int .i64 (n : Int))) (some (.int .i64 ((n : Int) + 1))) none).run P w = .ok (.string (sB [l[n]])) w := by
  rw [run_slice_string (P := P) (w := w) t (sB l) .i64 .i64 (n : Int) ((n : Int) + 1) ht (by omega) (by omega) (by rw [sB_size]; omega), sB_extract, show ((n : Int) + 1).toNat = n + 1 by omega, Int.toNat_natCast]
  congr 3
  rw [List.take_succ_eq_append_getElem hn, List.drop_append_of_le_length (by simp; omega), List.drop_of_length_le (by simp; omega)]
  rfl
end
end Go.Proofs.Ytemcfmneokbhkaa
