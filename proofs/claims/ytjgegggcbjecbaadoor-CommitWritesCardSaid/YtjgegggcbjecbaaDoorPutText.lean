/- The contracts of textSize, putText and Text, and of the document's Text. -/
import Derived.Test.YtjgegggcbjecbaaDoorNums2
namespace Go.Proofs.YtjgegggcbjecbaaDoor
open Go Go.RowKit

theorem str_len (s : ByteArray) : s.data.toList.length = s.size := by rw [Array.length_toList]; rfl
theorem text_size (s : ByteArray) : (Wi.text s.data.toList).length = (Wi.num s.size).length + s.size := by rw [Wi.text_length, str_len]

set_option maxHeartbeats 400000 in
theorem textSize_any (s : ByteArray) (w : World) (h : s.size ≤ 9223372036854775798) :
    Calls Tryd.prog 62 #[.string s] w fun e w' => e = .returned (.int .i64 ((Wi.text s.data.toList).length : Int)) ∧ w = w' := by
  have C := Lib.hid (size_any s.size w (by omega))
  have h9 := Wi.num_len_nine (n := s.size) (by omega)
  have HT := Lib.hid (text_size s)
  generalize (Wi.num s.size).length = k at *
  go_enter Tryd.func62, Tryd.ntmps62
  go_wp2_with fail
  refine C.out.mono ?_; rintro e w' ⟨rfl, rfl⟩
  go_wp2
  go_ret
  exact ⟨ret_int (by rw [HT.out]; omega), rfl⟩

set_option maxRecDepth 100000 in
set_option maxHeartbeats 1000000 in
theorem putText_any (v : Value) (m base : Nat) (xs : List Value) (s : ByteArray) (w : World) (hown : w.ownsRow base 5 1 v m xs) (hb : base ≤ w.heap.size) (hm : m + (Wi.text s.data.toList).length + 9 ≤ 140737488355328) :
    Calls Tryd.prog 61 #[v, .string s] w (Put base m xs (Wi.text s.data.toList) w) := by
  obtain ⟨i0, hi, hz0, hz1, hz2⟩ := info_parts infoU8
  have hts := text_size s
  rw [hts] at hm
  have C := Lib.hid (putNum_any v m base xs s.size w hown hb (by omega) (by omega))
  have HT := Lib.hid (show Wi.text s.data.toList = Wi.num s.size ++ s.data.toList by unfold Wi.text; rw [str_len])
  have HL := Lib.hid (str_len s)
  generalize Wi.num s.size = T at *
  clear hts hown
  go_enter Tryd.func61, Tryd.ntmps61
  go_wp2_with fail
  refine C.out.mono ?_; rintro e w1 ⟨v1, rfl, ho1, hb1⟩
  have hsz := hb1.size
  go_wp2_with (first
    | (at_builtin; go_must (refine wp_app _ rfl (.tmp 8) (.tmp 9) 27 9 rfl base 5 i0 _ 1 Tryd.underlying27 hi hz0 hz1 hz2 rfl v1 (m + T.length) (xs ++ bv T) rfl ho1 _ s.size (byteCells s) rfl (Src.ofString w1 Tryd.underlying9 s) (by unfold maxLen; omega) (by omega) (by omega) ?_); intro v2 w2 ho2 hg2 hat2))
  go_ret
  have hb2 : Below base w w2 := hb1.grown hg2 (by omega) (fun q hq => (ho1.lt q hq).1)
  refine ⟨v2, rfl, ?_, hb2⟩
  rw [HT.out, bv_append, List.length_append, HL.out, ← List.append_assoc, ← Nat.add_assoc]
  exact ho2

theorem rd_of_put2 {base : Nat} {l : List UInt8} {v : Value} {w' : World} (h : w'.ownsRow base 5 1 v (0 + l.length) ([] ++ bv l)) :
    ∃ A c, v = .slice A l.length c ∧ (l.length ≤ c ∧ c ≤ 9223372036854775807) ∧ Rd w' w'.heap.size A l.length (bv l) := by
  rw [Nat.zero_add, List.nil_append] at h
  obtain ⟨A, c, rfl, h1, h2, -⟩ := own_form h
  exact ⟨A, c, rfl, ⟨h1, by simpa [maxLen] using h2⟩, Rd.of_own h⟩

set_option maxRecDepth 100000 in
set_option maxHeartbeats 1000000 in
theorem text_any (s : ByteArray) (w : World) (h : s.size + 18 ≤ 140737488355328) :
    Calls Tryd.prog 38 #[.string s] w (Got (Wi.text s.data.toList) w) := by
  have h9 := Wi.num_len_nine (n := s.size) (by omega)
  have hts := text_size s
  obtain ⟨i0, hi, hz0, hz1, hz2⟩ := info_parts infoU8
  obtain ⟨w1, hmk, ho, hg⟩ := run_make_own (P := Tryd.prog) w w.heap.size 27 5 i0 _ 1 Tryd.underlying27 hi hz0 hz1 .i64 .i64 (Wi.text s.data.toList).length (by rw [hz2]; omega) (by unfold maxLen; omega) (Nat.le_refl _)
  have hb1 : Below w.heap.size w w1 := (Below.refl _ _).grown hg (Nat.le_refl _) (fun k hk => by cases hk)
  have C := Lib.hid (textSize_any s w (by omega))
  have CP := Lib.hid (putText_any _ 0 w.heap.size [] s w1 ho hb1.size (by omega))
  generalize Wi.text s.data.toList = T at *
  clear hi hz0 hz1 hz2 hts
  go_enter Tryd.func38, Tryd.ntmps38
  go_wp2_with fail
  refine C.out.mono ?_; rintro e w' ⟨rfl, rfl⟩
  go_wp2_with fail
  refine CP.out.mono ?_; rintro e w2 ⟨v, rfl, ho2, hb2⟩
  obtain ⟨A, c, rfl, hc, hr⟩ := rd_of_put2 ho2
  go_wp2
  go_ret
  exact ⟨A, c, rfl, hc, hr, hb1.trans (hb2.mono (Nat.le_refl _))⟩
end Go.Proofs.YtjgegggcbjecbaaDoor
