/- The contracts of Text at small numbers, and of what must come: a second line, and its text. -/
import Derived.Test.YtjhakblijmaicaaDoorJoin
import Derived.Test.YtjhakblijmaicaaDoorRef
import Derived.ShutString
namespace Go.Proofs.YtjhakblijmaicaaDoor
open Go Go.RowKit

def textB (m n : Nat) : ByteArray := ⟨(Lib.decDigits m ++ 58 :: Lib.decDigits n).toArray⟩

theorem textB_eq (m n : Nat) : ((⟨(Lib.decDigits m).toArray⟩ : ByteArray) ++ ⟨#[58]⟩) ++ ⟨(Lib.decDigits n).toArray⟩ = textB m n := by
  rw [show (#[58] : Array UInt8) = [58].toArray from rfl, ByteArray.mk_append_mk, ByteArray.mk_append_mk]
  unfold textB
  congr 2
  simp

theorem dec_small_size {m : Nat} (h : m < 100) : (⟨(Lib.decDigits m).toArray⟩ : ByteArray).size ≤ 2 := by
  rw [size_of_list]
  by_cases h1 : m < 10
  · rw [Lib.decDigits_one h1]; simp
  · rw [Lib.decDigits_two h1 h]; simp

set_option maxHeartbeats 400000 in
theorem text_small (c d : Nat) (w : World) {m n : Nat} (h1 : Fl.part c = some m) (h2 : Fl.part d = some n) (hm : m < 100) (hn : n < 100) :
    Calls Tryd.prog 31 #[.complex .f64 c d] w fun e w' => e = .returned (.string (textB m n)) ∧ w = w' := by
  have IA := Lib.hid (is_yes c d w m n h1 h2)
  obtain ⟨r1, -⟩ := Fl.part_rep h1
  obtain ⟨r2, -⟩ := Fl.part_rep h2
  have hc := fun w : World => run_convert_float_int (P := Tryd.prog) w 30 3 .f64 .i64 c m (by rw [Tryd.underlying30]; rfl) Tryd.underlying3 (toIntVal (Fl.toInt_rep r1 (by omega)) (by omega))
  have hd := fun w : World => run_convert_float_int (P := Tryd.prog) w 30 3 .f64 .i64 d n (by rw [Tryd.underlying30]; rfl) Tryd.underlying3 (toIntVal (Fl.toInt_rep r2 (by omega)) (by omega))
  have HE := Lib.hid (textB_eq m n)
  have T1 := Lib.hid (Tryd.strconv_Itoa_small m hm w)
  have T2 := Lib.hid (Tryd.strconv_Itoa_small n hn w)
  have s1 := dec_small_size hm
  have s2 := dec_small_size hn
  generalize (⟨(Lib.decDigits m).toArray⟩ : ByteArray) = S1 at *
  generalize (⟨(Lib.decDigits n).toArray⟩ : ByteArray) = S2 at *
  have s3 : (S1 ++ (⟨#[58]⟩ : ByteArray)).size ≤ 3 := by rw [ByteArray.size_append]; have : (⟨#[58]⟩ : ByteArray).size = 1 := rfl; omega
  clear h1 h2 r1 r2
  go_enter Tryd.func31, Tryd.ntmps31
  go_wp2_with fail
  refine IA.out.mono ?_; rintro e w' ⟨rfl, rfl⟩
  go_wp2_with fail
  refine T1.out.mono ?_; rintro e w' ⟨rfl, rfl⟩
  go_wp2_with fail
  refine T2.out.mono ?_; rintro e w' ⟨rfl, rfl⟩
  go_wp2
  go_ret
  exact ⟨by rw [← HE.out]; rfl, rfl⟩

theorem bit1 : Fl.part 4607182418800017408 = some 1 := Fl.part_of_rep (by rw [show (4607182418800017408 : Nat) = Fl.FN 1 from by decide]; exact Fl.rep_FN (by decide)) (by decide)
theorem bit3 : Fl.part 4613937818241073152 = some 3 := Fl.part_of_rep (by rw [show (4613937818241073152 : Nat) = Fl.FN 3 from by decide]; exact Fl.rep_FN (by decide)) (by decide)
theorem bit4 : Fl.part 4616189618054758400 = some 4 := Fl.part_of_rep (by rw [show (4616189618054758400 : Nat) = Fl.FN 4 from by decide]; exact Fl.rep_FN (by decide)) (by decide)
theorem bit0 : Fl.part 0 = some 0 := Fl.part_of_rep Fl.rep_zero (by decide)

/-- '==' of two whole numbers. -/
theorem eq_bit {a b m n : Nat} (h1 : Fl.part a = some m) (h2 : Fl.part b = some n) : (FloatKind.f64.format.order a b == some Ordering.eq) = decide (m = n) := by
  show (Ieee.double.order a b == some Ordering.eq) = _
  rw [Fl.order_rep (Fl.part_rep h1).1 (Fl.part_rep h2).1]
  simp only [compare, compareOfLessAndEq]
  by_cases h : m < n
  · have : ¬ m = n := by omega
    simp [h, this]
  · by_cases h' : m = n
    · simp [h']
    · simp [h, h']

set_option maxRecDepth 100000 in
set_option maxHeartbeats 1000000 in
/-- What must come does come. -/
theorem alive_any (w : World) : Calls Tryd.prog 18 #[] w fun e w' => e = .returned (.bool true) ∧ w = w' := by
  have CJ := Lib.hid (join_any 4607182418800017408 4607182418800017408 0 4613937818241073152 w (by decide))
  have hj : joinOO (spotO 4607182418800017408 4607182418800017408) (spotO 0 4613937818241073152) = some (1, 4) := by
    rw [spotO_mk bit1 bit1, spotO_mk bit0 bit3]; decide
  have HJ := Lib.hid hj
  clear hj
  have CO := Lib.hid (of_any ⟨#[97, 98, 10, 99]⟩ w (by decide))
  have e1 : (Pos.pos (⟨#[97, 98, 10, 99]⟩ : ByteArray).data.toList) = (1, 1) := by decide
  have CO' : Hid (Calls Tryd.prog 16 #[.string ⟨#[97, 98, 10, 99]⟩] w fun e w' => e = .returned (.complex .f64 (Fl.FN 1) (Fl.FN 1)) ∧ w = w') := by
    have h := CO.out
    rw [e1] at h
    exact h
  have q1 : (FloatKind.f64.format.order (Fl.FN 1) 4607182418800017408 == some Ordering.eq) = true := by decide
  clear CO e1
  go_enter Tryd.func18, Tryd.ntmps18
  go_wp2_with fail
  refine CJ.out.mono ?_; rintro e w' ⟨hv, rfl⟩
  rw [HJ.out] at hv
  obtain ⟨c, d, rfl, pc, pd, -⟩ := hv
  have q2 : (FloatKind.f64.format.order c 4607182418800017408 == some Ordering.eq) = true := by rw [eq_bit pc bit1]; rfl
  have q3 : (FloatKind.f64.format.order d 4616189618054758400 == some Ordering.eq) = true := by rw [eq_bit pd bit4]; rfl
  have CT := Lib.hid (text_small c d w pc pd (by decide) (by decide))
  have e2 : textB 1 4 = ⟨#[49, 58, 52]⟩ := by unfold textB; rw [Lib.decDigits_one (by decide), Lib.decDigits_one (by decide)]; rfl
  have CT' : Hid (Calls Tryd.prog 31 #[.complex .f64 c d] w fun e w' => e = .returned (.string ⟨#[49, 58, 52]⟩) ∧ w = w') := by
    have h := CT.out
    rw [e2] at h
    exact h
  clear CT e2 pc pd HJ
  go_wp2_with fail
  refine CO'.out.mono ?_; rintro e w' ⟨rfl, rfl⟩
  go_wp2_with fail
  refine CT'.out.mono ?_; rintro e w' ⟨rfl, rfl⟩
  go_wp2
  go_ret
  exact ⟨rfl, rfl⟩
end Go.Proofs.YtjhakblijmaicaaDoor
