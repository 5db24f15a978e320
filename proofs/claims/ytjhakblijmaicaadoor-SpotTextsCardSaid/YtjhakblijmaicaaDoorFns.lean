/- The contracts of the small functions of package spot and of the document's answer: which words are parts of a spot, and how two numbers are told to be spots. -/
import Derived.Test.YtjhakblijmaicaaDoorChecked
import Derived.WalkKit
import Derived.WalkSpells
import Derived.WalkLawsBesides
import Derived.BigQuiet
import Derived.Deep.QuietTactic
import Derived.Laws.Externs
import Derived.Lib.Hide
import Derived.Test.YtjhakblijmaicaaDoorFl
namespace Go.Proofs.YtjhakblijmaicaaDoor
open Go Go.RowKit

theorem run_trunc {P : Program} {b : Nat} {s s' : Bool} {m q : Nat} {e : Int} (hr : Ieee.double.read b = .number s m e) (hi : (Ieee.Datum.number s m e).integral .zero = .number s' q 0) (w : World) :
    (Extern.MathFloor.toIntegral "math.archTrunc" .zero #[.float .f64 b]).run P w = .ok (.float .f64 (Ieee.double.nearest s' q 0)) w := by
  have h1 : FloatKind.f64.decode b = .number s m e := hr
  have key : ∃ A : Bool → Nat → Sem Value, Extern.MathFloor.toIntegral "math.archTrunc" .zero #[.float .f64 b] =
      (match FloatKind.f64.decode b with
       | .nan s t => A s t
       | d => pure (.float .f64 (FloatKind.f64.encode (d.integral .zero)))) := ⟨_, rfl⟩
  obtain ⟨A, hA⟩ := key
  rw [hA, h1]
  simp only [hi]
  rfl

set_option maxHeartbeats 400000 in
theorem trunc_any (b : Nat) (w : World) {s s' : Bool} {m q : Nat} {e : Int} (hr : Ieee.double.read b = .number s m e) (hi : (Ieee.Datum.number s m e).integral .zero = .number s' q 0) :
    Calls Tryd.prog 48 #[.float .f64 b] w fun e w' => e = .returned (.float .f64 (Ieee.double.nearest s' q 0)) ∧ w = w' := by
  have Hr := Lib.hid hr
  have Hi := Lib.hid hi
  clear hr hi
  go_enter Tryd.func48, Tryd.ntmps48
  go_wp2
  rw [run_callFunc_extern Tryd.func55 (by kernel_rfl) (by kernel_rfl) (by kernel_rfl) (e := Extern.MathFloor.toIntegral "math.archTrunc" .zero) (by kernel_rfl), run_trunc Hr.out Hi.out]
  simp only [Result.andThen]
  rw [Oper.upon_value]
  go_wp2
  go_ret
  exact ⟨rfl, rfl⟩

set_option maxHeartbeats 400000 in
theorem isPart_any (b : Nat) (w : World) : Calls Tryd.prog 35 #[.float .f64 b] w fun e w' => e = .returned (.bool (Fl.part b).isSome) ∧ w = w' := by
  rcases Fl.three b with ⟨h1, hp⟩ | ⟨h1, h2, hp⟩ | ⟨h1, h2, s, m, e, q, hr, hi, -, -, -, h3, -, -⟩
  · have h1' : (FloatKind.f64.format.order b 0 == some Ordering.gt || FloatKind.f64.format.order b 0 == some Ordering.eq) = false := h1
    rw [hp]; clear hp h1
    go_enter Tryd.func35, Tryd.ntmps35
    go_wp2
    go_ret
    exact ⟨rfl, rfl⟩
  · have h1' : (FloatKind.f64.format.order b 0 == some Ordering.gt || FloatKind.f64.format.order b 0 == some Ordering.eq) = true := h1
    have h2' : (FloatKind.f64.format.order b 4832362400168542208 == some Ordering.lt || FloatKind.f64.format.order b 4832362400168542208 == some Ordering.eq) = false := h2
    rw [hp]; clear hp h1 h2
    go_enter Tryd.func35, Tryd.ntmps35
    go_wp2
    go_ret
    exact ⟨rfl, rfl⟩
  · have h1' : (FloatKind.f64.format.order b 0 == some Ordering.gt || FloatKind.f64.format.order b 0 == some Ordering.eq) = true := h1
    have h2' : (FloatKind.f64.format.order b 4832362400168542208 == some Ordering.lt || FloatKind.f64.format.order b 4832362400168542208 == some Ordering.eq) = true := h2
    have H3 := Lib.hid h3
    have Hr := Lib.hid hr
    have Hi := Lib.hid hi
    clear h1 h2 h3 hr hi
    go_enter Tryd.func35, Tryd.ntmps35
    go_wp2_with (go_at_call 48; refine (trunc_any _ _ Hr.out Hi.out).mono ?_; rintro e w' ⟨rfl, rfl⟩)
    go_ret
    exact ⟨by rw [← H3.out]; rfl, rfl⟩

set_option maxHeartbeats 400000 in
theorem is_yes (a b : Nat) (w : World) (m n : Nat) (h1 : Fl.part a = some m) (h2 : Fl.part b = some n) :
    Calls Tryd.prog 20 #[.complex .f64 a b] w fun e w' => e = .returned (.bool true) ∧ w = w' := by
  have c1 := isPart_any a w
  have c2 := isPart_any b w
  rw [h1] at c1; rw [h2] at c2
  have C1 := Lib.hid c1
  have C2 := Lib.hid c2
  clear c1 c2 h1 h2
  go_enter Tryd.func20, Tryd.ntmps20
  go_wp2_with fail
  refine C1.out.mono ?_; rintro e w' ⟨rfl, rfl⟩
  go_wp2_with fail
  refine C2.out.mono ?_; rintro e w' ⟨rfl, rfl⟩
  go_wp2
  go_ret
  exact ⟨rfl, rfl⟩

set_option maxHeartbeats 400000 in
theorem is_no (a b : Nat) (w : World) (h : Fl.part a = none ∨ Fl.part b = none) :
    Calls Tryd.prog 20 #[.complex .f64 a b] w fun e w' => e = .returned (.bool false) ∧ w = w' := by
  have c1 := isPart_any a w
  have c2 := isPart_any b w
  by_cases ha : Fl.part a = none
  · rw [ha] at c1
    have C1 := Lib.hid c1
    clear c1 c2 h ha
    go_enter Tryd.func20, Tryd.ntmps20
    go_wp2_with fail
    refine C1.out.mono ?_; rintro e w' ⟨rfl, rfl⟩
    go_wp2
    go_ret
    exact ⟨rfl, rfl⟩
  · have hb : Fl.part b = none := h.resolve_left ha
    obtain ⟨m, hm⟩ := Option.ne_none_iff_exists'.1 ha
    rw [hm] at c1; rw [hb] at c2
    have C1 := Lib.hid c1
    have C2 := Lib.hid c2
    clear c1 c2 h ha hb hm
    go_enter Tryd.func20, Tryd.ntmps20
    go_wp2_with fail
    refine C1.out.mono ?_; rintro e w' ⟨rfl, rfl⟩
    go_wp2_with fail
    refine C2.out.mono ?_; rintro e w' ⟨rfl, rfl⟩
    go_wp2
    go_ret
    exact ⟨rfl, rfl⟩

theorem toIntVal {b : Nat} {q : Nat} (h : (Ieee.double.read b).toInt .zero = some (q : Int)) (hq : q ≤ 2 ^ 50) : floatToIntVal .f64 b .i64 = some (q : Int) := by
  have h1 : (FloatKind.f64.decode b).toInt .zero = some (q : Int) := h
  unfold floatToIntVal
  rw [h1]
  simp only
  rw [if_pos]
  have e1 : IntKind.i64.min = -9223372036854775808 := by decide
  have e2 : IntKind.i64.max = 9223372036854775807 := by decide
  rw [e1, e2]; omega

theorem floatOfInt_FN (q : Nat) : floatOfInt .f64 (q : Int) = Fl.FN q := by
  show FloatKind.f64.nearest (q : Int) = _
  unfold FloatKind.nearest
  have : decide ((q : Int) < 0) = false := by simp
  simp only [Int.natAbs_natCast, this]
  rfl

set_option maxHeartbeats 400000 in
/-- The document's part of a number: what it is, and whether it is one. -/
theorem refPart_any (b : Nat) (w : World) : Calls Tryd.prog 34 #[.float .f64 b] w fun e w' => (∃ n : Nat, n ≤ 2 ^ 50 ∧ e = .returned (.tuple #[.int .i64 n, .bool (Fl.part b).isSome]) ∧ (Fl.part b = none ∨ Fl.part b = some n)) ∧ w = w' := by
  rcases Fl.three b with ⟨h1, hp⟩ | ⟨h1, h2, hp⟩ | ⟨h1, h2, s, m, e, q, hr, hi, -, hq, ht, -, h3, h4⟩
  · have h1' : (FloatKind.f64.format.order b 0 == some Ordering.gt || FloatKind.f64.format.order b 0 == some Ordering.eq) = false := h1
    rw [hp]; clear hp h1
    go_enter Tryd.func34, Tryd.ntmps34
    go_wp2
    go_ret2
    exact ⟨⟨0, by decide, rfl, by simp⟩, rfl⟩
  · have h1' : (FloatKind.f64.format.order b 0 == some Ordering.gt || FloatKind.f64.format.order b 0 == some Ordering.eq) = true := h1
    have h2' : (FloatKind.f64.format.order b 4832362400168542208 == some Ordering.lt || FloatKind.f64.format.order b 4832362400168542208 == some Ordering.eq) = false := h2
    rw [hp]; clear hp h1 h2
    go_enter Tryd.func34, Tryd.ntmps34
    go_wp2
    go_ret2
    exact ⟨⟨0, by decide, rfl, by simp⟩, rfl⟩
  · have h1' : (FloatKind.f64.format.order b 0 == some Ordering.gt || FloatKind.f64.format.order b 0 == some Ordering.eq) = true := h1
    have h2' : (FloatKind.f64.format.order b 4832362400168542208 == some Ordering.lt || FloatKind.f64.format.order b 4832362400168542208 == some Ordering.eq) = true := h2
    have hcv := fun w : World => run_convert_float_int (P := Tryd.prog) w 30 3 .f64 .i64 b q (by rw [Tryd.underlying30]; rfl) Tryd.underlying3 (toIntVal ht hq)
    have H3 := Lib.hid h3
    have H4 := Lib.hid h4
    have HF := Lib.hid (floatOfInt_FN q)
    clear h1 h2 h3 hr hi h4 ht
    go_enter Tryd.func34, Tryd.ntmps34
    go_wp2
    go_ret2
    refine ⟨⟨q, hq, ?_, H4.out⟩, rfl⟩
    rw [← H3.out, HF.out]; rfl
end Go.Proofs.YtjhakblijmaicaaDoor
