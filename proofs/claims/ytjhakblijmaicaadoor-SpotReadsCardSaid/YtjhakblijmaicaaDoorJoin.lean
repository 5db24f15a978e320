/- The contracts of Of, Join and Less of package spot. -/
import Derived.Test.YtjhakblijmaicaaDoorFns
import Derived.Test.YtjhakblijmaicaaDoorPos
import Derived.Test.YtjhakblijmaicaaDoorShelf
namespace Go.Proofs.YtjhakblijmaicaaDoor
open Go Go.RowKit

theorem abs_bits (b : Nat) (hb : b < 2 ^ 64) : bits .andNot .u64 (b : Int) 9223372036854775808 = ((b % 2 ^ 63 : Nat) : Int) := by
  have h := u64_andNot_nat b 9223372036854775808 (by omega) (by decide)
  have e : (18446744073709551615 - 9223372036854775808 : Nat) = 2 ^ 63 - 1 := by decide
  rw [e, Nat.and_two_pow_sub_one_eq_mod] at h
  exact h

theorem float64bits_run {P : Program} (b : Nat) (w : World) : (Extern.MathFloatBits.float64bits #[.float .f64 b]).run P w = .ok (.int .u64 b) w := rfl
theorem float64frombits_run {P : Program} (b : Nat) (w : World) : (Extern.MathFloatBits.float64frombits #[.int .u64 (b : Int)]).run P w = .ok (.float .f64 b) w := rfl

set_option maxHeartbeats 400000 in
theorem abs_any (b : Nat) (w : World) (hb : b < 2 ^ 64) :
    Calls Tryd.prog 36 #[.float .f64 b] w fun e w' => e = .returned (.float .f64 (b % 2 ^ 63)) ∧ w = w' := by
  have hx := Lib.hid (abs_bits b hb)
  clear hb
  go_enter Tryd.func36, Tryd.ntmps36
  go_wp2
  rw [run_callFunc_extern Tryd.func50 (by kernel_rfl) (by kernel_rfl) (by kernel_rfl) (e := Extern.MathFloatBits.float64bits) (by kernel_rfl), float64bits_run]
  simp only [Result.andThen]
  rw [Oper.upon_value]
  go_wp2
  rw [hx.out]
  rw [run_callFunc_extern Tryd.func49 (by kernel_rfl) (by kernel_rfl) (by kernel_rfl) (e := Extern.MathFloatBits.float64frombits) (by kernel_rfl), float64frombits_run]
  simp only [Result.andThen]
  rw [Oper.upon_value]
  go_wp2
  go_ret
  exact ⟨rfl, rfl⟩

theorem lt64_of_add {a b c : Nat} (h : Ieee.double.add a b = some c) : c < 2 ^ 64 := Ieee.double.add_lt h

theorem eq_zero_bit {b n : Nat} (h : Fl.Rep b n) : (FloatKind.f64.format.order b 0 == some Ordering.eq) = decide (n = 0) := by
  show (Ieee.double.order b 0 == some Ordering.eq) = _
  rw [Fl.order_rep h Fl.rep_zero]
  simp only [compare, compareOfLessAndEq]
  by_cases h0 : n = 0
  · simp [h0]
  · simp [h0]

/-- What a number is told to be: no spot, or one. -/
def joinV (o : Option (Nat × Nat)) (e : Ending) : Prop :=
  match o with
  | some p => ∃ c d, e = .returned (.tuple #[.complex .f64 c d, .bool true]) ∧ Fl.part c = some p.1 ∧ Fl.part d = some p.2 ∧ d < 2 ^ 64
  | none => e = .returned (.tuple #[.complex .f64 0 0, .bool false])

/-- Two spots joined, where what comes is one. -/
def joinO (a b : Nat × Nat) : Option (Nat × Nat) := if (Pos.join a b).1 ≤ 2 ^ 50 ∧ (Pos.join a b).2 ≤ 2 ^ 50 then some (Pos.join a b) else none

theorem part_none {b n : Nat} (h : Fl.Rep b n) (hn : ¬ n ≤ 2 ^ 50) : Fl.part b = none := by
  by_cases h0 : Fl.part b = none
  · exact h0
  · obtain ⟨m, hm⟩ := Option.ne_none_iff_exists'.1 h0
    obtain ⟨h1, h2⟩ := Fl.part_rep hm
    obtain ⟨s, x, e, r, v⟩ := h
    obtain ⟨s', x', e', r', v'⟩ := h1
    rw [r] at r'
    injection r' with r1 r2 r3
    subst r1; subst r2; subst r3
    rw [v] at v'
    have hU := Fl.U_pos
    have : n * Fl.U = m * Fl.U := by exact_mod_cast v'
    have := Nat.eq_of_mul_eq_mul_right hU this
    omega

set_option maxHeartbeats 1000000 in
theorem join_parts (a1 a2 b1 b2 : Nat) (w : World) {m1 m2 n1 n2 : Nat} (h1 : Fl.part a1 = some m1) (h2 : Fl.part a2 = some m2) (h3 : Fl.part b1 = some n1) (h4 : Fl.part b2 = some n2) (hb : b2 < 2 ^ 64) :
    Calls Tryd.prog 21 #[.complex .f64 a1 a2, .complex .f64 b1 b2] w fun e w' => joinV (joinO (m1, m2) (n1, n2)) e ∧ w = w' := by
  have IA := Lib.hid (is_yes a1 a2 w m1 m2 h1 h2)
  have IB := Lib.hid (is_yes b1 b2 w n1 n2 h3 h4)
  obtain ⟨r1, q1⟩ := Fl.part_rep h1
  obtain ⟨r2, q2⟩ := Fl.part_rep h2
  obtain ⟨r3, q3⟩ := Fl.part_rep h3
  obtain ⟨r4, q4⟩ := Fl.part_rep h4
  obtain ⟨x, hx, rx⟩ := Fl.add_rep r1 r3 (by omega)
  obtain ⟨y, hy, ry⟩ := Fl.add_rep r4 r2 (by omega)
  have hX := fun w => run_float_arith (P := Tryd.prog) w .add 30 .f64 a1 b1 x hx
  have hY := fun w => run_float_arith (P := Tryd.prog) w .add 30 .f64 b2 a2 y hy
  have ax := Lib.hid (abs_any x w (lt64_of_add hx))
  have ay := Lib.hid (abs_any y w (lt64_of_add hy))
  have ab := Lib.hid (abs_any b2 w hb)
  have hz := eq_zero_bit r3
  have RX := Lib.hid (Fl.abs_bits rx)
  have RY := Lib.hid (Fl.abs_bits ry)
  have RB := Lib.hid (Fl.abs_bits r4)
  clear h1 h2 h3 h4 hx hy r1 r2 r3 r4 rx ry
  by_cases hn : n1 = 0
  · have hz' : (FloatKind.f64.format.order b1 0 == some Ordering.eq) = true := by rw [hz]; simp [hn]
    have HN := Lib.hid hn
    clear hz hn
    by_cases hc : m1 + n1 ≤ 2 ^ 50 ∧ n2 + m2 ≤ 2 ^ 50
    · have P1 := Lib.hid (Fl.part_of_rep RX.out hc.1)
      have P2 := Lib.hid (Fl.part_of_rep RY.out hc.2)
      have IC := Lib.hid (is_yes (x % 2 ^ 63) (y % 2 ^ 63) w _ _ P1.out P2.out)
      have HC := Lib.hid hc
      clear hc
      go_enter Tryd.func21, Tryd.ntmps21
      go_wp2_with fail
      refine IA.out.mono ?_; rintro e w' ⟨rfl, rfl⟩
      go_wp2_with fail
      refine IB.out.mono ?_; rintro e w' ⟨rfl, rfl⟩
      go_wp2_with fail
      refine ax.out.mono ?_; rintro e w' ⟨rfl, rfl⟩
      go_wp2_with fail
      refine ay.out.mono ?_; rintro e w' ⟨rfl, rfl⟩
      go_wp2_with fail
      refine IC.out.mono ?_; rintro e w' ⟨rfl, rfl⟩
      go_wp2
      go_ret2
      refine ⟨?_, rfl⟩
      have hj : joinO (m1, m2) (n1, n2) = some (m1 + n1, n2 + m2) := by
        have := HC.out; have := HN.out
        unfold joinO Pos.join
        simp only [if_pos HN.out]
        rw [if_pos ⟨by omega, by omega⟩]
        congr 2 <;> omega
      rw [hj]
      exact ⟨_, _, rfl, P1.out, P2.out, Nat.lt_trans (Nat.mod_lt _ (by decide)) (by decide)⟩
    · have hno : Fl.part (x % 2 ^ 63) = none ∨ Fl.part (y % 2 ^ 63) = none := by
        by_cases h : m1 + n1 ≤ 2 ^ 50
        · exact Or.inr (part_none RY.out (fun h' => hc ⟨h, h'⟩))
        · exact Or.inl (part_none RX.out h)
      have IC := Lib.hid (is_no (x % 2 ^ 63) (y % 2 ^ 63) w hno)
      have HC := Lib.hid hc
      clear hc hno
      go_enter Tryd.func21, Tryd.ntmps21
      go_wp2_with fail
      refine IA.out.mono ?_; rintro e w' ⟨rfl, rfl⟩
      go_wp2_with fail
      refine IB.out.mono ?_; rintro e w' ⟨rfl, rfl⟩
      go_wp2_with fail
      refine ax.out.mono ?_; rintro e w' ⟨rfl, rfl⟩
      go_wp2_with fail
      refine ay.out.mono ?_; rintro e w' ⟨rfl, rfl⟩
      go_wp2_with fail
      refine IC.out.mono ?_; rintro e w' ⟨rfl, rfl⟩
      go_wp2
      go_ret2
      refine ⟨?_, rfl⟩
      have hj : joinO (m1, m2) (n1, n2) = none := by
        have h5 := HC.out; have h6 := HN.out
        unfold joinO Pos.join
        simp only [if_pos h6]
        rw [if_neg (fun h => h5 ⟨by omega, by omega⟩)]
      rw [hj]
      rfl
  · have hz' : (FloatKind.f64.format.order b1 0 == some Ordering.eq) = false := by rw [hz]; simp [hn]
    have HN := Lib.hid hn
    clear hz hn
    by_cases hc : m1 + n1 ≤ 2 ^ 50
    · have P1 := Lib.hid (Fl.part_of_rep RX.out hc)
      have P2 := Lib.hid (Fl.part_of_rep RB.out q4)
      have IC := Lib.hid (is_yes (x % 2 ^ 63) (b2 % 2 ^ 63) w _ _ P1.out P2.out)
      go_enter Tryd.func21, Tryd.ntmps21
      go_wp2_with fail
      refine IA.out.mono ?_; rintro e w' ⟨rfl, rfl⟩
      go_wp2_with fail
      refine IB.out.mono ?_; rintro e w' ⟨rfl, rfl⟩
      go_wp2_with fail
      refine ax.out.mono ?_; rintro e w' ⟨rfl, rfl⟩
      go_wp2_with fail
      refine ab.out.mono ?_; rintro e w' ⟨rfl, rfl⟩
      go_wp2_with fail
      refine IC.out.mono ?_; rintro e w' ⟨rfl, rfl⟩
      go_wp2
      go_ret2
      refine ⟨?_, rfl⟩
      have hj : joinO (m1, m2) (n1, n2) = some (m1 + n1, n2) := by
        unfold joinO Pos.join
        simp only [if_neg HN.out]
        rw [if_pos ⟨hc, q4⟩]
      rw [hj]
      exact ⟨_, _, rfl, P1.out, P2.out, Nat.lt_trans (Nat.mod_lt _ (by decide)) (by decide)⟩
    · have IC := Lib.hid (is_no (x % 2 ^ 63) (b2 % 2 ^ 63) w (Or.inl (part_none RX.out hc)))
      go_enter Tryd.func21, Tryd.ntmps21
      go_wp2_with fail
      refine IA.out.mono ?_; rintro e w' ⟨rfl, rfl⟩
      go_wp2_with fail
      refine IB.out.mono ?_; rintro e w' ⟨rfl, rfl⟩
      go_wp2_with fail
      refine ax.out.mono ?_; rintro e w' ⟨rfl, rfl⟩
      go_wp2_with fail
      refine ab.out.mono ?_; rintro e w' ⟨rfl, rfl⟩
      go_wp2_with fail
      refine IC.out.mono ?_; rintro e w' ⟨rfl, rfl⟩
      go_wp2
      go_ret2
      refine ⟨?_, rfl⟩
      have hj : joinO (m1, m2) (n1, n2) = none := by
        unfold joinO Pos.join
        simp only [if_neg HN.out]
        rw [if_neg (fun h => hc h.1)]
      rw [hj]
      rfl

set_option maxHeartbeats 400000 in
theorem join_no (a1 a2 b1 b2 : Nat) (w : World) (h : (Fl.part a1 = none ∨ Fl.part a2 = none) ∨ (Fl.part b1 = none ∨ Fl.part b2 = none)) :
    Calls Tryd.prog 21 #[.complex .f64 a1 a2, .complex .f64 b1 b2] w fun e w' => e = .returned (.tuple #[.complex .f64 0 0, .bool false]) ∧ w = w' := by
  by_cases ha : Fl.part a1 = none ∨ Fl.part a2 = none
  · have IA := Lib.hid (is_no a1 a2 w ha)
    clear h ha
    go_enter Tryd.func21, Tryd.ntmps21
    go_wp2_with fail
    refine IA.out.mono ?_; rintro e w' ⟨rfl, rfl⟩
    go_wp2
    go_ret2
    exact ⟨rfl, rfl⟩
  · have hb := h.resolve_left ha
    obtain ⟨m1, h1⟩ := Option.ne_none_iff_exists'.1 (fun h => ha (Or.inl h))
    obtain ⟨m2, h2⟩ := Option.ne_none_iff_exists'.1 (fun h => ha (Or.inr h))
    have IA := Lib.hid (is_yes a1 a2 w _ _ h1 h2)
    have IB := Lib.hid (is_no b1 b2 w hb)
    clear h ha hb h1 h2
    go_enter Tryd.func21, Tryd.ntmps21
    go_wp2_with fail
    refine IA.out.mono ?_; rintro e w' ⟨rfl, rfl⟩
    go_wp2_with fail
    refine IB.out.mono ?_; rintro e w' ⟨rfl, rfl⟩
    go_wp2
    go_ret2
    exact ⟨rfl, rfl⟩

/-- The place that a pair of words tells, where it is a spot. -/
def spotO (a b : Nat) : Option (Nat × Nat) := (Fl.part a).bind fun m => (Fl.part b).bind fun n => some (m, n)

theorem spotO_none {a b : Nat} (h : spotO a b = none) : Fl.part a = none ∨ Fl.part b = none := by
  unfold spotO at h
  cases ha : Fl.part a with
  | none => exact Or.inl rfl
  | some m =>
    cases hb : Fl.part b with
    | none => exact Or.inr rfl
    | some n => rw [ha, hb] at h; cases h

theorem spotO_some {a b : Nat} {p : Nat × Nat} (h : spotO a b = some p) : Fl.part a = some p.1 ∧ Fl.part b = some p.2 := by
  unfold spotO at h
  cases ha : Fl.part a with
  | none => rw [ha] at h; cases h
  | some m =>
    cases hb : Fl.part b with
    | none => rw [ha, hb] at h; cases h
    | some n => rw [ha, hb] at h; cases h; exact ⟨rfl, rfl⟩

theorem spotO_mk {a b m n : Nat} (ha : Fl.part a = some m) (hb : Fl.part b = some n) : spotO a b = some (m, n) := by
  unfold spotO; rw [ha, hb]; rfl

/-- Join, of any two numbers. -/
def joinOO (a b : Option (Nat × Nat)) : Option (Nat × Nat) := a.bind fun x => b.bind fun y => joinO x y

theorem join_any (a1 a2 b1 b2 : Nat) (w : World) (hb : b2 < 2 ^ 64) :
    Calls Tryd.prog 21 #[.complex .f64 a1 a2, .complex .f64 b1 b2] w fun e w' => joinV (joinOO (spotO a1 a2) (spotO b1 b2)) e ∧ w = w' := by
  cases ha : spotO a1 a2 with
  | none => exact (join_no a1 a2 b1 b2 w (Or.inl (spotO_none ha))).mono fun _ _ h => h
  | some x =>
    cases hc : spotO b1 b2 with
    | none => exact (join_no a1 a2 b1 b2 w (Or.inr (spotO_none hc))).mono fun _ _ h => h
    | some y =>
      obtain ⟨h1, h2⟩ := spotO_some ha
      obtain ⟨h3, h4⟩ := spotO_some hc
      exact join_parts a1 a2 b1 b2 w h1 h2 h3 h4 hb

set_option maxHeartbeats 400000 in
/-- The end of a text. -/
theorem of_any (s : ByteArray) (w : World) (hs : s.size ≤ 2 ^ 50) :
    Calls Tryd.prog 16 #[.string s] w fun e w' => e = .returned (.complex .f64 (Fl.FN (Pos.pos s.data.toList).1) (Fl.FN (Pos.pos s.data.toList).2)) ∧ w = w' := by
  have hc : Lib.countByte s.data.toList 10 = (Pos.pos s.data.toList).1 := (Pos.pos_line _).symm
  have hk := Pos.pos_col s
  have hle := Pos.pos_le s.data.toList
  have hlen : s.data.toList.length = s.size := by rw [Array.length_toList]; rfl
  rw [hlen] at hle
  have C1 := Lib.hid (Tryd.strings_Count_one s 10 w)
  have C2 := Lib.hid (Tryd.strings_LastIndexByte s 10 (by omega) w)
  have HC := Lib.hid hc
  have HK := Lib.hid (show (s.size : Int) - (Lib.lastIndexByte s 10 + 1) = ((Pos.pos s.data.toList).2 : Int) from hk.symm)
  have b1 : -1 ≤ Lib.lastIndexByte s 10 := by rcases Lib.lastIndexByte_spec s 10 with ⟨e, -⟩ | ⟨i, -, e, -⟩ <;> omega
  have b2 : Lib.lastIndexByte s 10 + 1 ≤ s.size := by omega
  have hs' : s.size ≤ 1125899906842624 := hs
  have F1 := Lib.hid (floatOfInt_FN (Pos.pos s.data.toList).1)
  have F2 := Lib.hid (floatOfInt_FN (Pos.pos s.data.toList).2)
  clear hc hk hlen hle hs
  go_enter Tryd.func16, Tryd.ntmps16
  go_wp2_with fail
  refine C1.out.mono ?_; rintro e w' ⟨rfl, rfl⟩
  go_wp2_with fail
  refine C2.out.mono ?_; rintro e w' ⟨rfl, rfl⟩
  go_wp2
  go_ret
  refine ⟨?_, rfl⟩
  rw [HC.out, HK.out, F1.out, F2.out]
  rfl
end Go.Proofs.YtjhakblijmaicaaDoor
