/- The contracts of Less, of the program and of the document's answer, of the document's Join, and of 'is'. -/
import Derived.Test.YtjhakblijmaicaaDoorAlive
namespace Go.Proofs.YtjhakblijmaicaaDoor
open Go Go.RowKit

theorem ret_bool {a b : Bool} (h : a = b) : Ending.returned (.bool a) = .returned (.bool b) := by rw [h]

theorem below2 (w : World) (o p : Obj) : Below w.heap.size w ((w.alloc o).alloc p) := ((Below.refl _ _).alloc (Nat.le_refl _) _).alloc (by simp) _

theorem refLess_any (a b c d : Int) (w : World) :
    Calls Tryd.prog 27 #[.agg #[.int .i64 a, .int .i64 b], .agg #[.int .i64 c, .int .i64 d]] w (Ret (.bool (decide (a < c ∨ a = c ∧ b < d))) w) := by
  by_cases h1 : a < c
  · have k1 : decide (a < c) = true := by simpa using h1
    have HP := Lib.hid (show decide (a < c ∨ a = c ∧ b < d) = true by simp [h1])
    clear h1
    go_enter Tryd.func27, Tryd.ntmps27
    go_wp2
    go_ret
    exact ⟨ret_bool (by rw [HP.out]), below2 _ _ _⟩
  · have k1 : decide (a < c) = false := by simpa using h1
    by_cases h2 : a = c
    · have k2 : (a == c) = true := by simpa using h2
      by_cases h3 : b < d
      · have k3 : decide (b < d) = true := by simpa using h3
        have HP := Lib.hid (show decide (a < c ∨ a = c ∧ b < d) = true by simp [h2, h3])
        clear h1 h2 h3
        go_enter Tryd.func27, Tryd.ntmps27
        go_wp2
        go_ret
        exact ⟨ret_bool (by rw [HP.out]), below2 _ _ _⟩
      · have k3 : decide (b < d) = false := by simpa using h3
        have HP := Lib.hid (show decide (a < c ∨ a = c ∧ b < d) = false by simp [h1, h3])
        clear h1 h2 h3
        go_enter Tryd.func27, Tryd.ntmps27
        go_wp2
        go_ret
        exact ⟨ret_bool (by rw [HP.out]), below2 _ _ _⟩
    · have k2 : (a == c) = false := by simpa using h2
      have HP := Lib.hid (show decide (a < c ∨ a = c ∧ b < d) = false by simp [h1, h2])
      clear h1 h2
      go_enter Tryd.func27, Tryd.ntmps27
      go_wp2
      go_ret
      exact ⟨ret_bool (by rw [HP.out]), below2 _ _ _⟩

theorem lt_bit {a b m n : Nat} (h1 : Fl.part a = some m) (h2 : Fl.part b = some n) : (FloatKind.f64.format.order a b == some Ordering.lt) = decide (m < n) := by
  show (Ieee.double.order a b == some Ordering.lt) = _
  rw [Fl.order_rep (Fl.part_rep h1).1 (Fl.part_rep h2).1]
  simp only [compare, compareOfLessAndEq]
  by_cases h : m < n
  · simp [h]
  · by_cases h' : m = n
    · simp [h']
    · simp [h, h']

theorem ne_bit {a b m n : Nat} (h1 : Fl.part a = some m) (h2 : Fl.part b = some n) : (FloatKind.f64.format.order a b != some Ordering.eq) = decide (m ≠ n) := by
  have h := eq_bit h1 h2
  show (!(FloatKind.f64.format.order a b == some Ordering.eq)) = _
  rw [h]; simp

/-- Which of two places is ahead. -/
def lessO (a b : Option (Nat × Nat)) : Bool :=
  match a, b with
  | some p, some q => decide (p.1 < q.1 ∨ p.1 = q.1 ∧ p.2 < q.2)
  | _, _ => false

set_option maxHeartbeats 1000000 in
theorem less_any (a1 a2 b1 b2 : Nat) (w : World) :
    Calls Tryd.prog 26 #[.complex .f64 a1 a2, .complex .f64 b1 b2] w fun e w' => e = .returned (.bool (lessO (spotO a1 a2) (spotO b1 b2))) ∧ w = w' := by
  cases ha : spotO a1 a2 with
  | none =>
    have C1 := Lib.hid (is_no a1 a2 w (spotO_none ha))
    clear ha
    have HP := Lib.hid (show lessO none (spotO b1 b2) = false from rfl)
    go_enter Tryd.func26, Tryd.ntmps26
    go_wp2_with fail
    refine C1.out.mono ?_; rintro e w' ⟨rfl, rfl⟩
    go_wp2
    go_ret
    exact ⟨ret_bool HP.out.symm, rfl⟩
  | some p =>
    obtain ⟨h1, h2⟩ := spotO_some ha
    cases hb : spotO b1 b2 with
    | none =>
      have C1 := Lib.hid (is_yes a1 a2 w _ _ h1 h2)
      have C2 := Lib.hid (is_no b1 b2 w (spotO_none hb))
      have HP := Lib.hid (show lessO (some p) none = false from rfl)
      clear ha hb h1 h2
      go_enter Tryd.func26, Tryd.ntmps26
      go_wp2_with fail
      refine C1.out.mono ?_; rintro e w' ⟨rfl, rfl⟩
      go_wp2_with fail
      refine C2.out.mono ?_; rintro e w' ⟨rfl, rfl⟩
      go_wp2
      go_ret
      exact ⟨ret_bool HP.out.symm, rfl⟩
    | some q =>
      obtain ⟨h3, h4⟩ := spotO_some hb
      have C1 := Lib.hid (is_yes a1 a2 w _ _ h1 h2)
      have C2 := Lib.hid (is_yes b1 b2 w _ _ h3 h4)
      have e1 := ne_bit h1 h3
      have e2 := lt_bit h1 h3
      have e3 := lt_bit h2 h4
      clear ha hb h1 h2 h3 h4
      by_cases h : p.1 = q.1
      · have k1 : (FloatKind.f64.format.order a1 b1 != some Ordering.eq) = false := by rw [e1]; simp [h]
        have HP := Lib.hid (show (FloatKind.f64.format.order a2 b2 == some Ordering.lt) = lessO (some p) (some q) by rw [e3]; unfold lessO; simp [h])
        clear e1 e2 e3 h
        go_enter Tryd.func26, Tryd.ntmps26
        go_wp2_with fail
        refine C1.out.mono ?_; rintro e w' ⟨rfl, rfl⟩
        go_wp2_with fail
        refine C2.out.mono ?_; rintro e w' ⟨rfl, rfl⟩
        go_wp2
        go_ret
        exact ⟨ret_bool HP.out, rfl⟩
      · have k1 : (FloatKind.f64.format.order a1 b1 != some Ordering.eq) = true := by rw [e1]; simp [h]
        have HP := Lib.hid (show (FloatKind.f64.format.order a1 b1 == some Ordering.lt) = lessO (some p) (some q) by rw [e2]; unfold lessO; simp [h])
        clear e1 e2 e3 h
        go_enter Tryd.func26, Tryd.ntmps26
        go_wp2_with fail
        refine C1.out.mono ?_; rintro e w' ⟨rfl, rfl⟩
        go_wp2_with fail
        refine C2.out.mono ?_; rintro e w' ⟨rfl, rfl⟩
        go_wp2
        go_ret
        exact ⟨ret_bool HP.out, rfl⟩

/-- 'is': whether a number's parts are these. -/
theorem is_spot {c d m n : Nat} (h1 : Fl.part c = some m) (h2 : Fl.part d = some n) (a b : Nat) (ha : a ≤ 2 ^ 50) (hb : b ≤ 2 ^ 50) (w : World) :
    Calls Tryd.prog 15 #[.complex .f64 c d, spotV a b] w (Ret (.bool (decide (m = a ∧ n = b))) w) := by
  have e1 := eq_bit h1 (Fl.part_of_rep (Fl.rep_FN (show a < 2 ^ 53 by omega)) ha)
  have e2 := eq_bit h2 (Fl.part_of_rep (Fl.rep_FN (show b < 2 ^ 53 by omega)) hb)
  rw [← floatOfInt_FN] at e1 e2
  clear h1 h2
  by_cases h : m = a
  · have k1 : (FloatKind.f64.format.order c (floatOfInt .f64 (a : Int)) == some Ordering.eq) = true := by rw [e1]; simp [h]
    have HP := Lib.hid (show (FloatKind.f64.format.order d (floatOfInt .f64 (b : Int)) == some Ordering.eq) = decide (m = a ∧ n = b) by rw [e2]; simp [h])
    clear e1 e2 h
    go_enter Tryd.func15, Tryd.ntmps15
    go_wp2
    go_ret
    exact ⟨ret_bool HP.out, (Below.refl _ _).alloc (Nat.le_refl _) _⟩
  · have k1 : (FloatKind.f64.format.order c (floatOfInt .f64 (a : Int)) == some Ordering.eq) = false := by rw [e1]; simp [h]
    have HP := Lib.hid (show decide (m = a ∧ n = b) = false by simp [h])
    clear e1 e2 h
    go_enter Tryd.func15, Tryd.ntmps15
    go_wp2
    go_ret
    exact ⟨ret_bool HP.out.symm, (Below.refl _ _).alloc (Nat.le_refl _) _⟩

/-- What the document's Join tells. -/
def refJoinV (o : Option (Nat × Nat)) : Value :=
  match o with
  | some p => .tuple #[spotV p.1 p.2, .bool true]
  | none => .tuple #[spotV 0 0, .bool false]

theorem below4 (w : World) (o p q r : Obj) : Below w.heap.size w ((((w.alloc o).alloc p).alloc q).alloc r) := ((((Below.refl _ _).alloc (Nat.le_refl _) _).alloc (by simp) _).alloc (by simp; omega) _).alloc (by simp; omega) _

theorem spotV_cast {a b : Nat} {x y : Int} (hx : x = (a : Int)) (hy : y = (b : Int)) : Value.agg #[.int .i64 x, .int .i64 y] = spotV a b := by rw [hx, hy]

set_option maxHeartbeats 1000000 in
theorem refJoin_any (a b c d : Nat) (ha : a ≤ 1125899906842624) (hb : b ≤ 1125899906842624) (hc : c ≤ 1125899906842624) (hd : d ≤ 1125899906842624) (w : World) :
    Calls Tryd.prog 22 #[spotV a b, spotV c d] w (Ret (refJoinV (joinO (a, b) (c, d))) w) := by
  have no : ∀ x : Nat × Nat, Pos.join (a, b) (c, d) = x → ¬ (x.1 ≤ 2 ^ 50 ∧ x.2 ≤ 2 ^ 50) → refJoinV (joinO (a, b) (c, d)) = .tuple #[.agg #[.int .i64 0, .int .i64 0], .bool false] := by
    intro x hx hn
    have : joinO (a, b) (c, d) = none := by unfold joinO; rw [hx, if_neg hn]
    rw [this]; rfl
  have yes : ∀ x : Nat × Nat, Pos.join (a, b) (c, d) = x → x.1 ≤ 2 ^ 50 ∧ x.2 ≤ 2 ^ 50 → refJoinV (joinO (a, b) (c, d)) = .tuple #[.agg #[.int .i64 x.1, .int .i64 x.2], .bool true] := by
    intro x hx hn
    have : joinO (a, b) (c, d) = some x := by unfold joinO; rw [hx, if_pos hn]
    rw [this]; rfl
  have NO := Lib.hid no
  have YES := Lib.hid yes
  clear no yes
  by_cases h0 : c = 0
  · have k0 : ((c : Int) == 0) = true := by simpa using h0
    have HJ := Lib.hid (show Pos.join (a, b) (c, d) = (a + c, b + d) by unfold Pos.join; simp only [if_pos h0]; congr 1; omega)
    clear h0
    go_enter Tryd.func22, Tryd.ntmps22
    go_wp2
    all_goals first
      | (refine bodyPost_ret (v := refJoinV (joinO (a, b) (c, d))) (by rw [YES.out _ HJ.out (by simp only; omega)]; simp [results, Tryd.results22, go_sem]) rfl ⟨rfl, below4 _ _ _ _ _⟩)
      | (refine bodyPost_ret (v := refJoinV (joinO (a, b) (c, d))) (by rw [NO.out _ HJ.out (by simp only; omega)]; simp [results, Tryd.results22, go_sem]) rfl ⟨rfl, below4 _ _ _ _ _⟩)
  · have k0 : ((c : Int) == 0) = false := by simpa using h0
    have HJ := Lib.hid (show Pos.join (a, b) (c, d) = (a + c, d) by unfold Pos.join; simp only [if_neg h0])
    clear h0
    go_enter Tryd.func22, Tryd.ntmps22
    go_wp2
    all_goals first
      | (refine bodyPost_ret (v := refJoinV (joinO (a, b) (c, d))) (by rw [YES.out _ HJ.out (by simp only; omega)]; simp [results, Tryd.results22, go_sem]) rfl ⟨rfl, below4 _ _ _ _ _⟩)
      | (refine bodyPost_ret (v := refJoinV (joinO (a, b) (c, d))) (by rw [NO.out _ HJ.out (by simp only; omega)]; simp [results, Tryd.results22, go_sem]) rfl ⟨rfl, below4 _ _ _ _ _⟩)
end Go.Proofs.YtjhakblijmaicaaDoor
