/- Shortest ways between texts: plain mathematics. -/
namespace Go.Proofs.Ytmanafhdmijfeaa.Df

/-- The least cost, where the same heads always stay. -/
def dist : List UInt8 → List UInt8 → Nat
  | [], b => b.length
  | x :: a, [] => a.length + 1
  | x :: a, y :: b => if x = y then dist a b else 1 + min (dist a (y :: b)) (dist (x :: a) b)
termination_by a b => a.length + b.length

theorem dist_nil (b : List UInt8) : dist [] b = b.length := by rw [dist]
theorem dist_nil' (a : List UInt8) : dist a [] = a.length := by cases a <;> simp [dist]
theorem dist_same (x : UInt8) (a b : List UInt8) : dist (x :: a) (x :: b) = dist a b := by rw [dist, if_pos rfl]
theorem dist_unlike {x y : UInt8} (h : x ≠ y) (a b : List UInt8) : dist (x :: a) (y :: b) = 1 + min (dist a (y :: b)) (dist (x :: a) b) := by rw [dist, if_neg h]

theorem one_le (x : UInt8) : ∀ b : List UInt8, dist [x] b ≤ b.length + 1
  | [] => by simp [dist]
  | y :: b => by
    have ih := one_le x b
    by_cases h : x = y
    · subst h; rw [dist_same]; simp only [dist_nil, List.length_cons]; omega
    · rw [dist_unlike h]; simp only [dist_nil, List.length_cons]; omega
theorem one_ge (x : UInt8) : ∀ b : List UInt8, b.length ≤ dist [x] b + 1
  | [] => by simp
  | y :: b => by
    have ih := one_ge x b
    by_cases h : x = y
    · subst h; rw [dist_same]; simp only [dist_nil, List.length_cons]; omega
    · rw [dist_unlike h]; simp only [dist_nil, List.length_cons]; omega
theorem one_ge' (y : UInt8) : ∀ a : List UInt8, a.length ≤ dist a [y] + 1
  | [] => by simp
  | z :: a => by
    have ih := one_ge' y a
    by_cases h : z = y
    · subst h; rw [dist_same]; simp only [dist_nil', List.length_cons]; omega
    · rw [dist_unlike h]; simp only [dist_nil', List.length_cons]; omega

/-- One byte more, at either side, turns the cost by one at most. -/
theorem dist_near : ∀ (n : Nat) (a b : List UInt8), a.length + b.length ≤ n →
    (∀ x, dist (x :: a) b ≤ dist a b + 1) ∧ (∀ y, dist a (y :: b) ≤ dist a b + 1) ∧ (∀ y, dist a b ≤ dist a (y :: b) + 1) ∧ (∀ x, dist a b ≤ dist (x :: a) b + 1)
  | _, [], b, _ => by
    refine ⟨fun x => ?_, fun y => ?_, fun y => ?_, fun x => ?_⟩
    · rw [dist_nil]; exact one_le x b
    · simp [dist_nil]
    · simp only [dist_nil, List.length_cons]; omega
    · rw [dist_nil]; exact one_ge x b
  | _, x :: a, [], _ => by
    refine ⟨fun z => ?_, fun y => ?_, fun y => ?_, fun z => ?_⟩
    · simp only [dist_nil', List.length_cons]; omega
    · have h1 : dist a [] = a.length := dist_nil' a
      by_cases h : x = y
      · subst h; rw [dist_same]; simp only [dist_nil', List.length_cons]; omega
      · rw [dist_unlike h]; simp only [dist_nil', List.length_cons]; omega
    · have h2 := one_ge' y a
      by_cases h : x = y
      · subst h; rw [dist_same]; simp only [dist_nil', List.length_cons]; omega
      · rw [dist_unlike h]; simp only [dist_nil', List.length_cons]; omega
    · simp only [dist_nil', List.length_cons]; omega
  | 0, x :: a, y :: b, h => by simp at h
  | n + 1, x :: a, y :: b, h => by
    simp only [List.length_cons] at h
    obtain ⟨p1, p2, p3, p4⟩ := dist_near n a b (by omega)
    obtain ⟨q1, q2, q3, q4⟩ := dist_near n a (y :: b) (by simp only [List.length_cons]; omega)
    obtain ⟨r1, r2, r3, r4⟩ := dist_near n (x :: a) b (by simp only [List.length_cons]; omega)
    refine ⟨fun z => ?_, fun z => ?_, fun z => ?_, fun z => ?_⟩
    · by_cases hz : z = y
      · subst hz
        rw [dist_same]
        exact r3 z
      · rw [dist_unlike hz]; omega
    · by_cases hz : x = z
      · subst hz
        rw [dist_same]
        exact q4 x
      · rw [dist_unlike hz]; omega
    · by_cases hz : x = z
      · subst hz
        rw [dist_same]
        exact q1 x
      · rw [dist_unlike hz]
        have := q1 x
        have := q3 z
        omega
    · by_cases hz : z = y
      · subst hz
        rw [dist_same]
        exact r2 z
      · rw [dist_unlike hz]
        have := r2 y
        have := r4 z
        omega

theorem near_cut (x : UInt8) (a b : List UInt8) : dist (x :: a) b ≤ dist a b + 1 := (dist_near _ a b (Nat.le_refl _)).1 x
theorem near_put (y : UInt8) (a b : List UInt8) : dist a (y :: b) ≤ dist a b + 1 := (dist_near _ a b (Nat.le_refl _)).2.1 y

/-- There is a way of this cost. -/
inductive Way : List UInt8 → List UInt8 → Nat → Prop
  | nil : Way [] [] 0
  | keep (x : UInt8) {a b n} : Way a b n → Way (x :: a) (x :: b) n
  | cut (x : UInt8) {a b n} : Way a b n → Way (x :: a) b (n + 1)
  | put (y : UInt8) {a b n} : Way a b n → Way a (y :: b) (n + 1)

theorem Way.least {a b : List UInt8} {n : Nat} (h : Way a b n) : dist a b ≤ n := by
  induction h with
  | nil => simp [dist]
  | keep x _ ih => rw [dist_same]; exact ih
  | cut x _ ih => exact Nat.le_trans (near_cut _ _ _) (by omega)
  | put y _ ih => exact Nat.le_trans (near_put _ _ _) (by omega)

theorem way_cuts : ∀ a : List UInt8, Way a [] a.length
  | [] => .nil
  | x :: a => .cut x (way_cuts a)
theorem way_puts : ∀ b : List UInt8, Way [] b b.length
  | [] => .nil
  | y :: b => .put y (way_puts b)

theorem dist_way : ∀ (n : Nat) (a b : List UInt8), a.length + b.length ≤ n → Way a b (dist a b)
  | _, [], b, _ => by rw [dist_nil]; exact way_puts b
  | _, x :: a, [], _ => by rw [dist_nil']; exact way_cuts (x :: a)
  | 0, x :: a, y :: b, h => by simp at h
  | n + 1, x :: a, y :: b, h => by
    simp only [List.length_cons] at h
    by_cases hx : x = y
    · subst hx
      rw [dist_same]
      exact .keep x (dist_way n a b (by omega))
    · rw [dist_unlike hx]
      by_cases hm : dist a (y :: b) ≤ dist (x :: a) b
      · rw [Nat.min_eq_left hm, Nat.add_comm]
        exact .cut x (dist_way n a (y :: b) (by simp only [List.length_cons]; omega))
      · rw [Nat.min_eq_right (by omega), Nat.add_comm]
        exact .put y (dist_way n (x :: a) b (by simp only [List.length_cons]; omega))

theorem way (a b : List UInt8) : Way a b (dist a b) := dist_way _ a b (Nat.le_refl _)

theorem Way.symm {a b : List UInt8} {n : Nat} (h : Way a b n) : Way b a n := by
  induction h with
  | nil => exact .nil
  | keep x _ ih => exact .keep x ih
  | cut x _ ih => exact .put x ih
  | put y _ ih => exact .cut y ih

theorem dist_symm (a b : List UInt8) : dist a b = dist b a := Nat.le_antisymm (way b a).symm.least (way a b).symm.least

theorem Way.same {a b : List UInt8} {n : Nat} (h : Way a b n) : n = 0 → a = b := by
  induction h with
  | nil => exact fun _ => rfl
  | keep x _ ih => exact fun e => by rw [ih e]
  | cut x _ ih => exact fun e => by omega
  | put y _ ih => exact fun e => by omega

theorem dist_self : ∀ a : List UInt8, dist a a = 0
  | [] => by simp [dist]
  | x :: a => by rw [dist_same]; exact dist_self a

theorem dist_zero (a b : List UInt8) : dist a b = 0 ↔ a = b :=
  ⟨fun h => (way a b).same h, fun h => by rw [h]; exact dist_self b⟩

/-- Ways one behind the other. -/
theorem Way.trans : ∀ {a b : List UInt8} {n : Nat}, Way a b n → ∀ {c : List UInt8} {m : Nat}, Way b c m → ∃ k, k ≤ n + m ∧ Way a c k := by
  intro a b n h
  induction h with
  | nil => exact fun h2 => ⟨_, by omega, h2⟩
  | @cut x a b n _ ih =>
    intro c m h2
    obtain ⟨k, hk, w⟩ := ih h2
    exact ⟨k + 1, by omega, .cut x w⟩
  | @keep x a b n h1 ih =>
    intro c m h2
    generalize hb : x :: b = b' at h2
    induction h2 with
    | nil => cases hb
    | keep y h3 _ =>
      cases hb
      obtain ⟨k, hk, w⟩ := ih h3
      exact ⟨k, hk, .keep x w⟩
    | @cut y b2 c2 m2 h3 _ =>
      cases hb
      obtain ⟨k, hk, w⟩ := ih h3
      exact ⟨k + 1, by omega, .cut x w⟩
    | @put y b2 c2 m2 h3 ih3 =>
      obtain ⟨k, hk, w⟩ := ih3 hb
      exact ⟨k + 1, by omega, .put y w⟩
  | @put x a b n h1 ih =>
    intro c m h2
    generalize hb : x :: b = b' at h2
    induction h2 with
    | nil => cases hb
    | keep y h3 _ =>
      cases hb
      obtain ⟨k, hk, w⟩ := ih h3
      exact ⟨k + 1, by omega, .put x w⟩
    | @cut y b2 c2 m2 h3 _ =>
      cases hb
      obtain ⟨k, hk, w⟩ := ih h3
      exact ⟨k, by omega, w⟩
    | @put y b2 c2 m2 h3 ih3 =>
      obtain ⟨k, hk, w⟩ := ih3 hb
      exact ⟨k + 1, by omega, .put y w⟩

theorem dist_triangle (a b c : List UInt8) : dist a c ≤ dist a b + dist b c := by
  obtain ⟨k, hk, w⟩ := (way a b).trans (way b c)
  exact Nat.le_trans w.least hk

theorem Way.append {a b : List UInt8} {n : Nat} (h : Way a b n) : ∀ {a' b' : List UInt8} {m : Nat}, Way a' b' m → Way (a ++ a') (b ++ b') (n + m) := by
  induction h with
  | nil => intro a' b' m h2; simpa using h2
  | keep x _ ih => intro a' b' m h2; exact .keep x (ih h2)
  | @cut x _ _ n _ ih => intro a' b' m h2; rw [Nat.add_right_comm]; exact .cut x (ih h2)
  | @put y _ _ n _ ih => intro a' b' m h2; rw [Nat.add_right_comm]; exact .put y (ih h2)

theorem Way.reverse {a b : List UInt8} {n : Nat} (h : Way a b n) : Way a.reverse b.reverse n := by
  induction h with
  | nil => exact .nil
  | @keep x a b n _ ih => rw [List.reverse_cons, List.reverse_cons]; exact ih.append (.keep x .nil)
  | @cut x a b n _ ih =>
    rw [List.reverse_cons]
    have := ih.append (.cut x .nil)
    rwa [List.append_nil] at this
  | @put y a b n _ ih =>
    rw [List.reverse_cons]
    have := ih.append (.put y .nil)
    rwa [List.append_nil] at this

theorem dist_reverse (a b : List UInt8) : dist a.reverse b.reverse = dist a b := by
  refine Nat.le_antisymm (way a b).reverse.least ?_
  have := (way a.reverse b.reverse).reverse
  rw [List.reverse_reverse, List.reverse_reverse] at this
  exact this.least

theorem dist_ahead (p a b : List UInt8) : dist (p ++ a) (p ++ b) = dist a b := by
  induction p with
  | nil => rfl
  | cons x p ih => rw [List.cons_append, List.cons_append, dist_same, ih]

theorem dist_behind (s a b : List UInt8) : dist (a ++ s) (b ++ s) = dist a b := by
  rw [← dist_reverse, List.reverse_append, List.reverse_append, dist_ahead, dist_reverse]

theorem dist_around (p a b s : List UInt8) : dist (p ++ a ++ s) (p ++ b ++ s) = dist a b := by rw [dist_behind, dist_ahead]

theorem dist_le (a b : List UInt8) : dist a b ≤ a.length + b.length := by
  have h := (way_cuts a).append (way_puts b)
  rw [List.append_nil, List.nil_append] at h
  exact h.least
end Go.Proofs.Ytmanafhdmijfeaa.Df
