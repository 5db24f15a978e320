/- Whole numbers as words of the binary floating point format: which words are they, how they are compared, added, cut. -/
import GoSem.Core.Float
import Derived.Laws.FloatArith
namespace Go.Proofs.YtjhakblijmaicaaDoor.Fl
open Ieee

theorem leastPlace_double : double.leastPlace = -1074 := by decide
theorem binade_double : double.binade = 2 ^ 52 := by rfl
theorem signWeight_double : double.signWeight = 2 ^ 63 := by rfl
theorem infRung_double : double.infRung = 2047 * 2 ^ 52 := by rfl

/-- The unit of the scale: every finite word is a whole number of 2^-1074. -/
def K74 : Nat := 1074
def U : Nat := 2 ^ K74
theorem U_eq : U = 2 ^ K74 := rfl
theorem K74_eq : K74 = 1074 := rfl
theorem U_pos : 0 < U := Nat.two_pow_pos _

/-- A number's value in units. -/
def mag1 (m : Nat) (e : Int) : Nat := m * 2 ^ (e + 1074).toNat

def V (s : Bool) (m : Nat) (e : Int) : Int := if s then -(mag1 m e : Int) else (mag1 m e : Int)

theorem read_place {b : Nat} {s : Bool} {m : Nat} {e : Int} (h : double.read b = .number s m e) : -1074 ≤ e := by
  unfold Format.read at h
  simp only [leastPlace_double] at h
  split at h
  · injection h with _ _ h3; omega
  · split at h
    · injection h with _ _ h3; omega
    · split at h <;> cases h

theorem signed_eq (s : Bool) (m k : Nat) : signed s m k = if s then -((m * 2 ^ k : Nat) : Int) else ((m * 2 ^ k : Nat) : Int) := by
  unfold signed; simp only [Nat.shiftLeft_eq]

theorem scale_mag (m : Nat) (i base : Int) (h1 : base ≤ i) (h2 : -1074 ≤ base) : m * 2 ^ (i - base).toNat * 2 ^ (base + 1074).toNat = mag1 m i := by
  unfold mag1
  rw [Nat.mul_assoc, ← Nat.pow_add]
  congr 2; omega

theorem V_signed (s : Bool) (m : Nat) (i base : Int) (h1 : base ≤ i) (h2 : -1074 ≤ base) : signed s m (i - base).toNat * ((2 ^ (base + 1074).toNat : Nat) : Int) = V s m i := by
  rw [signed_eq, V, ← scale_mag m i base h1 h2]
  split
  · rw [Int.neg_mul]; simp
  · simp

theorem compare_scale (a b : Int) (k : Nat) (hk : 0 < k) : compare (a * (k : Int)) (b * (k : Int)) = compare a b := by
  have hk' : (0 : Int) < (k : Int) := by omega
  simp only [compare, compareOfLessAndEq]
  by_cases h : a < b
  · have : a * (k : Int) < b * (k : Int) := Int.mul_lt_mul_of_pos_right h hk'
    simp [h, this]
  · by_cases h2 : a = b
    · subst h2; simp
    · have h3 : b < a := by omega
      have h4 : b * (k : Int) < a * (k : Int) := Int.mul_lt_mul_of_pos_right h3 hk'
      have h5 : ¬ a * (k : Int) < b * (k : Int) := by omega
      have h6 : ¬ a * (k : Int) = b * (k : Int) := by omega
      simp [h, h2, h5, h6]

theorem order_number (s t : Bool) (m n : Nat) (i j : Int) (hi : -1074 ≤ i) (hj : -1074 ≤ j) :
    Datum.order (.number s m i) (.number t n j) = some (compare (V s m i) (V t n j)) := by
  simp only [Datum.order]
  rw [← V_signed s m i (min i j) (by omega) (by omega), ← V_signed t n j (min i j) (by omega) (by omega), compare_scale _ _ _ (Nat.two_pow_pos _)]

/-- A word is a whole number n, either sign of nought being 0. -/
def Rep (b n : Nat) : Prop := ∃ s m e, double.read b = .number s m e ∧ V s m e = ((n * U : Nat) : Int)

/-- The rung of a whole number that is not nought. -/
def rungOf (n : Nat) : Nat := (n.log2 + 1022) * 2 ^ 52 + n * 2 ^ (52 - n.log2)

theorem log2_mul_pow (m k : Nat) (h : m ≠ 0) : (m * 2 ^ k).log2 = m.log2 + k := by
  have h1 := Nat.log2_self_le h
  have h2 := @Nat.lt_log2_self m
  have hm : m * 2 ^ k ≠ 0 := Nat.mul_ne_zero h (Nat.pos_iff_ne_zero.1 (Nat.two_pow_pos k))
  refine Nat.le_antisymm ?_ ?_
  · have : (m * 2 ^ k).log2 < m.log2 + k + 1 := by
      rw [Nat.log2_lt hm, show m.log2 + k + 1 = (m.log2 + 1) + k from by omega, Nat.pow_add]
      exact Nat.mul_lt_mul_of_pos_right h2 (Nat.two_pow_pos k)
    omega
  · rw [Nat.le_log2 hm, Nat.pow_add]
    exact Nat.mul_le_mul_right _ h1

theorem cut_zero (s : Bool) (n drop : Nat) : Toward.zero.cut s n drop = n / 2 ^ drop := by
  unfold Toward.cut
  simp only [Nat.shiftLeft_eq, Nat.one_mul, Bool.toNat_false, Nat.add_zero]
  by_cases h : drop ≤ n.log2 + 2
  · rw [Nat.min_eq_left h]
  · rw [Nat.min_eq_right (by omega)]
    have h1 : n < 2 ^ (n.log2 + 1) := Nat.lt_log2_self
    have h2 : 2 ^ (n.log2 + 1) ≤ 2 ^ (n.log2 + 2) := Nat.pow_le_pow_right (by decide) (by omega)
    have h3 : 2 ^ (n.log2 + 1) ≤ 2 ^ drop := Nat.pow_le_pow_right (by decide) (by omega)
    rw [Nat.div_eq_of_lt (by omega), Nat.div_eq_of_lt (by omega)]

theorem cut_even_exact (s : Bool) (n drop : Nat) (hn : n ≠ 0) : Toward.even.cut s (n * 2 ^ drop) drop = n := by
  unfold Toward.cut
  have hl : drop ≤ (n * 2 ^ drop).log2 + 2 := by rw [log2_mul_pow n drop hn]; omega
  simp only [Nat.shiftLeft_eq, Nat.one_mul]
  rw [Nat.min_eq_left hl, Nat.mul_div_cancel _ (Nat.two_pow_pos drop), Nat.mul_mod_left]
  have hp : 2 ^ drop ≠ 0 := Nat.pos_iff_ne_zero.1 (Nat.two_pow_pos drop)
  simp

theorem log2_lt_53 {n : Nat} (h0 : n ≠ 0) (h : n < 2 ^ 53) : n.log2 ≤ 52 := by
  have := (Nat.log2_lt h0 (k := 53)).2 h
  omega

theorem rungOf_parts {n : Nat} (h0 : n ≠ 0) (h : n < 2 ^ 53) : 2 ^ 52 ≤ n * 2 ^ (52 - n.log2) ∧ n * 2 ^ (52 - n.log2) < 2 * 2 ^ 52 := by
  have hl := log2_lt_53 h0 h
  have h1 := Nat.log2_self_le h0
  have h2 := @Nat.lt_log2_self n
  constructor
  · calc 2 ^ 52 = 2 ^ n.log2 * 2 ^ (52 - n.log2) := by rw [← Nat.pow_add]; congr 1; omega
      _ ≤ _ := Nat.mul_le_mul_right _ h1
  · calc n * 2 ^ (52 - n.log2) < 2 ^ (n.log2 + 1) * 2 ^ (52 - n.log2) := Nat.mul_lt_mul_of_pos_right h2 (Nat.two_pow_pos _)
      _ = 2 ^ 53 := by rw [← Nat.pow_add]; congr 1; omega
      _ = 2 * 2 ^ 52 := by decide

theorem rung_small (a q : Nat) (h : a ≤ 1074) (h2 : q < 2 * 2 ^ 52) : a * 2 ^ 52 + q ≤ 2047 * 2 ^ 52 := by omega

/-- The nearest word of a whole number's value, however it is spelled. -/
theorem nearest_val (s : Bool) (mag : Nat) (place : Int) (n : Nat) (h0 : n ≠ 0) (hn : n < 2 ^ 53) (hp : -1074 ≤ place) (hv : mag1 mag place = n * U) :
    double.nearest s mag place = double.word s (rungOf n) := by
  have hl := log2_lt_53 h0 hn
  have hr := rungOf_parts h0 hn
  have hq0 : n * 2 ^ (52 - n.log2) ≠ 0 := by omega
  have hU := U_eq
  have hm0 : mag ≠ 0 := by
    rintro rfl
    simp only [mag1, Nat.zero_mul] at hv
    rcases Nat.mul_eq_zero.1 hv.symm with h | h
    · exact h0 h
    · have := U_pos; omega
  have hlog : mag.log2 + (place + 1074).toNat = n.log2 + K74 := by
    rw [← log2_mul_pow mag _ hm0, ← log2_mul_pow n K74 h0, ← hU]
    exact congrArg Nat.log2 hv
  have hK := K74_eq
  unfold Format.nearest
  rw [if_neg hm0]
  have hlast : max (place + mag.log2 - (double.fractionBits : Int)) double.leastPlace = (n.log2 : Int) - 52 := by
    rw [leastPlace_double]
    show max (place + mag.log2 - (52 : Int)) (-1074) = _
    omega
  simp only [hlast]
  rw [leastPlace_double]
  have hk : Toward.even.cut s (mag <<< (place - ((n.log2 : Int) - 52)).toNat) ((n.log2 : Int) - 52 - place).toNat = n * 2 ^ (52 - n.log2) := by
    rw [Nat.shiftLeft_eq]
    unfold mag1 at hv
    by_cases hc : (n.log2 : Int) - 52 ≤ place
    · rw [show ((n.log2 : Int) - 52 - place).toNat = 0 from by omega]
      have e1 : mag * 2 ^ (place - ((n.log2 : Int) - 52)).toNat = n * 2 ^ (52 - n.log2) := by
        have hpos : 0 < 2 ^ ((n.log2 : Int) - 52 + 1074).toNat := Nat.two_pow_pos _
        refine Nat.eq_of_mul_eq_mul_right hpos ?_
        rw [Nat.mul_assoc, Nat.mul_assoc, ← Nat.pow_add, ← Nat.pow_add]
        rw [show (place - ((n.log2 : Int) - 52)).toNat + ((n.log2 : Int) - 52 + 1074).toNat = (place + 1074).toNat from by omega,
          show 52 - n.log2 + ((n.log2 : Int) - 52 + 1074).toNat = K74 from by omega, hv, hU]
      rw [e1]
      have := cut_even_exact s (n * 2 ^ (52 - n.log2)) 0 hq0
      rw [Nat.pow_zero, Nat.mul_one] at this
      exact this
    · rw [show (place - ((n.log2 : Int) - 52)).toNat = 0 from by omega, Nat.pow_zero, Nat.mul_one]
      have e1 : mag = n * 2 ^ (52 - n.log2) * 2 ^ ((n.log2 : Int) - 52 - place).toNat := by
        have hpos : 0 < 2 ^ (place + 1074).toNat := Nat.two_pow_pos _
        refine Nat.eq_of_mul_eq_mul_right hpos ?_
        have e9 : 52 - n.log2 + (((n.log2 : Int) - 52 - place).toNat + (place + 1074).toNat) = K74 := by omega
        rw [hv, hU, ← e9, Nat.pow_add, Nat.pow_add, Nat.mul_assoc, Nat.mul_assoc]
      rw [e1]
      exact cut_even_exact s _ _ hq0
  rw [hk]
  have e2 : ((n.log2 : Int) - 52 - -1074).toNat = n.log2 + 1022 := by omega
  rw [e2, binade_double, infRung_double]
  have e3 : rungOf n ≤ 2047 * 2 ^ 52 := by
    exact rung_small _ _ (Nat.add_le_add_right hl 1022) hr.2
  show double.word s (min (rungOf n) (2047 * 2 ^ 52)) = _
  rw [Nat.min_eq_left e3]

theorem read_word (s : Bool) {n : Nat} (h0 : n ≠ 0) (hn : n < 2 ^ 53) :
    double.read (double.word s (rungOf n)) = .number s (n * 2 ^ (52 - n.log2)) ((n.log2 : Int) - 52) := by
  have hl := log2_lt_53 h0 hn
  have hr := rungOf_parts h0 hn
  have hrung : rungOf n = (n.log2 + 1022) * 2 ^ 52 + n * 2 ^ (52 - n.log2) := rfl
  generalize n * 2 ^ (52 - n.log2) = q at *
  have hlt : rungOf n < 2 ^ 63 := by omega
  have hs1 : (double.word s (rungOf n)) / double.signWeight % 2 = s.toNat := by
    rw [signWeight_double]
    cases s
    · simp only [Format.word, Bool.toNat_false]; rw [if_neg (by decide)]; omega
    · simp only [Format.word, Bool.toNat_true]; rw [if_pos trivial, signWeight_double]; omega
  have hs2 : (double.word s (rungOf n)) % double.signWeight = rungOf n := by
    rw [signWeight_double]
    cases s
    · simp only [Format.word]; rw [if_neg (by decide)]; omega
    · simp only [Format.word]; rw [if_pos trivial, signWeight_double]; omega
  have hd : rungOf n / 2 ^ 52 = n.log2 + 1023 := by omega
  have hm : rungOf n % 2 ^ 52 = q - 2 ^ 52 := by omega
  have h1 : ¬ rungOf n < double.binade := by rw [binade_double]; omega
  have h2 : rungOf n < double.infRung := by rw [infRung_double]; omega
  unfold Format.read
  dsimp only
  rw [hs1, hs2, if_neg h1, if_pos h2, binade_double, leastPlace_double, hd, hm]
  rw [show 2 ^ 52 + (q - 2 ^ 52) = q from by omega, show (-1074 : Int) + ((n.log2 + 1023 - 1 : Nat) : Int) = (n.log2 : Int) - 52 from by omega]
  cases s <;> rfl

theorem mag1_word {n : Nat} (hl : n.log2 ≤ 52) : mag1 (n * 2 ^ (52 - n.log2)) ((n.log2 : Int) - 52) = n * U := by
  unfold mag1
  have hK := K74_eq
  rw [U_eq, Nat.mul_assoc, ← Nat.pow_add, show 52 - n.log2 + ((n.log2 : Int) - 52 + 1074).toNat = K74 from by omega]

theorem mag1_whole (n : Nat) : mag1 n 0 = n * U := by
  unfold mag1
  rw [U_eq, show ((0 : Int) + 1074).toNat = K74 from by have := K74_eq; omega]

theorem read_zero (s : Bool) : double.read (double.word s 0) = .number s 0 (-1074) := by cases s <;> decide

theorem nearest_zero (s : Bool) (place : Int) : double.nearest s 0 place = double.word s 0 := by unfold Format.nearest; rw [if_pos rfl]

/-- The word of a whole number. -/
def FN (n : Nat) : Nat := double.nearest false n 0

theorem rep_nearest (s : Bool) (mag : Nat) (place : Int) (n : Nat) (hs : s = true → n = 0) (hn : n < 2 ^ 53) (hp : -1074 ≤ place) (hv : mag1 mag place = n * U) :
    Rep (double.nearest s mag place) n := by
  by_cases h0 : n = 0
  · subst h0
    have hm : mag = 0 := by
      rw [Nat.zero_mul] at hv
      unfold mag1 at hv
      rcases Nat.mul_eq_zero.1 hv with h | h
      · exact h
      · exact absurd h (Nat.pos_iff_ne_zero.1 (Nat.two_pow_pos _))
    subst hm
    rw [nearest_zero]
    refine ⟨s, 0, -1074, read_zero s, ?_⟩
    cases s <;> simp [V, mag1]
  · have hsf : s = false := by cases s with
      | false => rfl
      | true => exact absurd (hs rfl) h0
    subst hsf
    rw [nearest_val false mag place n h0 hn hp hv]
    refine ⟨_, _, _, read_word false h0 hn, ?_⟩
    show V false _ _ = _
    unfold V
    rw [mag1_word (log2_lt_53 h0 hn)]
    rfl

theorem rep_FN {n : Nat} (hn : n < 2 ^ 53) : Rep (FN n) n := by
  refine rep_nearest false n 0 n (by intro h; cases h) hn (by omega) ?_
  exact mag1_whole n

theorem rep_negzero : Rep (2 ^ 63) 0 := by
  refine ⟨true, 0, -1074, by decide, ?_⟩
  simp [V, mag1]

theorem order_rep {a b m n : Nat} (h1 : Rep a m) (h2 : Rep b n) : double.order a b = some (compare m n) := by
  obtain ⟨s, p, i, r1, v1⟩ := h1
  obtain ⟨t, q, j, r2, v2⟩ := h2
  unfold Format.order
  rw [r1, r2, order_number s t p q i j (read_place r1) (read_place r2), v1, v2]
  rw [Int.natCast_mul, Int.natCast_mul, compare_scale _ _ _ U_pos]
  congr 1
  simp only [compare, compareOfLessAndEq]
  by_cases h : m < n
  · have : (m : Int) < n := by omega
    simp [h]
  · by_cases h2 : m = n
    · subst h2; simp
    · have : ¬ (m : Int) = n := by omega
      simp [h, h2, this]

theorem mag1_natAbs {t : Int} {base : Int} {n : Nat} (h : t * ((2 ^ (base + 1074).toNat : Nat) : Int) = ((n * U : Nat) : Int)) : mag1 t.natAbs base = n * U := by
  unfold mag1
  have h1 : (t * ((2 ^ (base + 1074).toNat : Nat) : Int)).natAbs = n * U := by rw [h]; rfl
  rw [Int.natAbs_mul] at h1
  exact h1

theorem add_rep {a b m n : Nat} (h1 : Rep a m) (h2 : Rep b n) (hs : m + n < 2 ^ 53) : ∃ c, double.add a b = some c ∧ Rep c (m + n) := by
  obtain ⟨s, p, i, r1, v1⟩ := h1
  obtain ⟨t, q, j, r2, v2⟩ := h2
  have hi := read_place r1
  have hj := read_place r2
  unfold Format.add
  rw [r1, r2]
  simp only [Datum.sum, Option.map_some, Format.write]
  refine ⟨_, rfl, ?_⟩
  have hb : -1074 ≤ min i j := by omega
  have hv : (signed s p (i - min i j).toNat + signed t q (j - min i j).toNat) * ((2 ^ (min i j + 1074).toNat : Nat) : Int) = (((m + n) * U : Nat) : Int) := by
    rw [Int.add_mul, V_signed s p i _ (by omega) hb, V_signed t q j _ (by omega) hb, v1, v2, Nat.add_mul, Int.natCast_add]
  have hpos : (0 : Int) < ((2 ^ (min i j + 1074).toNat : Nat) : Int) := by
    have := Nat.two_pow_pos (min i j + 1074).toNat
    omega
  generalize signed s p (i - min i j).toNat + signed t q (j - min i j).toNat = tot at *
  have hge : 0 ≤ tot := by
    by_cases h : 0 ≤ tot
    · exact h
    · have : tot * ((2 ^ (min i j + 1074).toNat : Nat) : Int) < 0 := Int.mul_neg_of_neg_of_pos (by omega) hpos
      omega
  refine rep_nearest _ _ _ _ ?_ hs hb (mag1_natAbs hv)
  intro hsg
  split at hsg
  · rename_i h; subst h
    rw [Int.zero_mul] at hv
    have : (m + n) * U = 0 := by omega
    rcases Nat.mul_eq_zero.1 this with h | h
    · exact h
    · have := U_pos; omega
  · simp at hsg; omega

theorem abs_bits {a n : Nat} (h : Rep a n) : Rep (a % 2 ^ 63) n := by
  obtain ⟨s, p, i, r, v⟩ := h
  by_cases hs : s = false
  · refine ⟨s, p, i, ?_, v⟩
    rw [← r]
    unfold Format.read at r ⊢
    simp only [signWeight_double] at r ⊢
    rw [Nat.mod_mod]
    subst hs
    have hd : ¬ (a / 2 ^ 63 % 2 == 1) = true := by
      intro hh
      rw [hh] at r
      split at r
      · cases r
      · split at r
        · cases r
        · split at r <;> cases r
    have hd' : (a / 2 ^ 63 % 2 == 1) = false := by simpa using hd
    rw [hd', show (a % 2 ^ 63 / 2 ^ 63 % 2 == 1) = false from by rw [Nat.div_eq_of_lt (Nat.mod_lt _ (Nat.two_pow_pos _))]; rfl]
  · have hs : s = true := by simpa using hs
    subst hs
    refine ⟨false, p, i, ?_, ?_⟩
    · unfold Format.read at r ⊢
      simp only [signWeight_double] at r ⊢
      rw [Nat.mod_mod]
      rw [show (a % 2 ^ 63 / 2 ^ 63 % 2 == 1) = false from by rw [Nat.div_eq_of_lt (Nat.mod_lt _ (Nat.two_pow_pos _))]; rfl]
      split
      · rename_i hc
        rw [if_pos hc] at r; injection r with r1 r2 r3; rw [r2, r3]
      · rename_i hc
        rw [if_neg hc] at r
        split
        · rename_i hc2
          rw [if_pos hc2] at r; injection r with r1 r2 r3; rw [r2, r3]
        · rename_i hc2
          rw [if_neg hc2] at r
          split at r <;> cases r
    · unfold V at v ⊢
      have h5 : (0 : Int) ≤ ((n * U : Nat) : Int) := Int.natCast_nonneg _
      have h6 : (0 : Int) ≤ ((mag1 p i : Nat) : Int) := Int.natCast_nonneg _
      rw [if_pos rfl] at v
      rw [if_neg (by decide)]
      generalize n * U = z at *
      omega

/-- The whole part of a word that is a number of units. -/
theorem trunc_rep {b : Nat} {s : Bool} {m : Nat} {e : Int} (r : double.read b = .number s m e) (h0 : 0 ≤ V s m e) (h1 : V s m e < ((2 ^ 53 * U : Nat) : Int)) :
    ∃ q : Nat, q = (V s m e).toNat / U ∧ (Datum.number s m e).integral .zero = .number s q 0 ∧ Rep (double.nearest s q 0) q := by
  have hp := read_place r
  have hmag : (V s m e).toNat = mag1 m e := by
    unfold V at h0 ⊢
    split
    · rename_i h; rw [if_pos h] at h0; omega
    · omega
  have hq : Toward.zero.cut s (m <<< e.toNat) (-e).toNat = mag1 m e / U := by
    rw [cut_zero, Nat.shiftLeft_eq, U_eq]
    unfold mag1
    by_cases he : 0 ≤ e
    · rw [show (-e).toNat = 0 from by omega, Nat.pow_zero, Nat.div_one, show (e + 1074).toNat = e.toNat + K74 from by have := K74_eq; omega, Nat.pow_add, ← Nat.mul_assoc, Nat.mul_div_cancel _ (Nat.two_pow_pos _)]
    · rw [show e.toNat = 0 from by omega, Nat.pow_zero, Nat.mul_one]
      have hK := K74_eq
      have : (2 : Nat) ^ K74 = 2 ^ (-e).toNat * 2 ^ (e + 1074).toNat := by rw [← Nat.pow_add]; congr 1; omega
      rw [this, Nat.mul_div_mul_right _ _ (Nat.two_pow_pos _)]
  have hm53 : mag1 m e < 2 ^ 53 * U := by omega
  have hlt : mag1 m e / U < 2 ^ 53 := by
    rw [Nat.div_lt_iff_lt_mul U_pos]; exact hm53
  refine ⟨mag1 m e / U, by rw [hmag], ?_, ?_⟩
  · simp only [Datum.integral]; rw [hq]
  · refine rep_nearest s _ 0 _ ?_ hlt (by omega) ?_
    · intro hs
      subst hs
      have : mag1 m e = 0 := by unfold V at h0; simp at h0; omega
      rw [this, Nat.zero_div]
    · exact mag1_whole _

theorem toInt_rep {b n : Nat} (h : Rep b n) (hn : n < 2 ^ 53) : (double.read b).toInt .zero = some (n : Int) := by
  obtain ⟨s, m, e, r, v⟩ := h
  have hU := U_pos
  obtain ⟨q, hq, hi, -⟩ := trunc_rep r (by omega) (by rw [v]; exact_mod_cast Nat.mul_lt_mul_of_pos_right hn hU)
  rw [v] at hq
  have hqn : q = n := by
    rw [hq]
    show n * U / U = n
    exact Nat.mul_div_cancel _ hU
  rw [r]
  unfold Datum.toInt
  rw [hi]
  simp only [signed, Nat.shiftLeft_zero]
  subst hqn
  by_cases hs : s = true
  · subst hs
    have : q = 0 := by
      unfold V at v
      simp only [if_true] at v
      have h0 : q * U = 0 := by
        have : (0 : Int) ≤ ((mag1 m e : Nat) : Int) := Int.natCast_nonneg _
        have h5 : (0 : Int) ≤ ((q * U : Nat) : Int) := Int.natCast_nonneg _
        generalize q * U = z at *
        omega
      rcases Nat.mul_eq_zero.1 h0 with h | h
      · exact h
      · exact absurd h (by omega)
    subst this; rfl
  · rw [if_neg hs]

/-- WHICH WORDS ARE PARTS OF A SPOT, and which numbers they are. -/
def part (b : Nat) : Option Nat :=
  match double.read b with
  | .number s m e => if 0 ≤ V s m e ∧ V s m e ≤ ((2 ^ 50 * U : Nat) : Int) ∧ (V s m e).toNat % U = 0 then some ((V s m e).toNat / U) else none
  | _ => none

theorem part_rep {b n : Nat} (h : part b = some n) : Rep b n ∧ n ≤ 2 ^ 50 := by
  unfold part at h
  split at h
  · rename_i s m e r
    split at h
    · rename_i hc
      obtain ⟨h0, h1, h2⟩ := hc
      injection h with h
      have hU := U_pos
      have e1 : n * U = (V s m e).toNat := by
        rw [← h]; exact Nat.div_mul_cancel (Nat.dvd_of_mod_eq_zero h2)
      refine ⟨⟨s, m, e, r, by omega⟩, ?_⟩
      have : n * U ≤ 2 ^ 50 * U := by omega
      exact Nat.le_of_mul_le_mul_right this hU
    · cases h
  · cases h

theorem part_of_rep {b n : Nat} (h : Rep b n) (hn : n ≤ 2 ^ 50) : part b = some n := by
  obtain ⟨s, m, e, r, v⟩ := h
  have hU := U_pos
  unfold part
  rw [r]
  simp only
  rw [v, if_pos]
  · show some (n * U / U) = _
    rw [Nat.mul_div_cancel _ hU]
  · refine ⟨by omega, ?_, ?_⟩
    · exact_mod_cast Nat.mul_le_mul_right U hn
    · show n * U % U = 0
      exact Nat.mul_mod_left _ _

/-- '>=' and '<=' as the walk spells them. -/
def geB (a b : Nat) : Bool := double.order a b == some .gt || double.order a b == some .eq
def leB (a b : Nat) : Bool := double.order a b == some .lt || double.order a b == some .eq
def eqB (a b : Nat) : Bool := double.order a b == some .eq

theorem rep_zero : Rep 0 0 := by
  refine ⟨false, 0, -1074, by decide, ?_⟩
  simp [V, mag1]

theorem FN_most : FN (2 ^ 50) = 4832362400168542208 := by decide
theorem rep_most : Rep 4832362400168542208 (2 ^ 50) := by rw [← FN_most]; exact rep_FN (by decide)

/-- The three ways of a word: below nought or no number; too great; else it is cut to a whole number, and is a part just where it is that number. -/
theorem three (b : Nat) :
    (geB b 0 = false ∧ part b = none) ∨ (geB b 0 = true ∧ leB b 4832362400168542208 = false ∧ part b = none) ∨
    (geB b 0 = true ∧ leB b 4832362400168542208 = true ∧ ∃ s m e q, double.read b = .number s m e ∧ (Datum.number s m e).integral .zero = .number s q 0 ∧ Rep (double.nearest s q 0) q ∧ q ≤ 2 ^ 50 ∧
      (double.read b).toInt .zero = some (q : Int) ∧ eqB b (double.nearest s q 0) = (part b).isSome ∧ eqB (FN q) b = (part b).isSome ∧ (part b = none ∨ part b = some q)) := by
  cases hr : double.read b with
  | nan s f =>
    refine Or.inl ⟨?_, by unfold part; rw [hr]⟩
    unfold geB Format.order; rw [hr]; rfl
  | infinity s =>
    cases s with
    | true =>
      refine Or.inl ⟨?_, by unfold part; rw [hr]⟩
      unfold geB Format.order; rw [hr]
      obtain ⟨t, n, j, r0, -⟩ := rep_zero
      rw [r0]; rfl
    | false =>
      refine Or.inr (Or.inl ⟨?_, ?_, by unfold part; rw [hr]⟩)
      · unfold geB Format.order; rw [hr]
        obtain ⟨t, n, j, r0, -⟩ := rep_zero
        rw [r0]; rfl
      · unfold leB Format.order; rw [hr]
        obtain ⟨t, n, j, r0, -⟩ := rep_most
        rw [r0]; rfl
  | number s m e =>
    have hp := read_place hr
    obtain ⟨t0, n0, j0, r0, v0⟩ := rep_zero
    obtain ⟨t1, n1, j1, r1, v1⟩ := rep_most
    have o0 : double.order b 0 = some (compare (V s m e) 0) := by
      unfold Format.order; rw [hr, r0, order_number s t0 m n0 e j0 hp (read_place r0), v0]; simp
    have o1 : double.order b 4832362400168542208 = some (compare (V s m e) ((2 ^ 50 * U : Nat) : Int)) := by
      unfold Format.order; rw [hr, r1, order_number s t1 m n1 e j1 hp (read_place r1), v1]
    have hU := U_pos
    by_cases h0 : 0 ≤ V s m e
    · have g0 : geB b 0 = true := by
        unfold geB; rw [o0]
        simp only [compare, compareOfLessAndEq]
        rw [if_neg (by omega)]
        split <;> rfl
      by_cases h1 : V s m e ≤ ((2 ^ 50 * U : Nat) : Int)
      · have g1 : leB b 4832362400168542208 = true := by
          unfold leB; rw [o1]
          simp only [compare, compareOfLessAndEq]
          by_cases h2 : V s m e < ((2 ^ 50 * U : Nat) : Int)
          · rw [if_pos h2]; rfl
          · rw [if_neg h2, if_pos (by omega)]; rfl
        refine Or.inr (Or.inr ⟨g0, g1, ?_⟩)
        have hlt : V s m e < ((2 ^ 53 * U : Nat) : Int) := by
          have : 2 ^ 50 * U < 2 ^ 53 * U := Nat.mul_lt_mul_of_pos_right (by decide) hU
          omega
        obtain ⟨q, hq, hi, hrep⟩ := trunc_rep hr h0 hlt
        have hq50 : q ≤ 2 ^ 50 := by
          rw [hq]
          have h3 : (V s m e).toNat ≤ 2 ^ 50 * U := by omega
          calc (V s m e).toNat / U ≤ 2 ^ 50 * U / U := Nat.div_le_div_right h3
            _ = 2 ^ 50 := Nat.mul_div_cancel _ hU
        have hpart : part b = if (V s m e).toNat % U = 0 then some q else none := by
          unfold part; rw [hr]
          simp only [h0, h1, true_and]
          rw [← hq]
        have key : ∀ t, Rep t q → double.order b t = some (compare (V s m e) ((q * U : Nat) : Int)) := by
          rintro t ⟨s2, m2, e2, r2, v2⟩
          unfold Format.order; rw [hr, r2, order_number s s2 m m2 e e2 hp (read_place r2), v2]
        have key2 : ∀ t, Rep t q → double.order t b = some (compare ((q * U : Nat) : Int) (V s m e)) := by
          rintro t ⟨s2, m2, e2, r2, v2⟩
          unfold Format.order; rw [hr, r2, order_number s2 s m2 m e2 e (read_place r2) hp, v2]
        have hdm : U * q + (V s m e).toNat % U = (V s m e).toNat := by rw [hq]; exact Nat.div_add_mod _ _
        rw [Nat.mul_comm] at hdm
        have heq : (V s m e = ((q * U : Nat) : Int)) ↔ (V s m e).toNat % U = 0 := by
          generalize q * U = z at *
          constructor <;> intro h <;> omega
        refine ⟨s, m, e, q, rfl, hi, hrep, hq50, ?_, ?_, ?_, ?_⟩
        · have hs0 : s = true → q = 0 := by
            intro hs; subst hs
            unfold V at h0 hq
            rw [if_pos rfl] at h0 hq
            have hz : mag1 m e = 0 := by omega
            rw [hz] at hq
            simpa using hq
          unfold Datum.toInt; rw [hi]
          simp only [signed, Nat.shiftLeft_zero]
          by_cases hs : s = true
          · rw [if_pos hs, hs0 hs]; rfl
          · rw [if_neg hs]
        · unfold eqB; rw [key _ hrep, hpart]
          by_cases h : V s m e = ((q * U : Nat) : Int)
          · rw [if_pos (heq.1 h), h]; simp
          · rw [if_neg (fun h' => h (heq.2 h'))]
            simp only [compare, compareOfLessAndEq, if_neg h]
            split <;> rfl
        · unfold eqB; rw [key2 _ (rep_FN (by omega)), hpart]
          by_cases h : V s m e = ((q * U : Nat) : Int)
          · rw [if_pos (heq.1 h), h]; simp
          · rw [if_neg (fun h' => h (heq.2 h'))]
            simp only [compare, compareOfLessAndEq]
            rw [if_neg (show ¬ ((q * U : Nat) : Int) = V s m e from fun h' => h h'.symm)]
            split <;> rfl
        · rw [hpart]; split
          · exact Or.inr rfl
          · exact Or.inl rfl
      · refine Or.inr (Or.inl ⟨g0, ?_, ?_⟩)
        · unfold leB; rw [o1]
          simp only [compare, compareOfLessAndEq]
          rw [if_neg (by omega), if_neg (by omega)]; rfl
        · unfold part; rw [hr]
          simp only
          rw [if_neg]; omega
    · refine Or.inl ⟨?_, ?_⟩
      · unfold geB; rw [o0]
        simp only [compare, compareOfLessAndEq]
        rw [if_pos (by omega)]; rfl
      · unfold part; rw [hr]
        simp only
        rw [if_neg]; omega

end Go.Proofs.YtjhakblijmaicaaDoor.Fl
