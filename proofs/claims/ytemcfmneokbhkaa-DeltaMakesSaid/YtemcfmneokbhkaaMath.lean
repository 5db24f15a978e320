/- Numbers, texts and lists as bytes, as plain mathematics: what is put, what is got, and that the two fit. -/
import Derived.Lib.BitFns
namespace Go.Proofs.Ytemcfmneokbhkaa.Wi

/-- The bytes of a number. -/
def num (n : Nat) : List UInt8 := if n < 128 then [UInt8.ofNat n] else UInt8.ofNat (n % 128 + 128) :: num (n / 128)
termination_by n
decreasing_by omega

theorem num_small {n : Nat} (h : n < 128) : num n = [UInt8.ofNat n] := by rw [num, if_pos h]
theorem num_big {n : Nat} (h : ¬ n < 128) : num n = UInt8.ofNat (n % 128 + 128) :: num (n / 128) := by rw [num, if_neg h]

theorem num_pos (n : Nat) : 0 < (num n).length := by
  by_cases h : n < 128
  · rw [num_small h]; simp
  · rw [num_big h]; simp

theorem byte_nat {x : Nat} (h : x < 256) : (UInt8.ofNat x).toNat = x := by rw [UInt8.toNat_ofNat']; omega

theorem num_len_le (k : Nat) : ∀ n, n < 128 ^ (k + 1) → (num n).length ≤ k + 1 := by
  induction k with
  | zero => intro n h; rw [num_small (by simpa using h)]; simp
  | succ k ih =>
    intro n h
    by_cases hn : n < 128
    · rw [num_small hn]; simp
    · rw [num_big hn, List.length_cons]
      have := ih (n / 128) (by rw [Nat.pow_succ] at h; omega)
      omega

theorem num_len_nine {n : Nat} (h : n < 9223372036854775808) : (num n).length ≤ 9 := num_len_le 8 n (Nat.lt_of_lt_of_le h (by decide))

theorem num_len_mono : ∀ (m n : Nat), n ≤ m → (num n).length ≤ (num m).length := by
  intro m
  induction m using Nat.strongRecOn with
  | ind m ih =>
    intro n h
    by_cases hn : n < 128
    · rw [num_small hn]; exact num_pos m
    · have hm : ¬ m < 128 := by omega
      rw [num_big hn, num_big hm, List.length_cons, List.length_cons]
      have := ih (m / 128) (by omega) (n / 128) (Nat.div_le_div_right h)
      omega

theorem num_len_times {n : Nat} (h : 0 < n) : (num (128 * n)).length = (num n).length + 1 := by
  rw [num_big (show ¬ 128 * n < 128 by omega), List.length_cons, Nat.mul_div_cancel_left n (by decide)]

/-- The number that stands at the beginning: the number, how many bytes it has, and 0, or the error's number. -/
def get (i acc : Nat) : List UInt8 → Nat × Nat × Nat
  | [] => (0, 0, 8)
  | c :: r =>
    if 128 ≤ c.toNat then (if i = 8 then (0, 0, 9) else get (i + 1) (acc + c.toNat % 128 * 128 ^ i) r)
    else if c.toNat = 0 ∧ 0 < i then (0, 0, 7) else (acc + c.toNat * 128 ^ i, i + 1, 0)

theorem get_nil (i acc : Nat) : get i acc [] = (0, 0, 8) := rfl
theorem get_range {i acc : Nat} {c : UInt8} (r : List UInt8) (h : 128 ≤ c.toNat) (h8 : i = 8) : get i acc (c :: r) = (0, 0, 9) := by
  rw [get, if_pos h, if_pos h8]
theorem get_more {i acc : Nat} {c : UInt8} (r : List UInt8) (h : 128 ≤ c.toNat) (h8 : ¬ i = 8) : get i acc (c :: r) = get (i + 1) (acc + c.toNat % 128 * 128 ^ i) r := by
  rw [get, if_pos h, if_neg h8]
theorem get_form {i acc : Nat} {c : UInt8} (r : List UInt8) (h : c.toNat = 0) (h0 : 0 < i) : get i acc (c :: r) = (0, 0, 7) := by
  rw [get, if_neg (by omega), if_pos ⟨h, h0⟩]
theorem get_last {i acc : Nat} {c : UInt8} (r : List UInt8) (h : ¬ 128 ≤ c.toNat) (h0 : ¬ (c.toNat = 0 ∧ 0 < i)) : get i acc (c :: r) = (acc + c.toNat * 128 ^ i, i + 1, 0) := by
  rw [get, if_neg h, if_neg h0]

theorem get_num : ∀ (n i acc : Nat) (r : List UInt8), i < 9 → n < 128 ^ (9 - i) → (i = 0 ∨ 0 < n) →
    get i acc (num n ++ r) = (acc + n * 128 ^ i, i + (num n).length, 0) := by
  intro n
  induction n using Nat.strongRecOn with
  | ind n ih =>
    intro i acc r hi hn h0
    by_cases h : n < 128
    · rw [num_small h]
      have hb := byte_nat (show n < 256 by omega)
      show get i acc (UInt8.ofNat n :: r) = _
      rw [get_last r (by omega) (by omega), hb]
      simp
    · rw [num_big h]
      have hb := byte_nat (show n % 128 + 128 < 256 by omega)
      show get i acc (UInt8.ofNat (n % 128 + 128) :: (num (n / 128) ++ r)) = _
      have h8 : ¬ i = 8 := by
        rintro rfl
        exact h (by simpa using hn)
      obtain ⟨j, hj⟩ : ∃ j, 9 - i = j + 1 := ⟨8 - i, by omega⟩
      have hlt : n / 128 < 128 ^ (9 - (i + 1)) := by
        rw [hj, Nat.pow_succ] at hn
        rw [show 9 - (i + 1) = j by omega]
        omega
      rw [get_more _ (by omega) h8, ih (n / 128) (by omega) (i + 1) _ r (by omega) hlt (by omega), hb]
      have e1 : (n % 128 + 128) % 128 = n % 128 := by omega
      have e2 : n / 128 * 128 ^ (i + 1) = n / 128 * 128 * 128 ^ i := by rw [Nat.pow_succ, Nat.mul_comm (128 ^ i) 128, Nat.mul_assoc]
      have e3 : n % 128 * 128 ^ i + n / 128 * 128 * 128 ^ i = n * 128 ^ i := by rw [← Nat.add_mul]; congr 1; omega
      rw [e1, e2, List.length_cons]
      simp only [Prod.mk.injEq, and_true]
      omega

theorem get_cut : ∀ (n i acc k : Nat), i < 9 → n < 128 ^ (9 - i) → k < (num n).length → get i acc ((num n).take k) = (0, 0, 8) := by
  intro n
  induction n using Nat.strongRecOn with
  | ind n ih =>
    intro i acc k hi hn hk
    cases k with
    | zero => rfl
    | succ k =>
      by_cases h : n < 128
      · rw [num_small h] at hk; simp at hk
      · rw [num_big h] at hk ⊢
        have hb := byte_nat (show n % 128 + 128 < 256 by omega)
        have h8 : ¬ i = 8 := by
          rintro rfl
          exact h (by simpa using hn)
        obtain ⟨j, hj⟩ : ∃ j, 9 - i = j + 1 := ⟨8 - i, by omega⟩
        have hlt : n / 128 < 128 ^ (9 - (i + 1)) := by
          rw [hj, Nat.pow_succ] at hn
          rw [show 9 - (i + 1) = j by omega]
          omega
        rw [List.take_succ_cons, get_more _ (by omega) h8]
        exact ih (n / 128) (by omega) (i + 1) _ k (by omega) hlt (by simpa using hk)

/-- What is got has just the bytes that stand there. -/
theorem get_just : ∀ (l : List UInt8) (i acc m c : Nat), i ≤ 8 → get i acc l = (m, c, 0) →
    ∃ n, m = acc + n * 128 ^ i ∧ n < 128 ^ (9 - i) ∧ (0 < i → 0 < n) ∧ c = i + (num n).length ∧ ∃ r, l = num n ++ r := by
  intro l
  induction l with
  | nil => intro i acc m c _ h; rw [get_nil] at h; simp at h
  | cons x r ih =>
    intro i acc m c hi h
    have hx : x.toNat < 256 := x.toNat_lt
    by_cases h1 : 128 ≤ x.toNat
    · by_cases h8 : i = 8
      · rw [get_range r h1 h8] at h; simp at h
      · rw [get_more r h1 h8] at h
        obtain ⟨n, e1, e2, e3, e4, s, e5⟩ := ih (i + 1) _ m c (by omega) h
        have hn : 0 < n := e3 (by omega)
        obtain ⟨j, hj⟩ : ∃ j, 9 - i = j + 1 := ⟨8 - i, by omega⟩
        rw [show 9 - (i + 1) = j by omega] at e2
        have q : num (x.toNat % 128 + n * 128) = x :: num n := by
          rw [num_big (by omega), show (x.toNat % 128 + n * 128) / 128 = n by omega, show (x.toNat % 128 + n * 128) % 128 + 128 = x.toNat by omega]
          simp
        refine ⟨x.toNat % 128 + n * 128, ?_, ?_, fun _ => by omega, ?_, s, ?_⟩
        · rw [e1, Nat.pow_succ, Nat.add_mul, ← Nat.add_assoc, Nat.mul_comm (128 ^ i) 128, Nat.mul_assoc]
        · rw [hj, Nat.pow_succ]; omega
        · rw [q, e4, List.length_cons]; omega
        · rw [q, e5]; rfl
    · by_cases h0 : x.toNat = 0 ∧ 0 < i
      · rw [get_form r h0.1 h0.2] at h; simp at h
      · rw [get_last r h1 h0] at h
        simp only [Prod.mk.injEq, and_true] at h
        obtain ⟨rfl, rfl⟩ := h
        have q : num x.toNat = [x] := by rw [num_small (by omega)]; simp
        have hp : 128 ^ 1 ≤ 128 ^ (9 - i) := Nat.pow_le_pow_right (by decide) (by omega)
        refine ⟨x.toNat, rfl, by omega, fun h => by omega, by rw [q]; rfl, r, by rw [q]; rfl⟩

/-- The number that stands at a place. -/
def getNum (l : List UInt8) (p : Int) : Nat × Nat × Nat :=
  if p < 0 ∨ (l.length : Int) < p then (0, 0, 1)
  else ((get 0 0 (l.drop p.toNat)).1, if (get 0 0 (l.drop p.toNat)).2.2 = 0 then p.toNat + (get 0 0 (l.drop p.toNat)).2.1 else 0, (get 0 0 (l.drop p.toNat)).2.2)

theorem getNum_arg {l : List UInt8} {p : Int} (h : p < 0 ∨ (l.length : Int) < p) : getNum l p = (0, 0, 1) := if_pos h
theorem getNum_in {l : List UInt8} {k : Nat} (h : k ≤ l.length) :
    getNum l k = ((get 0 0 (l.drop k)).1, if (get 0 0 (l.drop k)).2.2 = 0 then k + (get 0 0 (l.drop k)).2.1 else 0, (get 0 0 (l.drop k)).2.2) := if_neg (by omega)

theorem getNum_ok {l : List UInt8} {k n c : Nat} (h : k ≤ l.length) (hg : get 0 0 (l.drop k) = (n, c, 0)) : getNum l k = (n, k + c, 0) := by
  rw [getNum_in h, hg]; rfl
theorem getNum_err {l : List UInt8} {k e : Nat} (h : k ≤ l.length) (hg : get 0 0 (l.drop k) = (0, 0, e)) (he : e ≠ 0) : getNum l k = (0, 0, e) := by
  rw [getNum_in h, hg]; simp [he]

theorem pow9 : (128 ^ (9 - 0) : Nat) = 9223372036854775808 := by decide

theorem getNum_put (a r : List UInt8) {n : Nat} (h : n < 9223372036854775808) : getNum (a ++ (num n ++ r)) a.length = (n, a.length + (num n).length, 0) := by
  have hg := get_num n 0 0 r (by decide) (by rw [pow9]; exact h) (Or.inl rfl)
  rw [getNum_ok (n := n) (c := (num n).length) (by simp) (by rw [List.drop_left, hg]; simp)]

theorem getNum_just {l : List UInt8} {p : Int} {n next : Nat} (h : getNum l p = (n, next, 0)) :
    ∃ k : Nat, p = k ∧ n < 9223372036854775808 ∧ next = k + (num n).length ∧ next ≤ l.length ∧ ∃ r, l.drop k = num n ++ r ∧ r = l.drop next := by
  by_cases hp : p < 0 ∨ (l.length : Int) < p
  · rw [getNum_arg hp] at h; simp at h
  · obtain ⟨k, rfl⟩ := Int.eq_ofNat_of_zero_le (show 0 ≤ p by omega)
    have hk : k ≤ l.length := by omega
    rw [getNum_in hk] at h
    obtain ⟨m, c, e⟩ : ∃ m c, ∃ e, get 0 0 (l.drop k) = (m, c, e) := ⟨_, _, _, rfl⟩
    obtain ⟨e, he⟩ := e
    rw [he] at h
    simp only [Prod.mk.injEq] at h
    obtain ⟨rfl, h2, rfl⟩ := h
    obtain ⟨n, e1, e2, -, e4, r, e5⟩ := get_just _ 0 0 m c (by decide) he
    simp only [if_true] at h2
    have : m = n := by rw [e1]; simp
    subst this
    rw [pow9] at e2
    have hl : (l.drop k).length = (num m).length + r.length := by rw [e5]; simp
    rw [List.length_drop] at hl
    refine ⟨k, rfl, e2, by omega, by omega, r, e5, ?_⟩
    rw [show next = k + (num m).length by omega, ← List.drop_drop, e5, List.drop_left]

end Go.Proofs.Ytemcfmneokbhkaa.Wi
