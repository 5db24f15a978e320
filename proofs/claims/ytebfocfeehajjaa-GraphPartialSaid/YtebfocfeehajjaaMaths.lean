/- Numbers, texts and lists as bytes, as plain mathematics: what is put, what is got, and that the two fit. · Texts and lists as bytes, as plain mathematics: what is put, what is got, and that the two fit; how many bytes a number has. · Readers, without memory: what is written is read, less of it ends too early, and what is read is just what was written; one behind the other, and lists. · Commits, without memory: their bytes, and what is read. · Commits, without memory: which may be. `less`: which of two digests is ahead. -/
import Derived.Lib.BitFns
namespace Go.Proofs.Ytebfocfeehajjaa.Wi

/-- The bytes of a number. -/
def num (n : Nat) : List UInt8 := if n < 128 then [UInt8.ofNat n] else UInt8.ofNat (n % 128 + 128) :: num (n / 128)
termination_by n
decreasing_by omega

theorem num_small {n : Nat} (h : n < 128) : num n = [UInt8.ofNat n] := by rw [num, if_pos h]
theorem num_big {n : Nat} (h : ¬ n < 128) : num n = UInt8.ofNat (n % 128 + 128) :: num (n / 128) := by rw [num, if_neg h]

theorem num_pos (n : Nat) : 0 < (num n).length := by
  by_cases h : n < 128
  · rw [num_small h]; simp
  · rw [num_big h]; simp

theorem byte_nat {x : Nat} (h : x < 256) : (UInt8.ofNat x).toNat = x := by rw [UInt8.toNat_ofNat']; omega

theorem num_len_le (k : Nat) : ∀ n, n < 128 ^ (k + 1) → (num n).length ≤ k + 1 := by
  induction k with
  | zero => intro n h; rw [num_small (by simpa using h)]; simp
  | succ k ih =>
    intro n h
    by_cases hn : n < 128
    · rw [num_small hn]; simp
    · rw [num_big hn, List.length_cons]
      have := ih (n / 128) (by rw [Nat.pow_succ] at h; omega)
      omega

theorem num_len_nine {n : Nat} (h : n < 9223372036854775808) : (num n).length ≤ 9 := num_len_le 8 n (Nat.lt_of_lt_of_le h (by decide))

theorem num_len_mono : ∀ (m n : Nat), n ≤ m → (num n).length ≤ (num m).length := by
  intro m
  induction m using Nat.strongRecOn with
  | ind m ih =>
    intro n h
    by_cases hn : n < 128
    · rw [num_small hn]; exact num_pos m
    · have hm : ¬ m < 128 := by omega
      rw [num_big hn, num_big hm, List.length_cons, List.length_cons]
      have := ih (m / 128) (by omega) (n / 128) (Nat.div_le_div_right h)
      omega

theorem num_len_times {n : Nat} (h : 0 < n) : (num (128 * n)).length = (num n).length + 1 := by
  rw [num_big (show ¬ 128 * n < 128 by omega), List.length_cons, Nat.mul_div_cancel_left n (by decide)]

/-- The number that stands at the beginning: the number, how many bytes it has, and 0, or the error's number. -/
def get (i acc : Nat) : List UInt8 → Nat × Nat × Nat
  | [] => (0, 0, 8)
  | c :: r =>
    if 128 ≤ c.toNat then (if i = 8 then (0, 0, 9) else get (i + 1) (acc + c.toNat % 128 * 128 ^ i) r)
    else if c.toNat = 0 ∧ 0 < i then (0, 0, 7) else (acc + c.toNat * 128 ^ i, i + 1, 0)

theorem get_nil (i acc : Nat) : get i acc [] = (0, 0, 8) := rfl
theorem get_range {i acc : Nat} {c : UInt8} (r : List UInt8) (h : 128 ≤ c.toNat) (h8 : i = 8) : get i acc (c :: r) = (0, 0, 9) := by
  rw [get, if_pos h, if_pos h8]
theorem get_more {i acc : Nat} {c : UInt8} (r : List UInt8) (h : 128 ≤ c.toNat) (h8 : ¬ i = 8) : get i acc (c :: r) = get (i + 1) (acc + c.toNat % 128 * 128 ^ i) r := by
  rw [get, if_pos h, if_neg h8]
theorem get_form {i acc : Nat} {c : UInt8} (r : List UInt8) (h : c.toNat = 0) (h0 : 0 < i) : get i acc (c :: r) = (0, 0, 7) := by
  rw [get, if_neg (by omega), if_pos ⟨h, h0⟩]
theorem get_last {i acc : Nat} {c : UInt8} (r : List UInt8) (h : ¬ 128 ≤ c.toNat) (h0 : ¬ (c.toNat = 0 ∧ 0 < i)) : get i acc (c :: r) = (acc + c.toNat * 128 ^ i, i + 1, 0) := by
  rw [get, if_neg h, if_neg h0]

theorem get_num : ∀ (n i acc : Nat) (r : List UInt8), i < 9 → n < 128 ^ (9 - i) → (i = 0 ∨ 0 < n) →
    get i acc (num n ++ r) = (acc + n * 128 ^ i, i + (num n).length, 0) := by
  intro n
  induction n using Nat.strongRecOn with
  | ind n ih =>
    intro i acc r hi hn h0
    by_cases h : n < 128
    · rw [num_small h]
      have hb := byte_nat (show n < 256 by omega)
      show get i acc (UInt8.ofNat n :: r) = _
      rw [get_last r (by omega) (by omega), hb]
      simp
    · rw [num_big h]
      have hb := byte_nat (show n % 128 + 128 < 256 by omega)
      show get i acc (UInt8.ofNat (n % 128 + 128) :: (num (n / 128) ++ r)) = _
      have h8 : ¬ i = 8 := by
        rintro rfl
        exact h (by simpa using hn)
      obtain ⟨j, hj⟩ : ∃ j, 9 - i = j + 1 := ⟨8 - i, by omega⟩
      have hlt : n / 128 < 128 ^ (9 - (i + 1)) := by
        rw [hj, Nat.pow_succ] at hn
        rw [show 9 - (i + 1) = j by omega]
        omega
      rw [get_more _ (by omega) h8, ih (n / 128) (by omega) (i + 1) _ r (by omega) hlt (by omega), hb]
      have e1 : (n % 128 + 128) % 128 = n % 128 := by omega
      have e2 : n / 128 * 128 ^ (i + 1) = n / 128 * 128 * 128 ^ i := by rw [Nat.pow_succ, Nat.mul_comm (128 ^ i) 128, Nat.mul_assoc]
      have e3 : n % 128 * 128 ^ i + n / 128 * 128 * 128 ^ i = n * 128 ^ i := by rw [← Nat.add_mul]; congr 1; omega
      rw [e1, e2, List.length_cons]
      simp only [Prod.mk.injEq, and_true]
      omega

theorem get_cut : ∀ (n i acc k : Nat), i < 9 → n < 128 ^ (9 - i) → k < (num n).length → get i acc ((num n).take k) = (0, 0, 8) := by
  intro n
  induction n using Nat.strongRecOn with
  | ind n ih =>
    intro i acc k hi hn hk
    cases k with
    | zero => rfl
    | succ k =>
      by_cases h : n < 128
      · rw [num_small h] at hk; simp at hk
      · rw [num_big h] at hk ⊢
        have hb := byte_nat (show n % 128 + 128 < 256 by omega)
        have h8 : ¬ i = 8 := by
          rintro rfl
          exact h (by simpa using hn)
        obtain ⟨j, hj⟩ : ∃ j, 9 - i = j + 1 := ⟨8 - i, by omega⟩
        have hlt : n / 128 < 128 ^ (9 - (i + 1)) := by
          rw [hj, Nat.pow_succ] at hn
          rw [show 9 - (i + 1) = j by omega]
          omega
        rw [List.take_succ_cons, get_more _ (by omega) h8]
        exact ih (n / 128) (by omega) (i + 1) _ k (by omega) hlt (by simpa using hk)

/-- What is got has just the bytes that stand there. -/
theorem get_just : ∀ (l : List UInt8) (i acc m c : Nat), i ≤ 8 → get i acc l = (m, c, 0) →
    ∃ n, m = acc + n * 128 ^ i ∧ n < 128 ^ (9 - i) ∧ (0 < i → 0 < n) ∧ c = i + (num n).length ∧ ∃ r, l = num n ++ r := by
  intro l
  induction l with
  | nil => intro i acc m c _ h; rw [get_nil] at h; simp at h
  | cons x r ih =>
    intro i acc m c hi h
    have hx : x.toNat < 256 := x.toNat_lt
    by_cases h1 : 128 ≤ x.toNat
    · by_cases h8 : i = 8
      · rw [get_range r h1 h8] at h; simp at h
      · rw [get_more r h1 h8] at h
        obtain ⟨n, e1, e2, e3, e4, s, e5⟩ := ih (i + 1) _ m c (by omega) h
        have hn : 0 < n := e3 (by omega)
        obtain ⟨j, hj⟩ : ∃ j, 9 - i = j + 1 := ⟨8 - i, by omega⟩
        rw [show 9 - (i + 1) = j by omega] at e2
        have q : num (x.toNat % 128 + n * 128) = x :: num n := by
          rw [num_big (by omega), show (x.toNat % 128 + n * 128) / 128 = n by omega, show (x.toNat % 128 + n * 128) % 128 + 128 = x.toNat by omega]
          simp
        refine ⟨x.toNat % 128 + n * 128, ?_, ?_, fun _ => by omega, ?_, s, ?_⟩
        · rw [e1, Nat.pow_succ, Nat.add_mul, ← Nat.add_assoc, Nat.mul_comm (128 ^ i) 128, Nat.mul_assoc]
        · rw [hj, Nat.pow_succ]; omega
        · rw [q, e4, List.length_cons]; omega
        · rw [q, e5]; rfl
    · by_cases h0 : x.toNat = 0 ∧ 0 < i
      · rw [get_form r h0.1 h0.2] at h; simp at h
      · rw [get_last r h1 h0] at h
        simp only [Prod.mk.injEq, and_true] at h
        obtain ⟨rfl, rfl⟩ := h
        have q : num x.toNat = [x] := by rw [num_small (by omega)]; simp
        have hp : 128 ^ 1 ≤ 128 ^ (9 - i) := Nat.pow_le_pow_right (by decide) (by omega)
        refine ⟨x.toNat, rfl, by omega, fun h => by omega, by rw [q]; rfl, r, by rw [q]; rfl⟩

/-- The number that stands at a place. -/
def getNum (l : List UInt8) (p : Int) : Nat × Nat × Nat :=
  if p < 0 ∨ (l.length : Int) < p then (0, 0, 1)
  else ((get 0 0 (l.drop p.toNat)).1, if (get 0 0 (l.drop p.toNat)).2.2 = 0 then p.toNat + (get 0 0 (l.drop p.toNat)).2.1 else 0, (get 0 0 (l.drop p.toNat)).2.2)

theorem getNum_arg {l : List UInt8} {p : Int} (h : p < 0 ∨ (l.length : Int) < p) : getNum l p = (0, 0, 1) := if_pos h
theorem getNum_in {l : List UInt8} {k : Nat} (h : k ≤ l.length) :
    getNum l k = ((get 0 0 (l.drop k)).1, if (get 0 0 (l.drop k)).2.2 = 0 then k + (get 0 0 (l.drop k)).2.1 else 0, (get 0 0 (l.drop k)).2.2) := if_neg (by omega)

theorem getNum_ok {l : List UInt8} {k n c : Nat} (h : k ≤ l.length) (hg : get 0 0 (l.drop k) = (n, c, 0)) : getNum l k = (n, k + c, 0) := by
  rw [getNum_in h, hg]; rfl
theorem getNum_err {l : List UInt8} {k e : Nat} (h : k ≤ l.length) (hg : get 0 0 (l.drop k) = (0, 0, e)) (he : e ≠ 0) : getNum l k = (0, 0, e) := by
  rw [getNum_in h, hg]; simp [he]

theorem pow9 : (128 ^ (9 - 0) : Nat) = 9223372036854775808 := by decide

theorem getNum_put (a r : List UInt8) {n : Nat} (h : n < 9223372036854775808) : getNum (a ++ (num n ++ r)) a.length = (n, a.length + (num n).length, 0) := by
  have hg := get_num n 0 0 r (by decide) (by rw [pow9]; exact h) (Or.inl rfl)
  rw [getNum_ok (n := n) (c := (num n).length) (by simp) (by rw [List.drop_left, hg]; simp)]

theorem getNum_just {l : List UInt8} {p : Int} {n next : Nat} (h : getNum l p = (n, next, 0)) :
    ∃ k : Nat, p = k ∧ n < 9223372036854775808 ∧ next = k + (num n).length ∧ next ≤ l.length ∧ ∃ r, l.drop k = num n ++ r ∧ r = l.drop next := by
  by_cases hp : p < 0 ∨ (l.length : Int) < p
  · rw [getNum_arg hp] at h; simp at h
  · obtain ⟨k, rfl⟩ := Int.eq_ofNat_of_zero_le (show 0 ≤ p by omega)
    have hk : k ≤ l.length := by omega
    rw [getNum_in hk] at h
    obtain ⟨m, c, e⟩ : ∃ m c, ∃ e, get 0 0 (l.drop k) = (m, c, e) := ⟨_, _, _, rfl⟩
    obtain ⟨e, he⟩ := e
    rw [he] at h
    simp only [Prod.mk.injEq] at h
    obtain ⟨rfl, h2, rfl⟩ := h
    obtain ⟨n, e1, e2, -, e4, r, e5⟩ := get_just _ 0 0 m c (by decide) he
    simp only [if_true] at h2
    have : m = n := by rw [e1]; simp
    subst this
    rw [pow9] at e2
    have hl : (l.drop k).length = (num m).length + r.length := by rw [e5]; simp
    rw [List.length_drop] at hl
    refine ⟨k, rfl, e2, by omega, by omega, r, e5, ?_⟩
    rw [show next = k + (num m).length by omega, ← List.drop_drop, e5, List.drop_left]

end Go.Proofs.Ytebfocfeehajjaa.Wi

namespace Go.Proofs.Ytebfocfeehajjaa.Wi

theorem getNum_le {l : List UInt8} {p : Int} {n next : Nat} (h : getNum l p = (n, next, 0)) : next ≤ l.length := (getNum_just h).choose_spec.2.2.2.1

/-- The bytes of a text, of texts one behind the other, of a list of texts. -/
def text (s : List UInt8) : List UInt8 := num s.length ++ s
def texts : List (List UInt8) → List UInt8
  | [] => []
  | s :: r => text s ++ texts r
def list (L : List (List UInt8)) : List UInt8 := num L.length ++ texts L

theorem text_length (s : List UInt8) : (text s).length = (num s.length).length + s.length := by unfold text; simp

theorem texts_snoc (L : List (List UInt8)) (s : List UInt8) : texts (L ++ [s]) = texts L ++ text s := by
  induction L with
  | nil => simp [texts]
  | cons t r ih => simp [texts, ih]

/-- The text that stands at a place. -/
def getText (l : List UInt8) (p : Int) : List UInt8 × Nat × Nat :=
  if (getNum l p).2.2 ≠ 0 then ([], 0, (getNum l p).2.2)
  else if 131072 < (getNum l p).1 then ([], 0, 3)
  else if l.length < (getNum l p).2.1 + (getNum l p).1 then ([], 0, 8)
  else ((l.drop (getNum l p).2.1).take (getNum l p).1, (getNum l p).2.1 + (getNum l p).1, 0)

theorem getText_err {l : List UInt8} {p : Int} {n next e : Nat} (h : getNum l p = (n, next, e)) (he : e ≠ 0) : getText l p = ([], 0, e) := by
  unfold getText; rw [h]; exact if_pos he
theorem getText_long {l : List UInt8} {p : Int} {n next : Nat} (h : getNum l p = (n, next, 0)) (hn : 131072 < n) : getText l p = ([], 0, 3) := by
  unfold getText; rw [h, if_neg (by simp), if_pos hn]
theorem getText_end {l : List UInt8} {p : Int} {n next : Nat} (h : getNum l p = (n, next, 0)) (hn : n ≤ 131072) (hl : l.length < next + n) : getText l p = ([], 0, 8) := by
  unfold getText; rw [h, if_neg (by simp), if_neg (by simpa using hn), if_pos hl]
theorem getText_ok {l : List UInt8} {p : Int} {n next : Nat} (h : getNum l p = (n, next, 0)) (hn : n ≤ 131072) (hl : next + n ≤ l.length) :
    getText l p = ((l.drop next).take n, next + n, 0) := by
  unfold getText; rw [h, if_neg (by simp), if_neg (by simpa using hn), if_neg (by simpa using hl)]

/-- So many texts that stand there, one behind the other. -/
def getTexts (l : List UInt8) : Nat → Nat → List (List UInt8) × Nat × Nat
  | 0, p => ([], p, 0)
  | k + 1, p =>
    if (getText l p).2.2 ≠ 0 then ([], 0, (getText l p).2.2)
    else if (getTexts l k (getText l p).2.1).2.2 ≠ 0 then ([], 0, (getTexts l k (getText l p).2.1).2.2)
    else ((getText l p).1 :: (getTexts l k (getText l p).2.1).1, (getTexts l k (getText l p).2.1).2.1, 0)

/-- Texts that were got, and what is got behind them. -/
def behind (A : List (List UInt8)) (x : List (List UInt8) × Nat × Nat) : List (List UInt8) × Nat × Nat :=
  if x.2.2 ≠ 0 then ([], 0, x.2.2) else (A ++ x.1, x.2.1, 0)

theorem getTexts_form (l : List UInt8) (k p : Nat) (h : (getTexts l k p).2.2 ≠ 0) : getTexts l k p = ([], 0, (getTexts l k p).2.2) := by
  cases k with
  | zero => simp [getTexts] at h
  | succ k =>
    unfold getTexts at h ⊢
    split
    · rfl
    · rename_i h1
      split
      · rfl
      · rename_i h2
        rw [if_neg h1, if_neg h2] at h
        exact absurd rfl h

theorem behind_nil (l : List UInt8) (k p : Nat) : behind [] (getTexts l k p) = getTexts l k p := by
  unfold behind
  split
  · rename_i h; exact (getTexts_form l k p h).symm
  · rename_i h
    have h0 : (getTexts l k p).2.2 = 0 := by omega
    rw [List.nil_append, ← h0]

theorem behind_zero (A : List (List UInt8)) (l : List UInt8) (p : Nat) : behind A (getTexts l 0 p) = (A, p, 0) := by simp [behind, getTexts]

theorem behind_err {A : List (List UInt8)} {l : List UInt8} {k p e n : Nat} {s : List UInt8} (h : getText l p = (s, n, e)) (he : e ≠ 0) : behind A (getTexts l (k + 1) p) = ([], 0, e) := by
  unfold behind getTexts
  rw [h]
  simp [he]

theorem behind_ok {A : List (List UInt8)} {l : List UInt8} {k p n : Nat} {s : List UInt8} (h : getText l p = (s, n, 0)) : behind A (getTexts l (k + 1) p) = behind (A ++ [s]) (getTexts l k n) := by
  unfold behind
  conv => lhs; unfold getTexts
  rw [h]
  by_cases h2 : (getTexts l k n).2.2 = 0 <;> simp [h2]

/-- The list that stands at a place. -/
def getList (l : List UInt8) (p : Int) : List (List UInt8) × Nat × Nat :=
  if (getNum l p).2.2 ≠ 0 then ([], 0, (getNum l p).2.2)
  else if 131072 < (getNum l p).1 then ([], 0, 3)
  else getTexts l (getNum l p).1 (getNum l p).2.1

theorem getList_err {l : List UInt8} {p : Int} {n next e : Nat} (h : getNum l p = (n, next, e)) (he : e ≠ 0) : getList l p = ([], 0, e) := by
  unfold getList; rw [h]; exact if_pos he
theorem getList_long {l : List UInt8} {p : Int} {n next : Nat} (h : getNum l p = (n, next, 0)) (hn : 131072 < n) : getList l p = ([], 0, 3) := by
  unfold getList; rw [h, if_neg (by simp), if_pos hn]
theorem getList_ok {l : List UInt8} {p : Int} {n next : Nat} (h : getNum l p = (n, next, 0)) (hn : n ≤ 131072) : getList l p = getTexts l n next := by
  unfold getList; rw [h, if_neg (by simp), if_neg (by simpa using hn)]

/- What was put is got. -/
theorem getText_put (a r s : List UInt8) (h : s.length ≤ 131072) : getText (a ++ (text s ++ r)) a.length = (s, a.length + (text s).length, 0) := by
  have hg := getNum_put a (s ++ r) (n := s.length) (by omega)
  have e : a ++ (text s ++ r) = a ++ (num s.length ++ (s ++ r)) := by unfold text; simp
  rw [e, getText_ok hg h (by simp; omega), text_length]
  have e2 : (a ++ (num s.length ++ (s ++ r))).drop (a.length + (num s.length).length) = s ++ r := by
    rw [← List.append_assoc, ← List.length_append, List.drop_left]
  rw [e2, List.take_left, Nat.add_assoc]

theorem getText_put_long (a r s : List UInt8) (h : 131072 < s.length) (hs : s.length < 9223372036854775808) : getText (a ++ (text s ++ r)) a.length = ([], 0, 3) := by
  have hg := getNum_put a (s ++ r) (n := s.length) hs
  have e : a ++ (text s ++ r) = a ++ (num s.length ++ (s ++ r)) := by unfold text; simp
  rw [e, getText_long hg h]

theorem getTexts_put : ∀ (L : List (List UInt8)) (a r : List UInt8), (∀ s ∈ L, s.length ≤ 131072) → getTexts (a ++ (texts L ++ r)) L.length a.length = (L, a.length + (texts L).length, 0) := by
  intro L
  induction L with
  | nil => intro a r _; simp [getTexts, texts]
  | cons s L ih =>
    intro a r h
    have h1 := getText_put a (texts L ++ r) s (h s (by simp))
    have h2 := ih (a ++ text s) r (fun t ht => h t (by simp [ht]))
    rw [List.length_append] at h2
    have e1 : a ++ (texts (s :: L) ++ r) = a ++ (text s ++ (texts L ++ r)) := by simp [texts]
    have e2 : a ++ text s ++ (texts L ++ r) = a ++ (text s ++ (texts L ++ r)) := by simp
    rw [e2] at h2
    rw [e1, List.length_cons]
    unfold getTexts
    rw [h1]
    simp only [ne_eq, not_true_eq_false, if_false]
    rw [h2]
    simp [texts]
    omega

theorem getList_put (a r : List UInt8) (L : List (List UInt8)) (hL : L.length ≤ 131072) (h : ∀ s ∈ L, s.length ≤ 131072) :
    getList (a ++ (list L ++ r)) a.length = (L, a.length + (list L).length, 0) := by
  have hg := getNum_put a (texts L ++ r) (n := L.length) (by omega)
  have e : a ++ (list L ++ r) = a ++ (num L.length ++ (texts L ++ r)) := by unfold list; simp
  rw [e, getList_ok hg hL]
  have h2 := getTexts_put L (a ++ num L.length) r h
  rw [List.length_append] at h2
  rw [show a ++ (num L.length ++ (texts L ++ r)) = a ++ num L.length ++ (texts L ++ r) by simp, h2]
  unfold list
  simp
  omega

/- What is got has just the bytes that stand there. -/
theorem getText_just {l : List UInt8} {p : Int} {s : List UInt8} {next : Nat} (h : getText l p = (s, next, 0)) :
    ∃ k : Nat, p = k ∧ s.length ≤ 131072 ∧ next = k + (text s).length ∧ next ≤ l.length ∧ l.drop k = text s ++ l.drop next := by
  obtain ⟨n, c, e, hn⟩ : ∃ n c e, getNum l p = (n, c, e) := ⟨_, _, _, rfl⟩
  by_cases he : e = 0
  · subst he
    obtain ⟨k, rfl, hlt, h1, h2, r, h3, rfl⟩ := getNum_just hn
    by_cases hl : 131072 < n
    · rw [getText_long hn hl] at h; simp at h
    · by_cases hend : l.length < c + n
      · rw [getText_end hn (by omega) hend] at h; simp at h
      · rw [getText_ok hn (by omega) (by omega)] at h
        simp only [Prod.mk.injEq, and_true] at h
        obtain ⟨rfl, rfl⟩ := h
        have hs : ((l.drop c).take n).length = n := by rw [List.length_take, List.length_drop]; omega
        refine ⟨k, rfl, by omega, ?_, by omega, ?_⟩
        · rw [text_length, hs]; omega
        · unfold text
          rw [hs, h3, List.append_assoc]
          congr 1
          rw [← List.drop_drop, List.take_append_drop]
  · rw [getText_err hn he] at h
    simp only [Prod.mk.injEq] at h
    omega

theorem getText_ne {l : List UInt8} {p : Int} {s : List UInt8} {next e : Nat} (h : getText l p = (s, next, e)) (he : e ≠ 0) : s = [] ∧ next = 0 := by
  unfold getText at h
  split at h
  · simp only [Prod.mk.injEq] at h; exact ⟨h.1.symm, h.2.1.symm⟩
  · split at h
    · simp only [Prod.mk.injEq] at h; exact ⟨h.1.symm, h.2.1.symm⟩
    · split at h
      · simp only [Prod.mk.injEq] at h; exact ⟨h.1.symm, h.2.1.symm⟩
      · simp only [Prod.mk.injEq] at h; omega

theorem getTexts_just (l : List UInt8) : ∀ (k p : Nat) (L : List (List UInt8)) (next : Nat), p ≤ l.length → getTexts l k p = (L, next, 0) →
    L.length = k ∧ next = p + (texts L).length ∧ next ≤ l.length ∧ l.drop p = texts L ++ l.drop next ∧ ∀ s ∈ L, s.length ≤ 131072 := by
  intro k
  induction k with
  | zero =>
    intro p L next hp h
    simp only [getTexts, Prod.mk.injEq] at h
    obtain ⟨rfl, rfl, -⟩ := h
    exact ⟨rfl, rfl, hp, rfl, fun s hs => by cases hs⟩
  | succ k ih =>
    intro p L next hp h
    obtain ⟨s, c, e, hs⟩ : ∃ s c e, getText l p = (s, c, e) := ⟨_, _, _, rfl⟩
    unfold getTexts at h
    rw [hs] at h
    by_cases he : e = 0
    · subst he
      obtain ⟨q, hq, hlen, h1, h2, h3⟩ := getText_just hs
      obtain rfl : p = q := by omega
      simp only [ne_eq, not_true_eq_false, if_false] at h
      obtain ⟨M, m, f, hM⟩ : ∃ M m f, getTexts l k c = (M, m, f) := ⟨_, _, _, rfl⟩
      rw [hM] at h
      by_cases hf : f = 0
      · subst hf
        simp only [not_true_eq_false, if_false, Prod.mk.injEq, and_true] at h
        obtain ⟨rfl, rfl⟩ := h
        obtain ⟨i1, i2, i3, i4, i5⟩ := ih c M m h2 hM
        refine ⟨by simp [i1], ?_, i3, ?_, ?_⟩
        · simp only [texts, List.length_append]; omega
        · rw [h3, i4]; simp [texts]
        · intro t ht
          rcases List.mem_cons.1 ht with rfl | ht
          · exact hlen
          · exact i5 t ht
      · rw [if_pos hf] at h
        exact absurd (Prod.mk.inj (Prod.mk.inj h).2).2 hf
    · rw [if_pos he] at h
      exact absurd (Prod.mk.inj (Prod.mk.inj h).2).2 he

theorem getList_just {l : List UInt8} {p : Int} {L : List (List UInt8)} {next : Nat} (h : getList l p = (L, next, 0)) :
    ∃ k : Nat, p = k ∧ next = k + (list L).length ∧ next ≤ l.length ∧ l.drop k = list L ++ l.drop next ∧ L.length ≤ 131072 ∧ ∀ s ∈ L, s.length ≤ 131072 := by
  obtain ⟨n, c, e, hn⟩ : ∃ n c e, getNum l p = (n, c, e) := ⟨_, _, _, rfl⟩
  by_cases he : e = 0
  · subst he
    obtain ⟨k, rfl, hlt, h1, h2, r, h3, rfl⟩ := getNum_just hn
    by_cases hl : 131072 < n
    · rw [getList_long hn hl] at h; simp at h
    · rw [getList_ok hn (by omega)] at h
      obtain ⟨rfl, i2, i3, i4, i5⟩ := getTexts_just l n c L next h2 h
      refine ⟨k, rfl, ?_, i3, ?_, by omega, i5⟩
      · unfold list; rw [List.length_append]; omega
      · unfold list; rw [h3, i4]; simp
  · rw [getList_err hn he] at h
    simp only [Prod.mk.injEq] at h
    omega

/- What is cut off ends too early. -/
theorem getNum_cut (a : List UInt8) {n k : Nat} (h : n < 9223372036854775808) (hk : k < (num n).length) : getNum (a ++ (num n).take k) a.length = (0, 0, 8) :=
  getNum_err (by simp) (by rw [List.drop_left]; exact get_cut n 0 0 k (by decide) (by rw [pow9]; exact h) hk) (by decide)

theorem getText_cut (a s : List UInt8) {k : Nat} (h : s.length ≤ 131072) (hk : k < (text s).length) : getText (a ++ (text s).take k) a.length = ([], 0, 8) := by
  rw [text_length] at hk
  by_cases h1 : k < (num s.length).length
  · have e : (text s).take k = (num s.length).take k := by unfold text; rw [List.take_append_of_le_length (by omega)]
    rw [e]
    exact getText_err (getNum_cut a (by omega) h1) (by decide)
  · have e : (text s).take k = num s.length ++ s.take (k - (num s.length).length) := by
      unfold text; rw [List.take_append, List.take_of_length_le (by omega)]
    rw [e]
    have hg := getNum_put a (s.take (k - (num s.length).length)) (n := s.length) (by omega)
    exact getText_end hg h (by simp; omega)

theorem getTexts_cut : ∀ (L : List (List UInt8)) (a : List UInt8) (k : Nat), (∀ s ∈ L, s.length ≤ 131072) → k < (texts L).length → getTexts (a ++ (texts L).take k) L.length a.length = ([], 0, 8) := by
  intro L
  induction L with
  | nil => intro a k _ hk; simp [texts] at hk
  | cons s L ih =>
    intro a k h hk
    simp only [texts, List.length_append] at hk
    rw [List.length_cons]
    by_cases h1 : k < (text s).length
    · have e : (texts (s :: L)).take k = (text s).take k := by
        show (text s ++ texts L).take k = _
        rw [List.take_append_of_le_length (by omega)]
      have h2 := getText_cut a s (h s (by simp)) h1
      rw [e]
      unfold getTexts
      rw [h2]
      simp
    · have e : (texts (s :: L)).take k = text s ++ (texts L).take (k - (text s).length) := by
        show (text s ++ texts L).take k = _
        rw [List.take_append, List.take_of_length_le (by omega)]
      have h2 := getText_put a ((texts L).take (k - (text s).length)) s (h s (by simp))
      have h3 := ih (a ++ text s) (k - (text s).length) (fun t ht => h t (by simp [ht])) (by omega)
      rw [List.length_append, List.append_assoc] at h3
      rw [e]
      unfold getTexts
      rw [h2]
      simp only [ne_eq, not_true_eq_false, if_false]
      rw [h3]
      simp

theorem getList_cut (L : List (List UInt8)) {k : Nat} (hL : L.length ≤ 131072) (h : ∀ s ∈ L, s.length ≤ 131072) (hk : k < (list L).length) : getList ((list L).take k) 0 = ([], 0, 8) := by
  have hk' : k < (num L.length).length + (texts L).length := by unfold list at hk; simpa using hk
  by_cases h1 : k < (num L.length).length
  · have e : (list L).take k = [] ++ (num L.length).take k := by unfold list; rw [List.take_append_of_le_length (by omega)]; rfl
    rw [e]
    exact getList_err (getNum_cut [] (by omega) h1) (by decide)
  · have e : (list L).take k = [] ++ (num L.length ++ (texts L).take (k - (num L.length).length)) := by
      unfold list; rw [List.take_append, List.take_of_length_le (by omega)]; rfl
    rw [e]
    have hg := getNum_put [] ((texts L).take (k - (num L.length).length)) (n := L.length) (by omega)
    have h3 := getTexts_cut L (num L.length) (k - (num L.length).length) h (by omega)
    simp only [List.nil_append, List.length_nil, Nat.zero_add] at hg ⊢
    rw [getList_ok (p := 0) hg hL]
    exact h3

theorem list_pos (L : List (List UInt8)) : 0 < (list L).length := by
  have := num_pos L.length
  unfold list; rw [List.length_append]; omega

/- How many bytes a number has. -/
theorem bitLen_shift7 (x : Nat) (h : 128 ≤ x) (hx : x < 2 ^ 64) : Go.Lib.bitLen x = 7 + Go.Lib.bitLen (x / 128) := Go.Lib.bitLen_shift 7 x h hx

theorem bitLen_small : ∀ n : Fin 128, (Go.Lib.bitLen (n.val ||| 1) + 6) / 7 = 1 := by decide +kernel

theorem or_one_div (n : Nat) : (n ||| 1) / 128 = n / 128 := by
  have h : (n ||| 1) >>> 7 = (n >>> 7) ||| (1 >>> 7) := Nat.shiftRight_or_distrib
  rw [Nat.shiftRight_eq_div_pow, Nat.shiftRight_eq_div_pow] at h
  simpa using h

theorem size_num : ∀ n, n < 2 ^ 63 → (Go.Lib.bitLen (n ||| 1) + 6) / 7 = (num n).length := by
  intro n
  induction n using Nat.strongRecOn with
  | ind n ih =>
    intro hn
    by_cases h : n < 128
    · rw [num_small h]; exact bitLen_small ⟨n, h⟩
    · have hge : n ≤ n ||| 1 := Nat.left_le_or
      have hlt : n ||| 1 < 2 ^ 63 := Nat.or_lt_two_pow hn (by decide)
      rw [num_big h, List.length_cons, bitLen_shift7 _ (by omega) (by omega), or_one_div]
      by_cases h2 : n / 128 < 128
      · rw [num_small h2]
        have : Go.Lib.bitLen (n / 128) = Go.Lib.bitLen (n / 128) := rfl
        by_cases h3 : n / 128 = 0
        · omega
        · have key : ∀ m : Fin 128, m.val ≠ 0 → (7 + Go.Lib.bitLen m.val + 6) / 7 = 2 := by decide +kernel
          exact key ⟨n / 128, h2⟩ h3
      · have i := ih (n / 128) (by omega) (by omega)
        have g1 : n / 128 ≤ n / 128 ||| 1 := Nat.left_le_or
        have g2 : n / 128 ||| 1 < 2 ^ 63 := Nat.or_lt_two_pow (by omega) (by decide)
        rw [bitLen_shift7 _ (by omega) (by omega), or_one_div] at i
        rw [bitLen_shift7 (n / 128) (by omega) (by omega)]
        omega
end Go.Proofs.Ytebfocfeehajjaa.Wi

namespace Go.Proofs.Ytebfocfeehajjaa.Pa
open Wi

/-- A reader: at a place of some bytes it tells a thing and where what is behind it begins, or an error. -/
abbrev Rdr (α : Type) := List UInt8 → Nat → Except Nat (α × Nat)

structure Reads {α : Type} (P : Rdr α) (enc : α → List UInt8) (ok : α → Prop) : Prop where
  put : ∀ (a r : List UInt8) (x : α), ok x → P (a ++ (enc x ++ r)) a.length = .ok (x, a.length + (enc x).length)
  cut : ∀ (a : List UInt8) (x : α) (k : Nat), ok x → k < (enc x).length → P (a ++ (enc x).take k) a.length = .error 8
  just : ∀ (b : List UInt8) (p : Nat) (x : α) (q : Nat), p ≤ b.length → P b p = .ok (x, q) → ok x ∧ q ≤ b.length ∧ p ≤ q ∧ b.drop p = enc x ++ b.drop q

theorem Reads.len {α : Type} {P : Rdr α} {enc : α → List UInt8} {ok : α → Prop} (h : Reads P enc ok) {b : List UInt8} {p q : Nat} {x : α} (hp : p ≤ b.length) (hx : P b p = .ok (x, q)) : q = p + (enc x).length := by
  obtain ⟨-, h1, h2, h3⟩ := h.just b p x q hp hx
  have := congrArg List.length h3
  rw [List.length_append, List.length_drop, List.length_drop] at this
  omega

def numP (lim e : Nat) : Rdr Nat := fun b p => if (getNum b p).2.2 ≠ 0 then .error (getNum b p).2.2 else if lim < (getNum b p).1 then .error e else .ok ((getNum b p).1, (getNum b p).2.1)
theorem num_reads {lim e : Nat} (hl : lim < 9223372036854775808) : Reads (numP lim e) num (fun n => n ≤ lim) where
  put := by
    intro a r x hx
    have hg := getNum_put a r (n := x) (by omega)
    unfold numP
    rw [hg]
    simp only []
    rw [if_neg (by omega), if_neg (by omega)]
  cut := by
    intro a x k hx hk
    have hg := getNum_cut a (n := x) (k := k) (by omega) hk
    unfold numP
    rw [hg]
    simp
  just := by
    intro b p x q hp h
    obtain ⟨⟨n, p1, e1⟩, hg⟩ : ∃ z, z = getNum b p := ⟨_, rfl⟩
    unfold numP at h
    rw [← hg] at h
    simp only [] at h
    split at h
    · cases h
    · rename_i he
      obtain rfl : e1 = 0 := by omega
      split at h
      · cases h
      · rename_i hn
        simp only [Except.ok.injEq, Prod.mk.injEq] at h
        obtain ⟨rfl, rfl⟩ := h
        obtain ⟨k, hk, -, hq, hql, r, h1, h2⟩ := getNum_just hg.symm
        obtain rfl : p = k := by omega
        exact ⟨by omega, hql, by omega, by rw [h1, h2]⟩

def digP (m : Nat) : Rdr (List UInt8) := fun b p => if b.length < p + m then .error 8 else .ok ((b.drop p).take m, p + m)
theorem dig_reads (m : Nat) : Reads (digP m) (fun d => d) (fun d => d.length = m) where
  put := by
    intro a r x hx
    unfold digP
    rw [if_neg (by simp only [List.length_append]; omega), List.drop_left, ← hx, List.take_left]
  cut := by
    intro a x k hx hk
    unfold digP
    rw [if_pos (by rw [List.length_append, List.length_take]; omega)]
  just := by
    intro b p x q hp h
    unfold digP at h
    split at h
    · cases h
    · simp only [Except.ok.injEq, Prod.mk.injEq] at h
      obtain ⟨rfl, rfl⟩ := h
      refine ⟨by rw [List.length_take, List.length_drop]; omega, by omega, by omega, ?_⟩
      rw [← List.drop_drop, List.take_append_drop]

def textP : Rdr (List UInt8) := fun b p => if (getText b p).2.2 ≠ 0 then .error (getText b p).2.2 else .ok ((getText b p).1, (getText b p).2.1)
theorem text_reads : Reads textP text (fun s => s.length ≤ 131072) where
  put := by
    intro a r x hx
    have hg := getText_put a r x hx
    unfold textP
    rw [hg]
    simp
  cut := by
    intro a x k hx hk
    have hg := getText_cut a x (k := k) hx hk
    unfold textP
    rw [hg]
    simp
  just := by
    intro b p x q hp h
    obtain ⟨⟨s, p1, e1⟩, hg⟩ : ∃ z, z = getText b p := ⟨_, rfl⟩
    unfold textP at h
    rw [← hg] at h
    simp only [] at h
    split at h
    · cases h
    · rename_i he
      obtain rfl : e1 = 0 := by omega
      simp only [Except.ok.injEq, Prod.mk.injEq] at h
      obtain ⟨rfl, rfl⟩ := h
      obtain ⟨k, hk, h1, h2, h3, h4⟩ := getText_just hg.symm
      obtain rfl : p = k := by omega
      exact ⟨h1, h3, by omega, h4⟩

/-- Nothing is read. -/
def noneP {α : Type} (x0 : α) : Rdr α := fun _ p => .ok (x0, p)
theorem none_reads {α : Type} (x0 : α) : Reads (noneP x0) (fun _ => []) (fun x => x = x0) where
  put := by intro a r x hx; subst hx; rfl
  cut := by intro a x k hx hk; simp at hk
  just := by
    intro b p x q hp h
    unfold noneP at h
    simp only [Except.ok.injEq, Prod.mk.injEq] at h
    obtain ⟨rfl, rfl⟩ := h
    exact ⟨rfl, hp, Nat.le_refl _, by simp⟩

/-- A number from 1 on. -/
def posP (e : Nat) : Rdr Nat := fun b p => if (getNum b p).2.2 ≠ 0 then .error (getNum b p).2.2 else if (getNum b p).1 = 0 then .error e else .ok ((getNum b p).1, (getNum b p).2.1)
theorem pos_reads (e : Nat) : Reads (posP e) num (fun n => 0 < n ∧ n < 9223372036854775808) where
  put := by
    intro a r x hx
    have hg := getNum_put a r (n := x) hx.2
    unfold posP
    rw [hg]
    simp only []
    rw [if_neg (by omega), if_neg (by omega)]
  cut := by
    intro a x k hx hk
    have hg := getNum_cut a (n := x) (k := k) hx.2 hk
    unfold posP
    rw [hg]
    simp
  just := by
    intro b p x q hp h
    obtain ⟨⟨n, p1, e1⟩, hg⟩ : ∃ z, z = getNum b p := ⟨_, rfl⟩
    unfold posP at h
    rw [← hg] at h
    simp only [] at h
    split at h
    · cases h
    · rename_i he
      obtain rfl : e1 = 0 := by omega
      split at h
      · cases h
      · rename_i hn
        simp only [Except.ok.injEq, Prod.mk.injEq] at h
        obtain ⟨rfl, rfl⟩ := h
        obtain ⟨k, hk, h0, hq, hql, r, h1, h2⟩ := getNum_just hg.symm
        obtain rfl : p = k := by omega
        exact ⟨⟨by omega, h0⟩, hql, by omega, by rw [h1, h2]⟩

/-- One behind the other. -/
def bindP {α β : Type} (P : Rdr α) (F : α → Rdr β) : Rdr (α × β) := fun b p =>
  match P b p with
  | .error e => .error e
  | .ok x => match F x.1 b x.2 with
    | .error e => .error e
    | .ok y => .ok ((x.1, y.1), y.2)
theorem bind_err {α β : Type} {P : Rdr α} {F : α → Rdr β} {b : List UInt8} {p e : Nat} (h : P b p = .error e) : bindP P F b p = .error e := by unfold bindP; rw [h]
theorem bind_err2 {α β : Type} {P : Rdr α} {F : α → Rdr β} {b : List UInt8} {p e q : Nat} {x : α} (h : P b p = .ok (x, q)) (h2 : F x b q = .error e) : bindP P F b p = .error e := by unfold bindP; rw [h]; simp only []; rw [h2]
theorem bind_ok {α β : Type} {P : Rdr α} {F : α → Rdr β} {b : List UInt8} {p q r : Nat} {x : α} {y : β} (h : P b p = .ok (x, q)) (h2 : F x b q = .ok (y, r)) : bindP P F b p = .ok ((x, y), r) := by unfold bindP; rw [h]; simp only []; rw [h2]
theorem bind_of {α β : Type} {P : Rdr α} {F : α → Rdr β} {b : List UInt8} {p r : Nat} {x : α} {y : β} (h : bindP P F b p = .ok ((x, y), r)) : ∃ q, P b p = .ok (x, q) ∧ F x b q = .ok (y, r) := by
  unfold bindP at h
  split at h
  · cases h
  · rename_i z h1
    split at h
    · cases h
    · rename_i u h2
      simp only [Except.ok.injEq, Prod.mk.injEq] at h
      obtain ⟨⟨rfl, rfl⟩, rfl⟩ := h
      exact ⟨z.2, h1, h2⟩

theorem bind_reads {α β : Type} {P : Rdr α} {F : α → Rdr β} {enc : α → List UInt8} {encF : α → β → List UInt8} {ok : α → Prop} {okF : α → β → Prop} (h : Reads P enc ok) (hF : ∀ x, ok x → Reads (F x) (encF x) (okF x)) :
    Reads (bindP P F) (fun z => enc z.1 ++ encF z.1 z.2) (fun z => ok z.1 ∧ okF z.1 z.2) where
  put := by
    rintro a r ⟨x, y⟩ ⟨hx, hy⟩
    have h1 := h.put a (encF x y ++ r) x hx
    have h2 := (hF x hx).put (a ++ enc x) r y hy
    simp only [List.append_assoc] at h1 h2 ⊢
    rw [List.length_append] at h2
    rw [bind_ok h1 h2, List.length_append, Nat.add_assoc]
  cut := by
    rintro a ⟨x, y⟩ k ⟨hx, hy⟩ hk
    simp only [] at hk ⊢
    by_cases hc : k < (enc x).length
    · rw [List.take_append_of_le_length (by omega)]
      exact bind_err (h.cut a x k hx hc)
    · rw [List.take_append, List.take_of_length_le (l := enc x) (by omega)]
      rw [List.length_append] at hk
      have h1 := h.put a ((encF x y).take (k - (enc x).length)) x hx
      have h2 := (hF x hx).cut (a ++ enc x) y (k - (enc x).length) hy (by omega)
      rw [List.append_assoc, List.length_append] at h2
      exact bind_err2 h1 h2
  just := by
    rintro b p ⟨x, y⟩ r hp hr
    obtain ⟨q, h1, h2⟩ := bind_of hr
    obtain ⟨a1, a2, a3, a4⟩ := h.just b p x q hp h1
    obtain ⟨b1, b2, b3, b4⟩ := (hF x a1).just b q y r a2 h2
    exact ⟨⟨a1, b1⟩, b2, by omega, by rw [a4, b4, List.append_assoc]⟩

/-- So many. -/
def listP {α : Type} (P : Rdr α) : Nat → Rdr (List α)
  | 0 => fun _ p => .ok ([], p)
  | k + 1 => fun b p => match P b p with
    | .error e => .error e
    | .ok x => match listP P k b x.2 with
      | .error e => .error e
      | .ok y => .ok (x.1 :: y.1, y.2)
theorem list_err {α : Type} {P : Rdr α} {k : Nat} {b : List UInt8} {p e : Nat} (h : P b p = .error e) : listP P (k + 1) b p = .error e := by simp only [listP, h]
theorem list_err2 {α : Type} {P : Rdr α} {k : Nat} {b : List UInt8} {p q e : Nat} {x : α} (h : P b p = .ok (x, q)) (h2 : listP P k b q = .error e) : listP P (k + 1) b p = .error e := by simp only [listP, h, h2]
theorem list_ok {α : Type} {P : Rdr α} {k : Nat} {b : List UInt8} {p q r : Nat} {x : α} {L : List α} (h : P b p = .ok (x, q)) (h2 : listP P k b q = .ok (L, r)) : listP P (k + 1) b p = .ok (x :: L, r) := by simp only [listP, h, h2]
def encL {α : Type} (enc : α → List UInt8) (L : List α) : List UInt8 := (L.map enc).flatten
theorem encL_cons {α : Type} (enc : α → List UInt8) (x : α) (L : List α) : encL enc (x :: L) = enc x ++ encL enc L := by simp [encL]
theorem list_reads {α : Type} {P : Rdr α} {enc : α → List UInt8} {ok : α → Prop} (h : Reads P enc ok) : ∀ k, Reads (listP P k) (encL enc) (fun L => L.length = k ∧ ∀ x ∈ L, ok x)
  | 0 => {
    put := by
      intro a r L hL
      obtain rfl : L = [] := List.eq_nil_of_length_eq_zero hL.1
      rfl
    cut := by
      intro a L k hL hk
      obtain rfl : L = [] := List.eq_nil_of_length_eq_zero hL.1
      simp [encL] at hk
    just := by
      intro b p L q hp hq
      rw [listP] at hq
      simp only [Except.ok.injEq, Prod.mk.injEq] at hq
      obtain ⟨rfl, rfl⟩ := hq
      exact ⟨⟨rfl, fun x hx => by cases hx⟩, hp, Nat.le_refl _, by simp [encL]⟩ }
  | k + 1 => {
    put := by
      intro a r L hL
      cases L with
      | nil => simp at hL
      | cons x L =>
        have h1 := h.put a (encL enc L ++ r) x (hL.2 x (by simp))
        have h2 := (list_reads h k).put (a ++ enc x) r L ⟨by simpa using hL.1, fun y hy => hL.2 y (by simp [hy])⟩
        rw [encL_cons]
        simp only [List.append_assoc] at h1 h2 ⊢
        rw [List.length_append] at h2
        rw [list_ok h1 h2, List.length_append, Nat.add_assoc]
    cut := by
      intro a L c hL hk
      cases L with
      | nil => simp at hL
      | cons x L =>
        rw [encL_cons] at hk ⊢
        have hx := hL.2 x (by simp)
        by_cases hc : c < (enc x).length
        · rw [List.take_append_of_le_length (by omega)]
          exact list_err (h.cut a x c hx hc)
        · rw [List.take_append, List.take_of_length_le (l := enc x) (by omega)]
          rw [List.length_append] at hk
          have h1 := h.put a ((encL enc L).take (c - (enc x).length)) x hx
          have h2 := (list_reads h k).cut (a ++ enc x) L (c - (enc x).length) ⟨by simpa using hL.1, fun y hy => hL.2 y (by simp [hy])⟩ (by omega)
          rw [List.append_assoc, List.length_append] at h2
          exact list_err2 h1 h2
    just := by
      intro b p L r hp hr
      simp only [listP] at hr
      split at hr
      · cases hr
      · rename_i z h1
        split at hr
        · cases hr
        · rename_i u h2
          simp only [Except.ok.injEq, Prod.mk.injEq] at hr
          obtain ⟨rfl, rfl⟩ := hr
          obtain ⟨a1, a2, a3, a4⟩ := h.just b p z.1 z.2 hp h1
          obtain ⟨⟨b0, b1⟩, b2, b3, b4⟩ := (list_reads h k).just b z.2 u.1 u.2 a2 h2
          refine ⟨⟨by simp [b0], fun y hy => ?_⟩, b2, by omega, by rw [encL_cons, a4, b4, List.append_assoc]⟩
          rcases List.mem_cons.1 hy with rfl | hy
          · exact a1
          · exact b1 y hy }
end Go.Proofs.Ytebfocfeehajjaa.Pa

namespace Go.Proofs.Ytebfocfeehajjaa.Cm
open Wi Pa

structure Rf where
  own : Bool
  commit : List UInt8
  n : Int
deriving DecidableEq
structure Op where
  kind : Int
  left : Bool
  at_ : Rf
  byte : UInt8
deriving DecidableEq
structure Cm where
  parents : List (List UInt8)
  author : List UInt8
  note : List UInt8
  ops : List Op
deriving DecidableEq

def zero32 : List UInt8 := List.replicate 32 0
theorem zero32_length : zero32.length = 32 := rfl
/-- 0: the root; 1: own; 2: far; 3: none that may be. -/
def refK (r : Rf) : Nat :=
  if r.own = true then (if r.commit ≠ zero32 ∨ r.n < 1 then 3 else 1)
  else if 1 ≤ r.n ∧ r.n ≤ 2000 then 2 else if r.n = 0 ∧ r.commit = zero32 then 0 else 3

abbrev RawOp := Nat × (List UInt8 × (Nat × List UInt8))
def opP : Rdr RawOp := bindP (numP 11 7) fun n => bindP (if n / 4 = 2 then digP 32 else noneP zero32) fun _ => bindP (if 0 < n / 4 then posP 7 else noneP 0) fun _ => if n % 2 = 0 then digP 1 else noneP []
def encRaw (z : RawOp) : List UInt8 := num z.1 ++ ((if z.1 / 4 = 2 then z.2.1 else []) ++ ((if 0 < z.1 / 4 then num z.2.2.1 else []) ++ (if z.1 % 2 = 0 then z.2.2.2 else [])))
def okRaw (z : RawOp) : Prop := z.1 ≤ 11 ∧ (if z.1 / 4 = 2 then z.2.1.length = 32 else z.2.1 = zero32) ∧ (if 0 < z.1 / 4 then 0 < z.2.2.1 ∧ z.2.2.1 < 9223372036854775808 else z.2.2.1 = 0) ∧ (if z.1 % 2 = 0 then z.2.2.2.length = 1 else z.2.2.2 = [])
theorem if_reads {α : Type} {c : Prop} [Decidable c] {P Q : Rdr α} {e f : α → List UInt8} {o u : α → Prop} (h : Reads P e o) (k : Reads Q f u) : Reads (if c then P else Q) (fun x => if c then e x else f x) (fun x => if c then o x else u x) := by
  by_cases hc : c
  · simp only [if_pos hc]; exact h
  · simp only [if_neg hc]; exact k
theorem op_reads : Reads opP encRaw okRaw :=
  bind_reads (num_reads (by decide)) fun n _ => bind_reads (if_reads (c := n / 4 = 2) (dig_reads 32) (none_reads zero32)) fun _ _ => bind_reads (if_reads (c := 0 < n / 4) (pos_reads 7) (none_reads 0)) fun _ _ => if_reads (c := n % 2 = 0) (dig_reads 1) (none_reads [])

def headN (x : Op) : Nat := (if x.kind = 2 then 1 else 0) + (if x.left = true then 2 else 0) + (if refK x.at_ = 1 then 4 else if refK x.at_ = 2 then 8 else 0)
def ofOp (x : Op) : RawOp := (headN x, (if refK x.at_ = 2 then x.at_.commit else zero32, (if refK x.at_ = 1 ∨ refK x.at_ = 2 then x.at_.n.toNat else 0, if x.kind = 1 then [x.byte] else [])))
def toOp (z : RawOp) : Op := ⟨1 + ((z.1 % 2 : Nat) : Int), decide (z.1 / 2 % 2 = 1), ⟨decide (z.1 / 4 = 1), z.2.1, (z.2.2.1 : Int)⟩, z.2.2.2.headD 0⟩
def encOp (x : Op) : List UInt8 := encRaw (ofOp x)

/-- What an operation of a commit that may be bears. -/
structure OpOk (x : Op) : Prop where
  kind : x.kind = 1 ∨ (x.kind = 2 ∧ x.byte = 0)
  ref : refK x.at_ ≠ 3
  dig : x.at_.commit.length = 32
  lim : x.at_.n ≤ 2000

theorem refK_own {r : Rf} (h : refK r = 1) : r.own = true ∧ r.commit = zero32 ∧ 1 ≤ r.n := by
  unfold refK at h
  split at h
  · rename_i h1
    split at h
    · cases h
    · rename_i h2
      refine ⟨h1, ?_, by omega⟩
      by_cases hc : r.commit = zero32
      · exact hc
      · exact absurd (.inl hc) h2
  · split at h
    · cases h
    · split at h <;> cases h
theorem refK_far {r : Rf} (h : refK r = 2) : r.own = false ∧ 1 ≤ r.n ∧ r.n ≤ 2000 := by
  unfold refK at h
  split at h
  · split at h <;> cases h
  · rename_i h1
    split at h
    · rename_i h2; exact ⟨by simpa using h1, h2.1, h2.2⟩
    · split at h <;> cases h
theorem refK_root {r : Rf} (h : refK r = 0) : r.own = false ∧ r.n = 0 ∧ r.commit = zero32 := by
  unfold refK at h
  split at h
  · split at h <;> cases h
  · rename_i h1
    split at h
    · cases h
    · split at h
      · rename_i h2; exact ⟨by simpa using h1, h2.1, h2.2⟩
      · cases h
theorem refK_mk_own {k : Nat} (hk : 0 < k) : refK ⟨decide (1 = 1), zero32, (k : Int)⟩ = 1 := by
  unfold refK
  simp only []
  rw [if_pos (by decide), if_neg (by simp; omega)]
theorem refK_mk_far {k : Nat} {d : List UInt8} (hk : 0 < k) : refK ⟨decide (2 = 1), d, (k : Int)⟩ = if k ≤ 2000 then 2 else 3 := by
  unfold refK
  simp only []
  rw [if_neg (by decide)]
  by_cases h : k ≤ 2000
  · rw [if_pos (by omega), if_pos h]
  · rw [if_neg (by omega), if_neg h, if_neg (by omega)]
theorem refK_cases (r : Rf) : refK r = 0 ∨ refK r = 1 ∨ refK r = 2 ∨ refK r = 3 := by
  unfold refK
  split
  · split <;> simp
  · split
    · simp
    · split <;> simp

theorem headN_spec (x : Op) : headN x ≤ 11 ∧ headN x % 2 = (if x.kind = 2 then 1 else 0) ∧ headN x / 2 % 2 = (if x.left = true then 1 else 0) ∧ headN x / 4 = (if refK x.at_ = 1 then 1 else if refK x.at_ = 2 then 2 else 0) := by
  unfold headN
  split <;> split <;> split <;> (try split) <;> decide

theorem ofOp_ok {x : Op} (h : OpOk x) : okRaw (ofOp x) := by
  obtain ⟨h1, h2, h3, h4⟩ := headN_spec x
  unfold okRaw ofOp
  simp only []
  refine ⟨h1, ?_, ?_, ?_⟩
  · rw [h4]
    rcases refK_cases x.at_ with hk | hk | hk | hk
    · rw [hk]; simp
    · rw [hk]; simp
    · rw [hk]; simp [h.dig]
    · exact absurd hk h.ref
  · rw [h4]
    rcases refK_cases x.at_ with hk | hk | hk | hk
    · rw [hk]; simp
    · have := (refK_own hk).2.2; have := h.lim; rw [hk]; simp; omega
    · have := (refK_far hk).2; rw [hk]; simp; omega
    · exact absurd hk h.ref
  · rw [h2]
    rcases h.kind with hk | ⟨hk, -⟩
    · rw [hk]; simp
    · rw [hk]; simp
theorem toOp_ofOp {x : Op} (h : OpOk x) : toOp (ofOp x) = x := by
  obtain ⟨kd, lf, ⟨ow, cm, n⟩, by_⟩ := x
  obtain ⟨h1, h2, h3, h4⟩ := headN_spec ⟨kd, lf, ⟨ow, cm, n⟩, by_⟩
  have hkind := h.kind
  have hl : decide (headN ⟨kd, lf, ⟨ow, cm, n⟩, by_⟩ / 2 % 2 = 1) = lf := by rw [h3]; cases lf <;> simp
  have hkd : 1 + ((headN ⟨kd, lf, ⟨ow, cm, n⟩, by_⟩ % 2 : Nat) : Int) = kd := by
    rw [h2]
    rcases hkind with hk | ⟨hk, -⟩ <;> simp only [] at hk <;> subst hk <;> simp
  have hby : (if kd = 1 then [by_] else []).headD 0 = by_ := by
    rcases hkind with hk | ⟨hk, hb⟩
    · simp only [] at hk; subst hk; simp
    · simp only [] at hk hb; subst hk; subst hb; simp
  have hat : (⟨decide (headN ⟨kd, lf, ⟨ow, cm, n⟩, by_⟩ / 4 = 1), if refK ⟨ow, cm, n⟩ = 2 then cm else zero32, ((if refK ⟨ow, cm, n⟩ = 1 ∨ refK ⟨ow, cm, n⟩ = 2 then n.toNat else 0 : Nat) : Int)⟩ : Rf) = ⟨ow, cm, n⟩ := by
    rw [h4]
    simp only []
    rcases refK_cases ⟨ow, cm, n⟩ with hk | hk | hk | hk
    · obtain ⟨q1, q2, q3⟩ := refK_root hk
      simp only [] at q1 q2 q3
      rw [hk, q1, q2, q3]; simp
    · obtain ⟨q1, q2, q3⟩ := refK_own hk
      simp only [] at q1 q2 q3
      rw [hk, q1, q2]; simp; omega
    · obtain ⟨q1, q2, q3⟩ := refK_far hk
      simp only [] at q1 q2 q3
      rw [hk, q1]; simp; omega
    · exact absurd hk h.ref
  show (⟨1 + ((headN ⟨kd, lf, ⟨ow, cm, n⟩, by_⟩ % 2 : Nat) : Int), decide (headN ⟨kd, lf, ⟨ow, cm, n⟩, by_⟩ / 2 % 2 = 1), ⟨decide (headN ⟨kd, lf, ⟨ow, cm, n⟩, by_⟩ / 4 = 1), if refK ⟨ow, cm, n⟩ = 2 then cm else zero32, ((if refK ⟨ow, cm, n⟩ = 1 ∨ refK ⟨ow, cm, n⟩ = 2 then n.toNat else 0 : Nat) : Int)⟩, (if kd = 1 then [by_] else []).headD 0⟩ : Op) = ⟨kd, lf, ⟨ow, cm, n⟩, by_⟩
  rw [hat, hl, hkd, hby]
theorem ofOp_toOp {z : RawOp} (h : okRaw z) (hr : refK (toOp z).at_ ≠ 3) : ofOp (toOp z) = z := by
  obtain ⟨n, d, k, y⟩ := z
  obtain ⟨h1, h2, h3, h4⟩ := h
  simp only [] at h1 h2 h3 h4
  have hq : n / 4 = 0 ∨ n / 4 = 1 ∨ n / 4 = 2 := by omega
  have hm : n % 2 = 0 ∨ n % 2 = 1 := by omega
  have hrk : refK (toOp (n, d, k, y)).at_ = n / 4 := by
    have hr' : refK ⟨decide (n / 4 = 1), d, (k : Int)⟩ ≠ 3 := hr
    show refK ⟨decide (n / 4 = 1), d, (k : Int)⟩ = n / 4
    rcases hq with hq | hq | hq
    · rw [hq] at h2 h3 ⊢
      simp at h2 h3
      subst h2; subst h3
      rfl
    · rw [hq] at h2 h3 ⊢
      simp at h2 h3
      subst h2
      exact refK_mk_own h3.1
    · rw [hq] at h2 h3 hr' ⊢
      simp at h2 h3
      have e : refK ⟨decide (2 = 1), d, (k : Int)⟩ = if k ≤ 2000 then 2 else 3 := refK_mk_far h3.1
      rw [e] at hr' ⊢
      by_cases hk : k ≤ 2000
      · rw [if_pos hk]
      · rw [if_neg hk] at hr'; exact absurd rfl hr'
  have hhn : headN (toOp (n, d, k, y)) = n := by
    have e1 : (if (toOp (n, d, k, y)).kind = 2 then 1 else 0) = n % 2 := by
      show (if 1 + ((n % 2 : Nat) : Int) = 2 then 1 else 0) = n % 2
      rcases hm with hm | hm <;> rw [hm] <;> rfl
    have e2 : (if (toOp (n, d, k, y)).left = true then 2 else 0) = 2 * (n / 2 % 2) := by
      show (if decide (n / 2 % 2 = 1) = true then 2 else 0) = 2 * (n / 2 % 2)
      by_cases hb : n / 2 % 2 = 1
      · rw [hb]; rfl
      · rw [decide_eq_false hb, if_neg (by simp)]; omega
    have e3 : (if refK (toOp (n, d, k, y)).at_ = 1 then 4 else if refK (toOp (n, d, k, y)).at_ = 2 then 8 else 0) = 4 * (n / 4) := by
      rw [hrk]
      rcases hq with hq | hq | hq <;> rw [hq] <;> rfl
    unfold headN
    rw [e1, e2, e3]
    omega
  unfold ofOp
  rw [hhn, hrk]
  unfold toOp
  simp only [Prod.mk.injEq, true_and]
  refine ⟨?_, ?_, ?_⟩
  · rcases hq with hq | hq | hq
    · rw [hq] at h2 ⊢; simp at h2 ⊢; exact h2.symm
    · rw [hq] at h2 ⊢; simp at h2 ⊢; exact h2.symm
    · rw [hq]; simp
  · rcases hq with hq | hq | hq
    · rw [hq] at h3 ⊢; simp at h3 ⊢; exact h3.symm
    · rw [hq]; simp
    · rw [hq]; simp
  · rcases hm with hm | hm
    · rw [hm] at h4 ⊢; simp at h4 ⊢
      match y, h4 with
      | [c], _ => rfl
    · rw [hm] at h4 ⊢; simp at h4 ⊢; first | exact h4.symm | exact h4

/-! ### Commits -/
abbrev RawCm := Nat × (List (List UInt8) × (List UInt8 × (List UInt8 × (Nat × List RawOp))))
def cmP : Rdr RawCm := bindP (numP 8 4) fun n => bindP (listP (digP 32) n) fun _ => bindP textP fun _ => bindP textP fun _ => bindP (numP 2000 4) fun m => listP opP m
def encRawCm (z : RawCm) : List UInt8 := num z.1 ++ (encL (fun d => d) z.2.1 ++ (text z.2.2.1 ++ (text z.2.2.2.1 ++ (num z.2.2.2.2.1 ++ encL encRaw z.2.2.2.2.2))))
def okRawCm (z : RawCm) : Prop := z.1 ≤ 8 ∧ (z.2.1.length = z.1 ∧ ∀ x ∈ z.2.1, x.length = 32) ∧ z.2.2.1.length ≤ 131072 ∧ z.2.2.2.1.length ≤ 131072 ∧ z.2.2.2.2.1 ≤ 2000 ∧ (z.2.2.2.2.2.length = z.2.2.2.2.1 ∧ ∀ x ∈ z.2.2.2.2.2, okRaw x)
theorem cm_reads : Reads cmP encRawCm okRawCm :=
  bind_reads (num_reads (by decide)) fun n _ => bind_reads (list_reads (dig_reads 32) n) fun _ _ => bind_reads text_reads fun _ _ => bind_reads text_reads fun _ _ => bind_reads (num_reads (by decide)) fun m _ => list_reads op_reads m
def ofCm (c : Cm) : RawCm := (c.parents.length, (c.parents, (c.author, (c.note, (c.ops.length, c.ops.map ofOp)))))
def toCm (z : RawCm) : Cm := ⟨z.2.1, z.2.2.1, z.2.2.2.1, z.2.2.2.2.2.map toOp⟩
def encC (c : Cm) : List UInt8 := encRawCm (ofCm c)

structure CmOk (c : Cm) : Prop where
  ps : c.parents.length ≤ 8
  digs : ∀ d ∈ c.parents, d.length = 32
  author : c.author.length ≤ 24
  note : c.note.length ≤ 200
  ops : c.ops.length ≤ 2000
  each : ∀ x ∈ c.ops, OpOk x

theorem ofCm_ok {c : Cm} (h : CmOk c) : okRawCm (ofCm c) := by
  refine ⟨h.ps, ⟨rfl, h.digs⟩, by show c.author.length ≤ 131072; have := h.author; omega, by show c.note.length ≤ 131072; have := h.note; omega, h.ops, ⟨by simp [ofCm], fun x hx => ?_⟩⟩
  obtain ⟨y, hy, rfl⟩ := List.mem_map.1 hx
  exact ofOp_ok (h.each y hy)
theorem toCm_ofCm {c : Cm} (h : CmOk c) : toCm (ofCm c) = c := by
  obtain ⟨p, a, n, o⟩ := c
  unfold toCm ofCm
  simp only [List.map_map]
  congr 1
  have : o.map (toOp ∘ ofOp) = o.map id := List.map_congr_left fun x hx => toOp_ofOp (h.each x hx)
  rw [this, List.map_id]
theorem ofCm_toCm {z : RawCm} (h : okRawCm z) (hr : ∀ x ∈ (toCm z).ops, refK x.at_ ≠ 3) : ofCm (toCm z) = z := by
  obtain ⟨n, ps, a, no, m, os⟩ := z
  obtain ⟨h1, ⟨h2, h3⟩, h4, h5, h6, h7, h8⟩ := h
  unfold ofCm toCm at *
  simp only [List.map_map, List.length_map] at *
  subst h2; subst h7
  have : os.map (ofOp ∘ toOp) = os.map id := List.map_congr_left fun x hx => ofOp_toOp (h8 x hx) (hr _ (List.mem_map_of_mem hx))
  rw [this, List.map_id]

def readC (b : List UInt8) : Except Nat Cm :=
  if 131072 < b.length then .error 3 else match cmP b 0 with
    | .error e => .error e
    | .ok x => if x.2 = b.length then .ok (toCm x.1) else .error 7
def decC (may : Cm → Nat) (b : List UInt8) : Except Nat Cm := match readC b with
  | .error e => .error e
  | .ok c => if may c = 0 then .ok c else .error (may c)

theorem encL_len {α : Type} {enc : α → List UInt8} {k : Nat} : ∀ {L : List α}, (∀ x ∈ L, (enc x).length ≤ k) → (encL enc L).length ≤ L.length * k
  | [], _ => by simp [encL]
  | x :: L, h => by
    rw [encL_cons, List.length_append, List.length_cons, Nat.add_mul, Nat.one_mul]
    have h1 := h x (by simp)
    have h2 := encL_len (enc := enc) (k := k) (L := L) fun y hy => h y (by simp [hy])
    omega
theorem encOp_len {x : Op} (h : OpOk x) : (encRaw (ofOp x)).length ≤ 36 := by
  obtain ⟨h1, h2, h3, h4⟩ := ofOp_ok h
  have hl : (ofOp x).2.2.1 ≤ 2000 := by
    have := h.lim
    unfold ofOp; simp only []; split <;> omega
  unfold encRaw
  have e1 : (num (ofOp x).1).length ≤ 1 := num_len_le 0 _ (by have : (128 : Nat) ^ (0 + 1) = 128 := rfl; omega)
  have e2 : (num (ofOp x).2.2.1).length ≤ 2 := num_len_le 1 _ (Nat.lt_of_le_of_lt hl (by decide))
  have e3 : (if (ofOp x).1 / 4 = 2 then (ofOp x).2.1 else []).length ≤ 32 := by
    by_cases hc : (ofOp x).1 / 4 = 2
    · rw [if_pos hc] at h2 ⊢; omega
    · rw [if_neg hc]; simp
  have e4 : (if 0 < (ofOp x).1 / 4 then num (ofOp x).2.2.1 else []).length ≤ 2 := by split <;> simp [e2]
  have e5 : (if (ofOp x).1 % 2 = 0 then (ofOp x).2.2.2 else []).length ≤ 1 := by
    by_cases hc : (ofOp x).1 % 2 = 0
    · rw [if_pos hc] at h4 ⊢; omega
    · rw [if_neg hc]; simp
  simp only [List.length_append]
  omega
theorem encC_len {c : Cm} (h : CmOk c) : (encC c).length ≤ 73000 := by
  have e1 : (num c.parents.length).length ≤ 1 := num_len_le 0 _ (by have := h.ps; have : (128 : Nat) ^ (0 + 1) = 128 := rfl; omega)
  have e2 : (encL (fun d => d) c.parents).length ≤ c.parents.length * 32 := encL_len fun d hd => by rw [h.digs d hd]; exact Nat.le_refl _
  have e3 : (num c.author.length).length ≤ 1 := num_len_le 0 _ (by have := h.author; have : (128 : Nat) ^ (0 + 1) = 128 := rfl; omega)
  have e4 : (num c.note.length).length ≤ 2 := num_len_le 1 _ (Nat.lt_of_le_of_lt h.note (by decide))
  have e5 : (num c.ops.length).length ≤ 2 := num_len_le 1 _ (Nat.lt_of_le_of_lt h.ops (by decide))
  have e6 : (encL encRaw (c.ops.map ofOp)).length ≤ (c.ops.map ofOp).length * 36 := encL_len fun z hz => by
    obtain ⟨y, hy, rfl⟩ := List.mem_map.1 hz
    exact encOp_len (h.each y hy)
  rw [List.length_map] at e6
  have := h.ps
  have := h.ops
  have := h.author
  have := h.note
  show (num c.parents.length ++ (encL (fun d => d) c.parents ++ (text c.author ++ (text c.note ++ (num c.ops.length ++ encL encRaw (c.ops.map ofOp)))))).length ≤ 73000
  simp only [List.length_append, text_length]
  omega

theorem dec_enc {may : Cm → Nat} {c : Cm} (h : CmOk c) (hm : may c = 0) : decC may (encC c) = .ok c := by
  have hl := encC_len h
  have hp := cm_reads.put [] [] (ofCm c) (ofCm_ok h)
  simp only [List.nil_append, List.append_nil, List.length_nil, Nat.zero_add] at hp
  have hr : readC (encC c) = .ok c := by
    unfold readC
    rw [if_neg (by omega)]
    unfold encC
    rw [hp]
    simp only []
    rw [if_pos trivial, toCm_ofCm h]
  unfold decC
  rw [hr]
  simp only []
  rw [if_pos hm]
theorem dec_just {may : Cm → Nat} {b : List UInt8} {c : Cm} (hr : ∀ c, may c = 0 → ∀ x ∈ c.ops, refK x.at_ ≠ 3) (h : decC may b = .ok c) : may c = 0 ∧ encC c = b ∧ (∀ d ∈ c.parents, d.length = 32) ∧ (∀ x ∈ c.ops, x.at_.commit.length = 32) := by
  unfold decC at h
  split at h
  · cases h
  · rename_i c' hc
    split at h
    · rename_i hm
      simp only [Except.ok.injEq] at h
      subst h
      unfold readC at hc
      split at hc
      · cases hc
      · split at hc
        · cases hc
        · rename_i z hz
          split at hc
          · rename_i hq
            simp only [Except.ok.injEq] at hc
            obtain ⟨z, q⟩ := z
            simp only [] at hc hq
            subst hc
            obtain ⟨j1, j2, j3, j4⟩ := cm_reads.just b 0 z q (Nat.zero_le _) hz
            subst hq
            rw [List.drop_zero, List.drop_length, List.append_nil] at j4
            refine ⟨hm, by unfold encC; rw [ofCm_toCm j1 (hr _ hm), j4], j1.2.1.2, fun x hx => ?_⟩
            obtain ⟨y, hy, rfl⟩ := List.mem_map.1 hx
            have := (j1.2.2.2.2.2.2 y hy).2.1
            unfold toOp
            simp only []
            split at this
            · exact this
            · rw [this]; rfl
          · cases hc
    · cases h
theorem dec_cut {may : Cm → Nat} {c : Cm} {k : Nat} (h : CmOk c) (hk : k < (encC c).length) : decC may ((encC c).take k) = .error 8 := by
  have hl := encC_len h
  have hp := cm_reads.cut [] (ofCm c) k (ofCm_ok h) hk
  simp only [List.nil_append, List.length_nil] at hp
  have hr : readC ((encC c).take k) = .error 8 := by
    unfold readC
    rw [if_neg (by rw [List.length_take]; omega)]
    unfold encC
    rw [hp]
  unfold decC
  rw [hr]
theorem dec_more {may : Cm → Nat} {c : Cm} (x : UInt8) (h : CmOk c) : decC may (encC c ++ [x]) = .error 7 := by
  have hl := encC_len h
  have hp := cm_reads.put [] [x] (ofCm c) (ofCm_ok h)
  simp only [List.nil_append, List.length_nil, Nat.zero_add] at hp
  have hr : readC (encC c ++ [x]) = .error 7 := by
    unfold readC
    rw [if_neg (by rw [List.length_append]; simp; omega)]
    unfold encC
    rw [hp]
    simp only []
    rw [if_neg (by rw [List.length_append]; simp)]
  unfold decC
  rw [hr]
theorem enc_inj {may : Cm → Nat} {c d : Cm} (hc : CmOk c) (hd : CmOk d) (mc : may c = 0) (md : may d = 0) (h : encC c = encC d) : c = d := by
  have h1 := dec_enc hc mc
  have h2 := dec_enc hd md
  rw [h, h2] at h1
  exact (Except.ok.inj h1).symm
end Go.Proofs.Ytebfocfeehajjaa.Cm

namespace Go.Proofs.Ytebfocfeehajjaa.Cm
open Wi Pa

/-- A sign of a name. -/
def okC (c : UInt8) : Bool := (decide (65 ≤ c.toNat) && decide (c.toNat ≤ 90) || decide (97 ≤ c.toNat) && decide (c.toNat ≤ 122) || decide (48 ≤ c.toNat) && decide (c.toNat ≤ 57)) || decide (c.toNat = 45) || decide (c.toNat = 95) || decide (c.toNat = 46) || decide (c.toNat = 35) || decide (c.toNat = 64) || decide (c.toNat = 126)
def nameB (s : List UInt8) : Bool := s.all okC && decide (0 < s.length) && decide (s.length ≤ 24)

/-- May an operation be, wherever it stands? -/
def opMay (x : Op) : Bool := decide (refK x.at_ ≠ 3) && (decide (x.kind = 1) && !(decide (refK x.at_ = 0) && x.left) || decide (x.kind = 2) && decide (refK x.at_ ≠ 0) && !x.left && decide (x.byte = 0))
/-- Does it find its element, as number i? -/
def finds (l : List Op) (i : Int) (x : Op) : Bool := decide (refK x.at_ ≠ 1) || (decide (x.at_.n < i) && (match l[(x.at_.n - 1).toNat]? with
  | some y => decide (y.kind = 1)
  | none => false))
def right (l : List Op) (i : Int) : Nat :=
  if i < 1 ∨ (l.length : Int) < i then 9 else match l[(i - 1).toNat]? with
    | none => 9
    | some x => if opMay x = false then 1 else if finds l i x = false then 5 else 0
/-- The first that is wrong, of k from number i on. -/
def rightAll (l : List Op) : Nat → Nat → Nat
  | 0, _ => 0
  | k + 1, i => if right l i ≠ 0 then right l i else rightAll l k (i + 1)
def rises (less : List UInt8 → List UInt8 → Bool) : List (List UInt8) → Bool
  | a :: b :: r => less a b && rises less (b :: r)
  | _ => true
def may (less : List UInt8 → List UInt8 → Bool) (c : Cm) : Nat :=
  if 8 < c.parents.length then 4 else if rises less c.parents = false then 7 else if nameB c.author = false then 11 else if 200 < c.note.length then 3 else if 2000 < c.ops.length then 4 else rightAll c.ops c.ops.length 1

theorem rightAll_zero {l : List Op} : ∀ (k i : Nat), rightAll l k i = 0 → ∀ j, i ≤ j → j < i + k → right l (j : Int) = 0
  | 0, i, _, j, h1, h2 => by omega
  | k + 1, i, h, j, h1, h2 => by
    rw [rightAll] at h
    split at h
    · rename_i h3; exact absurd h h3
    · rename_i h3
      by_cases hj : j = i
      · subst hj; simpa using h3
      · exact rightAll_zero k (i + 1) h j (by omega) (by omega)
theorem right_zero {l : List Op} {i : Nat} {x : Op} (h : right l ((i : Int) + 1) = 0) (hx : l[i]? = some x) : opMay x = true ∧ finds l ((i : Int) + 1) x = true := by
  unfold right at h
  rw [show ((i : Int) + 1 - 1).toNat = i by omega, hx] at h
  split at h
  · cases h
  · simp only [] at h
    split at h
    · cases h
    · split at h
      · cases h
      · rename_i h1 h2
        exact ⟨by simpa using h1, by simpa using h2⟩
theorem may_ops {less : List UInt8 → List UInt8 → Bool} {c : Cm} (h : may less c = 0) : c.parents.length ≤ 8 ∧ rises less c.parents = true ∧ nameB c.author = true ∧ c.note.length ≤ 200 ∧ c.ops.length ≤ 2000 ∧ ∀ (i : Nat) (x : Op), c.ops[i]? = some x → opMay x = true ∧ finds c.ops ((i : Int) + 1) x = true := by
  unfold may at h
  split at h
  · cases h
  · split at h
    · cases h
    · split at h
      · cases h
      · split at h
        · cases h
        · split at h
          · cases h
          · rename_i h1 h2 h3 h4 h5
            refine ⟨by omega, by simpa using h2, by simpa using h3, by omega, by omega, fun i x hx => ?_⟩
            have hi : i < c.ops.length := (List.getElem?_eq_some_iff.1 hx).1
            have := rightAll_zero _ _ h (i + 1) (by omega) (by omega)
            exact right_zero (by simpa using this) hx
theorem may_refs {less : List UInt8 → List UInt8 → Bool} (c : Cm) (h : may less c = 0) : ∀ x ∈ c.ops, refK x.at_ ≠ 3 := by
  intro x hx
  obtain ⟨i, hi, rfl⟩ := List.getElem_of_mem hx
  have := ((may_ops h).2.2.2.2.2 i _ (List.getElem?_eq_getElem hi)).1
  unfold opMay at this
  simp only [Bool.and_eq_true, decide_eq_true_eq] at this
  exact this.1
theorem may_ok {less : List UInt8 → List UInt8 → Bool} {c : Cm} (h : may less c = 0) (hd : ∀ d ∈ c.parents, d.length = 32) (ho : ∀ x ∈ c.ops, x.at_.commit.length = 32) : CmOk c := by
  obtain ⟨h1, -, h3, h4, h5, h6⟩ := may_ops h
  refine ⟨h1, hd, ?_, h4, h5, fun x hx => ?_⟩
  · unfold nameB at h3
    simp only [Bool.and_eq_true, decide_eq_true_eq] at h3
    exact h3.2
  · have hr := may_refs c h x hx
    have hm := hx
    obtain ⟨i, hi, rfl⟩ := List.getElem_of_mem hx
    obtain ⟨q1, q2⟩ := h6 i _ (List.getElem?_eq_getElem hi)
    unfold opMay at q1
    simp only [Bool.and_eq_true, Bool.or_eq_true, decide_eq_true_eq] at q1
    refine ⟨?_, hr, ho _ hm, ?_⟩
    · rcases q1.2 with q | q
      · exact .inl q.1
      · exact .inr ⟨q.1.1.1, q.2⟩
    · rcases refK_cases c.ops[i].at_ with hk | hk | hk | hk
      · have := (refK_root hk).2.1; omega
      · unfold finds at q2
        rw [hk] at q2
        simp at q2
        omega
      · exact (refK_far hk).2.2
      · exact absurd hk hr

/-- The whole, for a commit's bytes. -/
theorem decode_encode {less : List UInt8 → List UInt8 → Bool} {c : Cm} (h : may less c = 0) (hd : ∀ d ∈ c.parents, d.length = 32) (ho : ∀ x ∈ c.ops, x.at_.commit.length = 32) : decC (may less) (encC c) = .ok c := dec_enc (may_ok h hd ho) h
theorem encode_decode {less : List UInt8 → List UInt8 → Bool} {b : List UInt8} {c : Cm} (h : decC (may less) b = .ok c) : may less c = 0 ∧ encC c = b := by
  obtain ⟨h1, h2, -⟩ := dec_just (fun c h => may_refs c h) h
  exact ⟨h1, h2⟩
end Go.Proofs.Ytebfocfeehajjaa.Cm
