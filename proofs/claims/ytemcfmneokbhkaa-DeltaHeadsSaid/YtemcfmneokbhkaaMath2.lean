/- Texts and lists as bytes, as plain mathematics: what is put, what is got, and that the two fit; how many bytes a number has. -/
import Derived.Test.YtemcfmneokbhkaaMath
namespace Go.Proofs.Ytemcfmneokbhkaa.Wi

theorem getNum_le {l : List UInt8} {p : Int} {n next : Nat} (h : getNum l p = (n, next, 0)) : next ≤ l.length := (getNum_just h).choose_spec.2.2.2.1

/-- The bytes of a text, of texts one behind the other, of a list of texts. -/
def text (s : List UInt8) : List UInt8 := num s.length ++ s
def texts : List (List UInt8) → List UInt8
  | [] => []
  | s :: r => text s ++ texts r
def list (L : List (List UInt8)) : List UInt8 := num L.length ++ texts L

theorem text_length (s : List UInt8) : (text s).length = (num s.length).length + s.length := by unfold text; simp

theorem texts_snoc (L : List (List UInt8)) (s : List UInt8) : texts (L ++ [s]) = texts L ++ text s := by
  induction L with
  | nil => simp [texts]
  | cons t r ih => simp [texts, ih]

/-- The text that stands at a place. -/
def getText (l : List UInt8) (p : Int) : List UInt8 × Nat × Nat :=
  if (getNum l p).2.2 ≠ 0 then ([], 0, (getNum l p).2.2)
  else if 131072 < (getNum l p).1 then ([], 0, 3)
  else if l.length < (getNum l p).2.1 + (getNum l p).1 then ([], 0, 8)
  else ((l.drop (getNum l p).2.1).take (getNum l p).1, (getNum l p).2.1 + (getNum l p).1, 0)

theorem getText_err {l : List UInt8} {p : Int} {n next e : Nat} (h : getNum l p = (n, next, e)) (he : e ≠ 0) : getText l p = ([], 0, e) := by
  unfold getText; rw [h]; exact if_pos he
theorem getText_long {l : List UInt8} {p : Int} {n next : Nat} (h : getNum l p = (n, next, 0)) (hn : 131072 < n) : getText l p = ([], 0, 3) := by
  unfold getText; rw [h, if_neg (by simp), if_pos hn]
theorem getText_end {l : List UInt8} {p : Int} {n next : Nat} (h : getNum l p = (n, next, 0)) (hn : n ≤ 131072) (hl : l.length < next + n) : getText l p = ([], 0, 8) := by
  unfold getText; rw [h, if_neg (by simp), if_neg (by simpa using hn), if_pos hl]
theorem getText_ok {l : List UInt8} {p : Int} {n next : Nat} (h : getNum l p = (n, next, 0)) (hn : n ≤ 131072) (hl : next + n ≤ l.length) :
    getText l p = ((l.drop next).take n, next + n, 0) := by
  unfold getText; rw [h, if_neg (by simp), if_neg (by simpa using hn), if_neg (by simpa using hl)]

/-- So many texts that stand there, one behind the other. -/
def getTexts (l : List UInt8) : Nat → Nat → List (List UInt8) × Nat × Nat
  | 0, p => ([], p, 0)
  | k + 1, p =>
    if (getText l p).2.2 ≠ 0 then ([], 0, (getText l p).2.2)
    else if (getTexts l k (getText l p).2.1).2.2 ≠ 0 then ([], 0, (getTexts l k (getText l p).2.1).2.2)
    else ((getText l p).1 :: (getTexts l k (getText l p).2.1).1, (getTexts l k (getText l p).2.1).2.1, 0)

/-- Texts that were got, and what is got behind them. -/
def behind (A : List (List UInt8)) (x : List (List UInt8) × Nat × Nat) : List (List UInt8) × Nat × Nat :=
  if x.2.2 ≠ 0 then ([], 0, x.2.2) else (A ++ x.1, x.2.1, 0)

theorem getTexts_form (l : List UInt8) (k p : Nat) (h : (getTexts l k p).2.2 ≠ 0) : getTexts l k p = ([], 0, (getTexts l k p).2.2) := by
  cases k with
  | zero => simp [getTexts] at h
  | succ k =>
    unfold getTexts at h ⊢
    split
    · rfl
    · rename_i h1
      split
      · rfl
      · rename_i h2
        rw [if_neg h1, if_neg h2] at h
        exact absurd rfl h

theorem behind_nil (l : List UInt8) (k p : Nat) : behind [] (getTexts l k p) = getTexts l k p := by
  unfold behind
  split
  · rename_i h; exact (getTexts_form l k p h).symm
  · rename_i h
    have h0 : (getTexts l k p).2.2 = 0 := by omega
    rw [List.nil_append, ← h0]

theorem behind_zero (A : List (List UInt8)) (l : List UInt8) (p : Nat) : behind A (getTexts l 0 p) = (A, p, 0) := by simp [behind, getTexts]

theorem behind_err {A : List (List UInt8)} {l : List UInt8} {k p e n : Nat} {s : List UInt8} (h : getText l p = (s, n, e)) (he : e ≠ 0) : behind A (getTexts l (k + 1) p) = ([], 0, e) := by
  unfold behind getTexts
  rw [h]
  simp [he]

theorem behind_ok {A : List (List UInt8)} {l : List UInt8} {k p n : Nat} {s : List UInt8} (h : getText l p = (s, n, 0)) : behind A (getTexts l (k + 1) p) = behind (A ++ [s]) (getTexts l k n) := by
  unfold behind
  conv => lhs; unfold getTexts
  rw [h]
  by_cases h2 : (getTexts l k n).2.2 = 0 <;> simp [h2]

/-- The list that stands at a place. -/
def getList (l : List UInt8) (p : Int) : List (List UInt8) × Nat × Nat :=
  if (getNum l p).2.2 ≠ 0 then ([], 0, (getNum l p).2.2)
  else if 131072 < (getNum l p).1 then ([], 0, 3)
  else getTexts l (getNum l p).1 (getNum l p).2.1

theorem getList_err {l : List UInt8} {p : Int} {n next e : Nat} (h : getNum l p = (n, next, e)) (he : e ≠ 0) : getList l p = ([], 0, e) := by
  unfold getList; rw [h]; exact if_pos he
theorem getList_long {l : List UInt8} {p : Int} {n next : Nat} (h : getNum l p = (n, next, 0)) (hn : 131072 < n) : getList l p = ([], 0, 3) := by
  unfold getList; rw [h, if_neg (by simp), if_pos hn]
theorem getList_ok {l : List UInt8} {p : Int} {n next : Nat} (h : getNum l p = (n, next, 0)) (hn : n ≤ 131072) : getList l p = getTexts l n next := by
  unfold getList; rw [h, if_neg (by simp), if_neg (by simpa using hn)]

/- What was put is got. -/
theorem getText_put (a r s : List UInt8) (h : s.length ≤ 131072) : getText (a ++ (text s ++ r)) a.length = (s, a.length + (text s).length, 0) := by
  have hg := getNum_put a (s ++ r) (n := s.length) (by omega)
  have e : a ++ (text s ++ r) = a ++ (num s.length ++ (s ++ r)) := by unfold text; simp
  rw [e, getText_ok hg h (by simp; omega), text_length]
  have e2 : (a ++ (num s.length ++ (s ++ r))).drop (a.length + (num s.length).length) = s ++ r := by
    rw [← List.append_assoc, ← List.length_append, List.drop_left]
  rw [e2, List.take_left, Nat.add_assoc]

theorem getText_put_long (a r s : List UInt8) (h : 131072 < s.length) (hs : s.length < 9223372036854775808) : getText (a ++ (text s ++ r)) a.length = ([], 0, 3) := by
  have hg := getNum_put a (s ++ r) (n := s.length) hs
  have e : a ++ (text s ++ r) = a ++ (num s.length ++ (s ++ r)) := by unfold text; simp
  rw [e, getText_long hg h]

theorem getTexts_put : ∀ (L : List (List UInt8)) (a r : List UInt8), (∀ s ∈ L, s.length ≤ 131072) → getTexts (a ++ (texts L ++ r)) L.length a.length = (L, a.length + (texts L).length, 0) := by
  intro L
  induction L with
  | nil => intro a r _; simp [getTexts, texts]
  | cons s L ih =>
    intro a r h
    have h1 := getText_put a (texts L ++ r) s (h s (by simp))
    have h2 := ih (a ++ text s) r (fun t ht => h t (by simp [ht]))
    rw [List.length_append] at h2
    have e1 : a ++ (texts (s :: L) ++ r) = a ++ (text s ++ (texts L ++ r)) := by simp [texts]
    have e2 : a ++ text s ++ (texts L ++ r) = a ++ (text s ++ (texts L ++ r)) := by simp
    rw [e2] at h2
    rw [e1, List.length_cons]
    unfold getTexts
    rw [h1]
    simp only [ne_eq, not_true_eq_false, if_false]
    rw [h2]
    simp [texts]
    omega

theorem getList_put (a r : List UInt8) (L : List (List UInt8)) (hL : L.length ≤ 131072) (h : ∀ s ∈ L, s.length ≤ 131072) :
    getList (a ++ (list L ++ r)) a.length = (L, a.length + (list L).length, 0) := by
  have hg := getNum_put a (texts L ++ r) (n := L.length) (by omega)
  have e : a ++ (list L ++ r) = a ++ (num L.length ++ (texts L ++ r)) := by unfold list; simp
  rw [e, getList_ok hg hL]
  have h2 := getTexts_put L (a ++ num L.length) r h
  rw [List.length_append] at h2
  rw [show a ++ (num L.length ++ (texts L ++ r)) = a ++ num L.length ++ (texts L ++ r) by simp, h2]
  unfold list
  simp
  omega

/- What is got has just the bytes that stand there. -/
theorem getText_just {l : List UInt8} {p : Int} {s : List UInt8} {next : Nat} (h : getText l p = (s, next, 0)) :
    ∃ k : Nat, p = k ∧ s.length ≤ 131072 ∧ next = k + (text s).length ∧ next ≤ l.length ∧ l.drop k = text s ++ l.drop next := by
  obtain ⟨n, c, e, hn⟩ : ∃ n c e, getNum l p = (n, c, e) := ⟨_, _, _, rfl⟩
  by_cases he : e = 0
  · subst he
    obtain ⟨k, rfl, hlt, h1, h2, r, h3, rfl⟩ := getNum_just hn
    by_cases hl : 131072 < n
    · rw [getText_long hn hl] at h; simp at h
    · by_cases hend : l.length < c + n
      · rw [getText_end hn (by omega) hend] at h; simp at h
      · rw [getText_ok hn (by omega) (by omega)] at h
        simp only [Prod.mk.injEq, and_true] at h
        obtain ⟨rfl, rfl⟩ := h
        have hs : ((l.drop c).take n).length = n := by rw [List.length_take, List.length_drop]; omega
        refine ⟨k, rfl, by omega, ?_, by omega, ?_⟩
        · rw [text_length, hs]; omega
        · unfold text
          rw [hs, h3, List.append_assoc]
          congr 1
          rw [← List.drop_drop, List.take_append_drop]
  · rw [getText_err hn he] at h
    simp only [Prod.mk.injEq] at h
    omega

theorem getText_ne {l : List UInt8} {p : Int} {s : List UInt8} {next e : Nat} (h : getText l p = (s, next, e)) (he : e ≠ 0) : s = [] ∧ next = 0 := by
  unfold getText at h
  split at h
  · simp only [Prod.mk.injEq] at h; exact ⟨h.1.symm, h.2.1.symm⟩
  · split at h
    · simp only [Prod.mk.injEq] at h; exact ⟨h.1.symm, h.2.1.symm⟩
    · split at h
      · simp only [Prod.mk.injEq] at h; exact ⟨h.1.symm, h.2.1.symm⟩
      · simp only [Prod.mk.injEq] at h; omega

theorem getTexts_just (l : List UInt8) : ∀ (k p : Nat) (L : List (List UInt8)) (next : Nat), p ≤ l.length → getTexts l k p = (L, next, 0) →
    L.length = k ∧ next = p + (texts L).length ∧ next ≤ l.length ∧ l.drop p = texts L ++ l.drop next ∧ ∀ s ∈ L, s.length ≤ 131072 := by
  intro k
  induction k with
  | zero =>
    intro p L next hp h
    simp only [getTexts, Prod.mk.injEq] at h
    obtain ⟨rfl, rfl, -⟩ := h
    exact ⟨rfl, rfl, hp, rfl, fun s hs => by cases hs⟩
  | succ k ih =>
    intro p L next hp h
    obtain ⟨s, c, e, hs⟩ : ∃ s c e, getText l p = (s, c, e) := ⟨_, _, _, rfl⟩
    unfold getTexts at h
    rw [hs] at h
    by_cases he : e = 0
    · subst he
      obtain ⟨q, hq, hlen, h1, h2, h3⟩ := getText_just hs
      obtain rfl : p = q := by omega
      simp only [ne_eq, not_true_eq_false, if_false] at h
      obtain ⟨M, m, f, hM⟩ : ∃ M m f, getTexts l k c = (M, m, f) := ⟨_, _, _, rfl⟩
      rw [hM] at h
      by_cases hf : f = 0
      · subst hf
        simp only [not_true_eq_false, if_false, Prod.mk.injEq, and_true] at h
        obtain ⟨rfl, rfl⟩ := h
        obtain ⟨i1, i2, i3, i4, i5⟩ := ih c M m h2 hM
        refine ⟨by simp [i1], ?_, i3, ?_, ?_⟩
        · simp only [texts, List.length_append]; omega
        · rw [h3, i4]; simp [texts]
        · intro t ht
          rcases List.mem_cons.1 ht with rfl | ht
          · exact hlen
          · exact i5 t ht
      · rw [if_pos hf] at h
        exact absurd (Prod.mk.inj (Prod.mk.inj h).2).2 hf
    · rw [if_pos he] at h
      exact absurd (Prod.mk.inj (Prod.mk.inj h).2).2 he

theorem getList_just {l : List UInt8} {p : Int} {L : List (List UInt8)} {next : Nat} (h : getList l p = (L, next, 0)) :
    ∃ k : Nat, p = k ∧ next = k + (list L).length ∧ next ≤ l.length ∧ l.drop k = list L ++ l.drop next ∧ L.length ≤ 131072 ∧ ∀ s ∈ L, s.length ≤ 131072 := by
  obtain ⟨n, c, e, hn⟩ : ∃ n c e, getNum l p = (n, c, e) := ⟨_, _, _, rfl⟩
  by_cases he : e = 0
  · subst he
    obtain ⟨k, rfl, hlt, h1, h2, r, h3, rfl⟩ := getNum_just hn
    by_cases hl : 131072 < n
    · rw [getList_long hn hl] at h; simp at h
    · rw [getList_ok hn (by omega)] at h
      obtain ⟨rfl, i2, i3, i4, i5⟩ := getTexts_just l n c L next h2 h
      refine ⟨k, rfl, ?_, i3, ?_, by omega, i5⟩
      · unfold list; rw [List.length_append]; omega
      · unfold list; rw [h3, i4]; simp
  · rw [getList_err hn he] at h
    simp only [Prod.mk.injEq] at h
    omega

/- What is cut off ends too early. -/
theorem getNum_cut (a : List UInt8) {n k : Nat} (h : n < 9223372036854775808) (hk : k < (num n).length) : getNum (a ++ (num n).take k) a.length = (0, 0, 8) :=
  getNum_err (by simp) (by rw [List.drop_left]; exact get_cut n 0 0 k (by decide) (by rw [pow9]; exact h) hk) (by decide)

theorem getText_cut (a s : List UInt8) {k : Nat} (h : s.length ≤ 131072) (hk : k < (text s).length) : getText (a ++ (text s).take k) a.length = ([], 0, 8) := by
  rw [text_length] at hk
  by_cases h1 : k < (num s.length).length
  · have e : (text s).take k = (num s.length).take k := by unfold text; rw [List.take_append_of_le_length (by omega)]
    rw [e]
    exact getText_err (getNum_cut a (by omega) h1) (by decide)
  · have e : (text s).take k = num s.length ++ s.take (k - (num s.length).length) := by
      unfold text; rw [List.take_append, List.take_of_length_le (by omega)]
    rw [e]
    have hg := getNum_put a (s.take (k - (num s.length).length)) (n := s.length) (by omega)
    exact getText_end hg h (by simp; omega)

theorem getTexts_cut : ∀ (L : List (List UInt8)) (a : List UInt8) (k : Nat), (∀ s ∈ L, s.length ≤ 131072) → k < (texts L).length → getTexts (a ++ (texts L).take k) L.length a.length = ([], 0, 8) := by
  intro L
  induction L with
  | nil => intro a k _ hk; simp [texts] at hk
  | cons s L ih =>
    intro a k h hk
    simp only [texts, List.length_append] at hk
    rw [List.length_cons]
    by_cases h1 : k < (text s).length
    · have e : (texts (s :: L)).take k = (text s).take k := by
        show (text s ++ texts L).take k = _
        rw [List.take_append_of_le_length (by omega)]
      have h2 := getText_cut a s (h s (by simp)) h1
      rw [e]
      unfold getTexts
      rw [h2]
      simp
    · have e : (texts (s :: L)).take k = text s ++ (texts L).take (k - (text s).length) := by
        show (text s ++ texts L).take k = _
        rw [List.take_append, List.take_of_length_le (by omega)]
      have h2 := getText_put a ((texts L).take (k - (text s).length)) s (h s (by simp))
      have h3 := ih (a ++ text s) (k - (text s).length) (fun t ht => h t (by simp [ht])) (by omega)
      rw [List.length_append, List.append_assoc] at h3
      rw [e]
      unfold getTexts
      rw [h2]
      simp only [ne_eq, not_true_eq_false, if_false]
      rw [h3]
      simp

theorem getList_cut (L : List (List UInt8)) {k : Nat} (hL : L.length ≤ 131072) (h : ∀ s ∈ L, s.length ≤ 131072) (hk : k < (list L).length) : getList ((list L).take k) 0 = ([], 0, 8) := by
  have hk' : k < (num L.length).length + (texts L).length := by unfold list at hk; simpa using hk
  by_cases h1 : k < (num L.length).length
  · have e : (list L).take k = [] ++ (num L.length).take k := by unfold list; rw [List.take_append_of_le_length (by omega)]; rfl
    rw [e]
    exact getList_err (getNum_cut [] (by omega) h1) (by decide)
  · have e : (list L).take k = [] ++ (num L.length ++ (texts L).take (k - (num L.length).length)) := by
      unfold list; rw [List.take_append, List.take_of_length_le (by omega)]; rfl
    rw [e]
    have hg := getNum_put [] ((texts L).take (k - (num L.length).length)) (n := L.length) (by omega)
    have h3 := getTexts_cut L (num L.length) (k - (num L.length).length) h (by omega)
    simp only [List.nil_append, List.length_nil, Nat.zero_add] at hg ⊢
    rw [getList_ok (p := 0) hg hL]
    exact h3

theorem list_pos (L : List (List UInt8)) : 0 < (list L).length := by
  have := num_pos L.length
  unfold list; rw [List.length_append]; omega

/- How many bytes a number has. -/
theorem bitLen_shift7 (x : Nat) (h : 128 ≤ x) (hx : x < 2 ^ 64) : Go.Lib.bitLen x = 7 + Go.Lib.bitLen (x / 128) := Go.Lib.bitLen_shift 7 x h hx

theorem bitLen_small : ∀ n : Fin 128, (Go.Lib.bitLen (n.val ||| 1) + 6) / 7 = 1 := by decide +kernel

theorem or_one_div (n : Nat) : (n ||| 1) / 128 = n / 128 := by
  have h : (n ||| 1) >>> 7 = (n >>> 7) ||| (1 >>> 7) := Nat.shiftRight_or_distrib
  rw [Nat.shiftRight_eq_div_pow, Nat.shiftRight_eq_div_pow] at h
  simpa using h

theorem size_num : ∀ n, n < 2 ^ 63 → (Go.Lib.bitLen (n ||| 1) + 6) / 7 = (num n).length := by
  intro n
  induction n using Nat.strongRecOn with
  | ind n ih =>
    intro hn
    by_cases h : n < 128
    · rw [num_small h]; exact bitLen_small ⟨n, h⟩
    · have hge : n ≤ n ||| 1 := Nat.left_le_or
      have hlt : n ||| 1 < 2 ^ 63 := Nat.or_lt_two_pow hn (by decide)
      rw [num_big h, List.length_cons, bitLen_shift7 _ (by omega) (by omega), or_one_div]
      by_cases h2 : n / 128 < 128
      · rw [num_small h2]
        have : Go.Lib.bitLen (n / 128) = Go.Lib.bitLen (n / 128) := rfl
        by_cases h3 : n / 128 = 0
        · omega
        · have key : ∀ m : Fin 128, m.val ≠ 0 → (7 + Go.Lib.bitLen m.val + 6) / 7 = 2 := by decide +kernel
          exact key ⟨n / 128, h2⟩ h3
      · have i := ih (n / 128) (by omega) (by omega)
        have g1 : n / 128 ≤ n / 128 ||| 1 := Nat.left_le_or
        have g2 : n / 128 ||| 1 < 2 ^ 63 := Nat.or_lt_two_pow (by omega) (by decide)
        rw [bitLen_shift7 _ (by omega) (by omega), or_one_div] at i
        rw [bitLen_shift7 (n / 128) (by omega) (by omega)]
        omega
end Go.Proofs.Ytemcfmneokbhkaa.Wi
