/- Lines and columns of lists of bytes, as plain mathematics: the end of a text, texts one behind the other, and that spots rise from byte to byte. -/
import Derived.Lib.Bytealg
import Derived.Lib.LastIndexByte
import Derived.Lib.IndexLaws
namespace Go.Proofs.YtjhakblijmaicaaDoor.Pos
open Go

def step (p : Nat × Nat) (c : UInt8) : Nat × Nat := if c = 10 then (p.1 + 1, 0) else (p.1, p.2 + 1)
def pos (l : List UInt8) : Nat × Nat := l.foldl step (0, 0)
def join (a b : Nat × Nat) : Nat × Nat := if b.1 = 0 then (a.1, a.2 + b.2) else (a.1 + b.1, b.2)
def less (a b : Nat × Nat) : Prop := a.1 < b.1 ∨ a.1 = b.1 ∧ a.2 < b.2

theorem pos_nil : pos [] = (0, 0) := rfl
theorem pos_snoc (l : List UInt8) (c : UInt8) : pos (l ++ [c]) = step (pos l) c := by
  unfold pos; rw [List.foldl_append]; rfl

theorem snoc_induction {P : List UInt8 → Prop} (h0 : P []) (h1 : ∀ l c, P l → P (l ++ [c])) (l : List UInt8) : P l := by
  have key : ∀ r : List UInt8, P r.reverse := by
    intro r
    induction r with
    | nil => exact h0
    | cons c r ih => rw [List.reverse_cons]; exact h1 _ _ ih
  have := key l.reverse
  rwa [List.reverse_reverse] at this

theorem pos_line (l : List UInt8) : (pos l).1 = l.count 10 := by
  induction l using snoc_induction with
  | h0 => rfl
  | h1 l c ih =>
    rw [pos_snoc, List.count_append, ← ih]
    unfold step
    by_cases h : c = 10
    · rw [if_pos h, h]; rfl
    · rw [if_neg h]
      have : List.count 10 [c] = 0 := by rw [List.count_eq_zero]; simp; exact fun e => h e.symm
      omega

theorem pos_le (l : List UInt8) : (pos l).1 + (pos l).2 ≤ l.length := by
  induction l using snoc_induction with
  | h0 => simp [pos_nil]
  | h1 l c ih =>
    rw [pos_snoc, List.length_append]
    unfold step
    split <;> simp <;> omega

theorem foldl_join (a : Nat × Nat) (r : List UInt8) : r.foldl step a = join a (pos r) := by
  induction r using snoc_induction with
  | h0 => simp [pos_nil, join]
  | h1 r c ih =>
    rw [List.foldl_append, ih, pos_snoc]
    simp only [List.foldl_cons, List.foldl_nil]
    unfold step join
    by_cases h : c = 10
    · simp only [if_pos h]
      split
      · rename_i h0; rw [if_neg (by simp)]; simp [h0]
      · rw [if_neg (by simp)]; simp; omega
    · simp only [if_neg h]
      by_cases h0 : (pos r).1 = 0
      · simp [h0]; omega
      · simp [h0]

theorem pos_append (l r : List UInt8) : pos (l ++ r) = join (pos l) (pos r) := by
  unfold pos; rw [List.foldl_append]; exact foldl_join _ _

/-- The column is what lies behind the last line feed. -/
theorem pos_col_take (s : ByteArray) (k : Nat) (hk : k ≤ s.size) : ((pos (s.data.toList.take k)).2 : Int) = (k : Int) - (Lib.lastIdx s 10 k + 1) := by
  induction k with
  | zero => simp [pos_nil, Lib.lastIdx]
  | succ k ih =>
    have hlt : k < s.size := hk
    have hd : s.data.toList.take (k + 1) = s.data.toList.take k ++ [s.data[k]!] := by
      rw [List.take_succ_eq_append_getElem (by simpa using hlt)]
      congr 2
      have hb : k < s.data.size := hlt
      rw [getElem!_pos s.data k hb]
      rfl
    rw [hd, pos_snoc]
    have ih' := ih (by omega)
    unfold step Lib.lastIdx
    by_cases h : s.data[k]! = 10
    · have h' : ((s.data[k]!).toNat : Int) = 10 := by rw [h]; rfl
      rw [if_pos h, if_pos h']; simp
    · have h' : ¬ ((s.data[k]!).toNat : Int) = 10 := by
        intro e
        apply h
        apply UInt8.toNat_inj.1
        have : (s.data[k]!).toNat = 10 := by omega
        rw [this]; rfl
      rw [if_neg h, if_neg h']
      simp only
      omega

theorem take_snoc (s : ByteArray) (k : Nat) (h : k < s.size) : s.data.toList.take (k + 1) = s.data.toList.take k ++ [s[k]] := by
  rw [List.take_succ_eq_append_getElem (by simpa using h)]; rfl

theorem pos_take_succ (s : ByteArray) (k : Nat) (h : k < s.size) : pos (s.data.toList.take (k + 1)) = step (pos (s.data.toList.take k)) s[k] := by
  rw [take_snoc s k h, pos_snoc]

theorem pos_take_le (s : ByteArray) (k : Nat) : (pos (s.data.toList.take k)).1 + (pos (s.data.toList.take k)).2 ≤ k :=
  Nat.le_trans (pos_le _) (List.length_take_le _ _)

theorem take_all (s : ByteArray) : s.data.toList.take s.size = s.data.toList :=
  List.take_of_length_le (Nat.le_of_eq (by rw [Array.length_toList]; rfl))

theorem pos_col (s : ByteArray) : ((pos s.data.toList).2 : Int) = (s.size : Int) - (Lib.lastIndexByte s 10 + 1) := by
  have h := pos_col_take s s.size (Nat.le_refl _)
  rw [List.take_of_length_le (show s.data.toList.length ≤ s.size from Nat.le_of_eq (by rw [Array.length_toList]; rfl))] at h
  exact h

theorem less_step (p : Nat × Nat) (c : UInt8) : less p (step p c) := by
  unfold less step; split <;> simp

theorem less_trans {a b c : Nat × Nat} (h1 : less a b) (h2 : less b c) : less a c := by
  unfold less at *; omega

theorem less_irrefl (a : Nat × Nat) : ¬ less a a := by unfold less; omega

theorem less_foldl (p : Nat × Nat) (c : UInt8) (r : List UInt8) : less p ((c :: r).foldl step p) := by
  induction r generalizing p c with
  | nil => exact less_step p c
  | cons d r ih => exact less_trans (less_step p c) (ih (step p c) d)

theorem pos_take_less (l : List UInt8) (n m : Nat) (h : n < m) (hm : m ≤ l.length) : less (pos (l.take n)) (pos (l.take m)) := by
  have e : l.take m = l.take n ++ (l.take m).drop n := by
    have : (l.take m).take n = l.take n := by rw [List.take_take]; congr 1; omega
    rw [← this, List.take_append_drop]
  have hl : ((l.take m).drop n).length = m - n := by simp; omega
  generalize (l.take m).drop n = d at *
  rw [e]
  cases d with
  | nil => simp at hl; omega
  | cons c r =>
    unfold pos
    rw [List.foldl_append]
    exact less_foldl _ c r

theorem pos_take_inj (l : List UInt8) (n m : Nat) (hn : n ≤ l.length) (hm : m ≤ l.length) (h : pos (l.take n) = pos (l.take m)) : n = m := by
  rcases Nat.lt_trichotomy n m with h1 | h1 | h1
  · have := pos_take_less l n m h1 hm; rw [h] at this; exact absurd this (less_irrefl _)
  · exact h1
  · have := pos_take_less l m n h1 hn; rw [h] at this; exact absurd this (less_irrefl _)

theorem list_take_snoc (l : List UInt8) (n : Nat) (c : UInt8) (h : l[n]? = some c) : l.take (n + 1) = l.take n ++ [c] := by
  obtain ⟨hl, rfl⟩ := List.getElem?_eq_some_iff.1 h
  exact List.take_succ_eq_append_getElem hl

/-- Bytes that are no line feeds go along a line. -/
theorem pos_run (l : List UInt8) (b j c o : Nat) (hb : pos (l.take b) = (j, c)) (hn : ∀ k, k < o → l[b + k]? ≠ some 10) (hl : b + o ≤ l.length) : pos (l.take (b + o)) = (j, c + o) := by
  induction o with
  | zero => simpa using hb
  | succ o ih =>
    have h1 := ih (fun k hk => hn k (by omega)) (by omega)
    have hlt : b + o < l.length := by omega
    have hg : l[b + o]? = some l[b + o] := List.getElem?_eq_getElem hlt
    have hne : l[b + o] ≠ 10 := fun e => hn o (by omega) (by rw [hg, e])
    rw [show b + (o + 1) = b + o + 1 from rfl, list_take_snoc l (b + o) _ hg, pos_snoc, h1]
    unfold step
    rw [if_neg hne]
    rfl

theorem pos_feed (l : List UInt8) (n j c : Nat) (hp : pos (l.take n) = (j, c)) (h : l[n]? = some 10) : pos (l.take (n + 1)) = (j + 1, 0) := by
  rw [list_take_snoc l n 10 h, pos_snoc, hp]; rfl

/-- How long the line is that begins there. -/
def lineLen (l : List UInt8) : Nat := if 0 ≤ Lib.indexByte l 10 then (Lib.indexByte l 10).toNat else l.length

theorem lineLen_spec (l : List UInt8) : lineLen l ≤ l.length ∧ (∀ k, k < lineLen l → l[k]? ≠ some 10) ∧ (lineLen l < l.length → l[lineLen l]? = some 10) := by
  unfold lineLen
  by_cases h : 0 ≤ Lib.indexByte l 10
  · rw [if_pos h]
    obtain ⟨o, ho⟩ := Int.eq_ofNat_of_zero_le h
    rw [ho]
    obtain ⟨h1, h2⟩ := Lib.indexByte_some ho
    have : o < l.length := (List.getElem?_eq_some_iff.1 h1).1
    exact ⟨Nat.le_of_lt this, h2, fun _ => h1⟩
  · rw [if_neg h]
    have hm : Lib.indexByte l 10 = -1 := by have := Lib.indexByte_ge l 10; omega
    exact ⟨Nat.le_refl _, fun k _ => Lib.indexByte_none hm k, fun h => absurd h (Nat.lt_irrefl _)⟩

theorem not_less_of_le {l : List UInt8} {n m : Nat} (h : n ≤ m) : ¬ less (pos (l.take m)) (pos (l.take n)) := by
  intro hl
  by_cases hn : n ≤ l.length
  · by_cases hm : m ≤ l.length
    · by_cases e : n = m
      · subst e; exact less_irrefl _ hl
      · exact less_irrefl _ (less_trans (pos_take_less l n m (by omega) hm) hl)
    · rw [List.take_of_length_le (Nat.le_of_lt (Nat.lt_of_not_le hm))] at hl
      by_cases e : n = l.length
      · subst e; rw [List.take_of_length_le (Nat.le_refl _)] at hl; exact less_irrefl _ hl
      · have h2 := pos_take_less l n l.length (by omega) (Nat.le_refl _)
        rw [List.take_of_length_le (Nat.le_refl _)] at h2
        exact less_irrefl _ (less_trans h2 hl)
  · rw [List.take_of_length_le (show l.length ≤ m by omega), List.take_of_length_le (show l.length ≤ n by omega)] at hl
    exact less_irrefl _ hl

/-- On a line that begins at b there is no place behind its end. -/
theorem none_behind (l : List UInt8) (b k c n : Nat) (hb : pos (l.take b) = (k, 0)) (hbl : b ≤ l.length) (hc : lineLen (l.drop b) < c) (hn : n ≤ l.length) : pos (l.take n) ≠ (k, c) := by
  intro hp
  obtain ⟨h1, h2, h3⟩ := lineLen_spec (l.drop b)
  have hlen : (l.drop b).length = l.length - b := List.length_drop
  rw [hlen] at h1 h3
  have h2' : ∀ j, j < lineLen (l.drop b) → l[b + j]? ≠ some 10 := fun j hj => by
    have := h2 j hj
    rwa [List.getElem?_drop] at this
  by_cases hnb : n < b
  · have := pos_take_less l n b hnb hbl
    rw [hp, hb] at this
    unfold less at this
    simp only at this
    omega
  · obtain ⟨j, rfl⟩ : ∃ j, n = b + j := ⟨n - b, by omega⟩
    by_cases hj : j ≤ lineLen (l.drop b)
    · have := pos_run l b k 0 j hb (fun i hi => h2' i (by omega)) hn
      rw [hp] at this
      have : c = 0 + j := (Prod.mk.inj this).2
      omega
    · have h4 := h3 (by omega)
      rw [List.getElem?_drop] at h4
      have h5 := pos_run l b k 0 (lineLen (l.drop b)) hb h2' (by omega)
      have h6 := pos_feed l _ _ _ h5 h4
      have h7 := not_less_of_le (l := l) (show b + lineLen (l.drop b) + 1 ≤ b + j by omega)
      rw [hp, h6] at h7
      apply h7
      unfold less
      simp

theorem line_none (l : List UInt8) (b j k n : Nat) (hb : pos (l.take b) = (j, 0)) (hbl : b ≤ l.length) (hi : Lib.indexByte (l.drop b) 10 = -1) (hj : j < k) : (pos (l.take n)).1 < k := by
  have h0 := Lib.indexByte_none hi
  have hall : pos l = (j, 0 + (l.length - b)) := by
    have := pos_run l b j 0 (l.length - b) hb (fun i _ => by have := h0 i; rwa [List.getElem?_drop] at this) (by omega)
    rw [show b + (l.length - b) = l.length from by omega, List.take_of_length_le (Nat.le_refl _)] at this
    exact this
  have hle := not_less_of_le (l := l) (Nat.le_max_left n l.length)
  rw [List.take_of_length_le (Nat.le_max_right n l.length), hall] at hle
  unfold less at hle
  simp only at hle
  omega

theorem extract_take (s : ByteArray) (n : Nat) : (s.extract 0 n).data.toList = s.data.toList.take n := by
  rw [Lib.extract_data]; rfl

theorem extract_drop (s : ByteArray) (b : Nat) : (s.extract b s.size).data.toList = s.data.toList.drop b := by
  rw [Lib.extract_data, List.take_of_length_le]
  rw [List.length_drop]
  exact Nat.le_of_eq (by rw [Array.length_toList]; rfl)

end Go.Proofs.YtjhakblijmaicaaDoor.Pos
