/- Lines and columns of lists of bytes, as plain mathematics: the end of a text, texts one behind the other, and that spots rise from byte to byte. -/
import Derived.Lib.Bytealg
import Derived.Lib.LastIndexByte
import Derived.Lib.IndexLaws
namespace Go.Proofs.YtjhakblijmaicaaDoor.Pos
open Go

def step (p : Nat × Nat) (c : UInt8) : Nat × Nat := if c = 10 then (p.1 + 1, 0) else (p.1, p.2 + 1)
def pos (l : List UInt8) : Nat × Nat := l.foldl step (0, 0)
def join (a b : Nat × Nat) : Nat × Nat := if b.1 = 0 then (a.1, a.2 + b.2) else (a.1 + b.1, b.2)
def less (a b : Nat × Nat) : Prop := a.1 < b.1 ∨ a.1 = b.1 ∧ a.2 < b.2

theorem pos_nil : pos [] = (0, 0) := rfl
theorem pos_snoc (l : List UInt8) (c : UInt8) : pos (l ++ [c]) = step (pos l) c := by
  unfold pos; rw [List.foldl_append]; rfl

theorem snoc_induction {P : List UInt8 → Prop} (h0 : P []) (h1 : ∀ l c, P l → P (l ++ [c])) (l : List UInt8) : P l := by
  have key : ∀ r : List UInt8, P r.reverse := by
    intro r
    induction r with
    | nil => exact h0
    | cons c r ih => rw [List.reverse_cons]; exact h1 _ _ ih
  have := key l.reverse
  rwa [List.reverse_reverse] at this

theorem pos_line (l : List UInt8) : (pos l).1 = l.count 10 := by
  induction l using snoc_induction with
  | h0 => rfl
  | h1 l c ih =>
    rw [pos_snoc, List.count_append, ← ih]
    unfold step
    by_cases h : c = 10
    · rw [if_pos h, h]; rfl
    · rw [if_neg h]
      have : List.count 10 [c] = 0 := by rw [List.count_eq_zero]; simp; exact fun e => h e.symm
      omega

theorem pos_le (l : List UInt8) : (pos l).1 + (pos l).2 ≤ l.length := by
  induction l using snoc_induction with
  | h0 => simp [pos_nil]
  | h1 l c ih =>
    rw [pos_snoc, List.length_append]
    unfold step
    split <;> simp <;> omega

theorem foldl_join (a : Nat × Nat) (r : List UInt8) : r.foldl step a = join a (pos r) := by
  induction r using snoc_induction with
  | h0 => simp [pos_nil, join]
  | h1 r c ih =>
    rw [List.foldl_append, ih, pos_snoc]
    simp only [List.foldl_cons, List.foldl_nil]
    unfold step join
    by_cases h : c = 10
    · simp only [if_pos h]
      split
      · rename_i h0; rw [if_neg (by simp)]; simp [h0]
      · rw [if_neg (by simp)]; simp; omega
    · simp only [if_neg h]
      by_cases h0 : (pos r).1 = 0
      · simp [h0]; omega
      · simp [h0]

theorem pos_append (l r : List UInt8) : pos (l ++ r) = join (pos l) (pos r) := by
  unfold pos; rw [List.foldl_append]; exact foldl_join _ _

/-- The column is what lies behind the last line feed. -/
theorem pos_col_take (s : ByteArray) (k : Nat) (hk : k ≤ s.size) : ((pos (s.data.toList.take k)).2 : Int) = (k : Int) - (Lib.lastIdx s 10 k + 1) := by
  induction k with
  | zero => simp [pos_nil, Lib.lastIdx]
  | succ k ih =>
    have hlt : k < s.size := hk
    have hd : s.data.toList.take (k + 1) = s.data.toList.take k ++ [s.data[k]!] := by
      rw [List.take_succ_eq_append_getElem (by simpa using hlt)]
      congr 2
      have hb : k < s.data.size := hlt
      rw [getElem!_pos s.data k hb]
      rfl
    rw [hd, pos_snoc]
    have ih' := ih (by omega)
    unfold step Lib.lastIdx
    by_cases h : s.data[k]! = 10
    · have h' : ((s.data[k]!).toNat : Int) = 10 := by rw [h]; rfl
      rw [if_pos h, if_pos h']; simp
    · have h' : ¬ ((s.data[k]!).toNat : Int) = 10 := by
        intro e
        apply h
        apply UInt8.toNat_inj.1
        have : (s.data[k]!).toNat = 10 := by omega
        rw [this]; rfl
      rw [if_neg h, if_neg h']
      simp only
      omega

theorem pos_col (s : ByteArray) : ((pos s.data.toList).2 : Int) = (s.size : Int) - (Lib.lastIndexByte s 10 + 1) := by
  have h := pos_col_take s s.size (Nat.le_refl _)
  rw [List.take_of_length_le (show s.data.toList.length ≤ s.size from Nat.le_of_eq (by rw [Array.length_toList]; rfl))] at h
  exact h

theorem less_step (p : Nat × Nat) (c : UInt8) : less p (step p c) := by
  unfold less step; split <;> simp

theorem less_trans {a b c : Nat × Nat} (h1 : less a b) (h2 : less b c) : less a c := by
  unfold less at *; omega

theorem less_irrefl (a : Nat × Nat) : ¬ less a a := by unfold less; omega

theorem less_foldl (p : Nat × Nat) (c : UInt8) (r : List UInt8) : less p ((c :: r).foldl step p) := by
  induction r generalizing p c with
  | nil => exact less_step p c
  | cons d r ih => exact less_trans (less_step p c) (ih (step p c) d)

theorem pos_take_less (l : List UInt8) (n m : Nat) (h : n < m) (hm : m ≤ l.length) : less (pos (l.take n)) (pos (l.take m)) := by
  have e : l.take m = l.take n ++ (l.take m).drop n := by
    have : (l.take m).take n = l.take n := by rw [List.take_take]; congr 1; omega
    rw [← this, List.take_append_drop]
  have hl : ((l.take m).drop n).length = m - n := by simp; omega
  generalize (l.take m).drop n = d at *
  rw [e]
  cases d with
  | nil => simp at hl; omega
  | cons c r =>
    unfold pos
    rw [List.foldl_append]
    exact less_foldl _ c r

theorem pos_take_inj (l : List UInt8) (n m : Nat) (hn : n ≤ l.length) (hm : m ≤ l.length) (h : pos (l.take n) = pos (l.take m)) : n = m := by
  rcases Nat.lt_trichotomy n m with h1 | h1 | h1
  · have := pos_take_less l n m h1 hm; rw [h] at this; exact absurd this (less_irrefl _)
  · exact h1
  · have := pos_take_less l m n h1 hn; rw [h] at this; exact absurd this (less_irrefl _)

end Go.Proofs.YtjhakblijmaicaaDoor.Pos
