/- Decimal numbers as lists of digits: which lists are a number's text, and which number they are. Plain mathematics. -/
import Derived.Lib.Bytealg
import Derived.Lib.IndexLaws
import Derived.Lib.ItoaNum
namespace Go.Proofs.YtjhakblijmaicaaDoor.Num
open Go

def most : Nat := 1125899906842624
def dig (c : UInt8) : Bool := decide (48 ≤ c.toNat ∧ c.toNat ≤ 57)
def numV (l : List UInt8) : Nat := l.foldl (fun n c => n * 10 + (c.toNat - 48)) 0
def numO (l : List UInt8) : Option Nat := if l ≠ [] ∧ l.all dig = true ∧ (l.head? ≠ some 48 ∨ l.length = 1) ∧ numV l ≤ most then some (numV l) else none

theorem numV_snoc (l : List UInt8) (c : UInt8) : numV (l ++ [c]) = numV l * 10 + (c.toNat - 48) := by
  unfold numV; rw [List.foldl_append]; rfl

theorem numV_take_succ (l : List UInt8) (k : Nat) (c : UInt8) (h : l[k]? = some c) : numV (l.take (k + 1)) = numV (l.take k) * 10 + (c.toNat - 48) := by
  obtain ⟨hl, rfl⟩ := List.getElem?_eq_some_iff.1 h
  rw [List.take_succ_eq_append_getElem hl, numV_snoc]

theorem foldl_ge (l : List UInt8) (n : Nat) : n ≤ l.foldl (fun n c => n * 10 + (c.toNat - 48)) n := by
  induction l generalizing n with
  | nil => exact Nat.le_refl _
  | cons c l ih => exact Nat.le_trans (by omega) (ih (n * 10 + (c.toNat - 48)))

theorem numV_take_le (l : List UInt8) (k : Nat) : numV (l.take k) ≤ numV l := by
  have h : numV l = (l.drop k).foldl (fun n c => n * 10 + (c.toNat - 48)) (numV (l.take k)) := by
    unfold numV
    rw [← List.foldl_append, List.take_append_drop]
  rw [h]
  exact foldl_ge _ _

theorem numO_empty : numO [] = none := rfl

theorem numO_nondig (l : List UInt8) (k : Nat) (c : UInt8) (h : l[k]? = some c) (hc : dig c = false) : numO l = none := by
  unfold numO
  rw [if_neg]
  intro ⟨_, ha, _, _⟩
  have := List.all_eq_true.1 ha c (List.mem_of_getElem? h)
  rw [hc] at this
  cases this

theorem numO_great (l : List UInt8) (k : Nat) (h : most < numV (l.take k)) : numO l = none := by
  unfold numO
  rw [if_neg]
  intro ⟨_, _, _, hm⟩
  have := numV_take_le l k
  omega

theorem numO_zero (l : List UInt8) (h : l.head? = some 48) (h1 : l.length ≠ 1) : numO l = none := by
  unfold numO
  rw [if_neg]
  intro ⟨_, _, hz, _⟩
  rcases hz with hz | hz
  · exact hz h
  · exact h1 hz

theorem numO_some (l : List UInt8) (h0 : l ≠ []) (hd : ∀ (k : Nat) (c : UInt8), l[k]? = some c → dig c = true) (hz : l.head? ≠ some 48 ∨ l.length = 1) (hm : numV l ≤ most) : numO l = some (numV l) := by
  unfold numO
  rw [if_pos]
  refine ⟨h0, List.all_eq_true.2 ?_, hz, hm⟩
  intro c hc
  obtain ⟨k, hk⟩ := List.mem_iff_getElem?.1 hc
  exact hd k c hk

def parseO (l : List UInt8) : Option (Nat × Nat) :=
  if Lib.indexByte l 58 < 0 then none
  else (numO (l.take (Lib.indexByte l 58).toNat)).bind fun a => (numO (l.drop ((Lib.indexByte l 58).toNat + 1))).bind fun b => some (a, b)

theorem parseO_at (l : List UInt8) (i : Nat) (h : Lib.indexByte l 58 = i) : parseO l = (numO (l.take i)).bind fun a => (numO (l.drop (i + 1))).bind fun b => some (a, b) := by
  unfold parseO
  rw [h, if_neg (by omega)]
  rfl

theorem parseO_none (l : List UInt8) (h : Lib.indexByte l 58 = -1) : parseO l = none := by
  unfold parseO
  rw [h, if_pos (by decide)]

/-! ### The text of a number is read as that number. -/
theorem digits_props (n : Nat) : Lib.decDigits n ≠ [] ∧ (Lib.decDigits n).all dig = true ∧ numV (Lib.decDigits n) = n ∧ ((Lib.decDigits n).head? = some 48 → n = 0) := by
  induction n using Nat.strongRecOn with
  | ind n ih =>
    have dg : ∀ u, u < 10 → (UInt8.ofNat (48 + u)).toNat = 48 + u := fun u hu => by
      rw [UInt8.toNat_ofNat']; omega
    by_cases h : n < 10
    · rw [Lib.decDigits_one h]
      refine ⟨by simp, ?_, ?_, ?_⟩
      · simp [dig]; omega
      · simp only [numV, List.foldl_cons, List.foldl_nil, dg n h]; omega
      · intro h1
        simp only [List.head?_cons, Option.some.injEq] at h1
        have := congrArg UInt8.toNat h1
        rw [dg n h] at this
        have h2 : (48 : UInt8).toNat = 48 := rfl
        omega
    · obtain ⟨h1, h2, h3, h4⟩ := ih (n / 10) (by omega)
      rw [Lib.decDigits, dif_neg h]
      refine ⟨by simp, ?_, ?_, ?_⟩
      · rw [List.all_append, h2]
        simp [dig]; omega
      · rw [numV_snoc, h3, dg (n % 10) (by omega)]; omega
      · intro hh
        obtain ⟨x, r, hx⟩ := List.exists_cons_of_ne_nil h1
        rw [hx] at hh h4
        have := h4 hh
        omega

theorem digits_len_zero : (Lib.decDigits 0).length = 1 := by rw [Lib.decDigits_one (by decide)]; rfl

theorem numO_digits (n : Nat) (h : n ≤ most) : numO (Lib.decDigits n) = some n := by
  obtain ⟨h1, h2, h3, h4⟩ := digits_props n
  unfold numO
  rw [if_pos, h3]
  refine ⟨h1, h2, ?_, by rw [h3]; exact h⟩
  by_cases h0 : n = 0
  · right; rw [h0]; exact digits_len_zero
  · left; exact fun e => h0 (h4 e)

theorem indexByte_append (l r : List UInt8) (c : UInt8) (h : ∀ x ∈ l, x ≠ c) : Lib.indexByte (l ++ c :: r) c = l.length := by
  induction l with
  | nil => simp [Lib.indexByte]
  | cons x l ih =>
    have hx : (x == c) = false := by simpa using h x (by simp)
    have := ih (fun y hy => h y (by simp [hy]))
    simp only [List.cons_append, Lib.indexByte, hx, this, List.length_cons]
    have h2 : ((l.length : Int) == -1) = false := by
      rw [beq_eq_false_iff_ne]; omega
    rw [h2]
    simp

theorem parseO_text (m n : Nat) (hm : m ≤ most) (hn : n ≤ most) : parseO (Lib.decDigits m ++ 58 :: Lib.decDigits n) = some (m, n) := by
  have hi : Lib.indexByte (Lib.decDigits m ++ 58 :: Lib.decDigits n) 58 = (Lib.decDigits m).length := by
    refine indexByte_append _ _ _ ?_
    intro x hx e
    have := List.all_eq_true.1 (digits_props m).2.1 x hx
    rw [e] at this
    exact absurd this (by decide)
  rw [parseO_at _ _ hi, List.take_left', List.drop_append, numO_digits m hm]
  · have : (Lib.decDigits m).drop ((Lib.decDigits m).length + 1) = [] := List.drop_eq_nil_of_le (by omega)
    rw [this, List.nil_append, show (Lib.decDigits m).length + 1 - (Lib.decDigits m).length = 1 from by omega]
    simp [numO_digits n hn]
  · rfl

theorem digits_length (n : Nat) (h : n < 10 ^ 20) : (Lib.decDigits n).length ≤ 20 := by
  have key : ∀ k n, n < 10 ^ k → 1 ≤ k → (Lib.decDigits n).length ≤ k := by
    intro k
    induction k with
    | zero => intro n _ h; omega
    | succ k ih =>
      intro n hn _
      by_cases h : n < 10
      · rw [Lib.decDigits_one h]; simp
      · rw [Lib.decDigits, dif_neg h, List.length_append]
        by_cases hk : k = 0
        · subst hk; omega
        · have := ih (n / 10) (by rw [Nat.pow_succ] at hn; omega) (by omega)
          simp only [List.length_singleton]
          omega
  exact key 20 n h (by decide)
end Go.Proofs.YtjhakblijmaicaaDoor.Num
