/- A digest's text, what is read, and which digest is ahead, as plain mathematics. -/
import Derived.Test.YtebfocfeehajjaaSha
namespace Go.Proofs.Ytebfocfeehajjaa.Tx

/-- A digit's letter. -/
def hd (n : Nat) : UInt8 := if n < 10 then UInt8.ofNat (48 + n) else UInt8.ofNat (87 + n)
def hex (d : List UInt8) : List UInt8 := d.flatMap fun x => [hd (x.toNat / 16), hd (x.toNat % 16)]
theorem hex_length : ∀ d : List UInt8, (hex d).length = 2 * d.length
  | [] => rfl
  | x :: r => by
    have := hex_length r
    unfold hex at this ⊢
    rw [List.flatMap_cons, List.length_append, this, List.length_cons]
    simp; omega
theorem hex_snoc (d : List UInt8) (x : UInt8) : hex (d ++ [x]) = hex d ++ [hd (x.toNat / 16), hd (x.toNat % 16)] := by
  unfold hex
  rw [List.flatMap_append]
  simp

/-- The digit of a letter; 16: it is none. -/
def dg (s : List UInt8) (i : Nat) : Nat := Sh.digit (s.getD i 0).toNat
theorem dg_le (s : List UInt8) (i : Nat) : dg s i ≤ 16 := Sh.digit_le _
/-- What the bytes are behind i letters, at place j. -/
def pc (s : List UInt8) (i j : Nat) : Nat := if 2 * j + 1 < i then 16 * dg s (2 * j) + dg s (2 * j + 1) else if 2 * j < i then dg s (2 * j) else 0
theorem pc_zero (s : List UInt8) (j : Nat) : pc s 0 j = 0 := by unfold pc; rw [if_neg (by omega), if_neg (by omega)]
theorem pc_other (s : List UInt8) {i j : Nat} (h : j ≠ i / 2) : pc s (i + 1) j = pc s i j := by
  unfold pc
  by_cases h1 : 2 * j + 1 < i
  · rw [if_pos h1, if_pos (by omega)]
  · rw [if_neg h1, if_neg (by omega)]
    by_cases h2 : 2 * j < i
    · rw [if_pos h2, if_pos (by omega)]
    · rw [if_neg h2, if_neg (by omega)]
/-- All letters so far are digits. -/
def good (s : List UInt8) (i : Nat) : Prop := ∀ k, k < i → dg s k < 16
theorem pc_here (s : List UInt8) {i : Nat} (h : good s (i + 1)) : pc s (i + 1) (i / 2) = pc s i (i / 2) * 16 % 256 + dg s i ∧ pc s i (i / 2) < 16 := by
  unfold pc
  have hi := h i (by omega)
  by_cases h1 : i % 2 = 0
  · have e : 2 * (i / 2) = i := by omega
    rw [e, if_neg (by omega), if_pos (by omega), if_neg (by omega), if_neg (by omega)]
    omega
  · have e : 2 * (i / 2) + 1 = i := by omega
    have hi2 := h (2 * (i / 2)) (by omega)
    rw [e, if_pos (by omega), if_neg (by omega), if_pos (by omega)]
    omega
theorem pc_lt (s : List UInt8) {i : Nat} (h : good s i) (j : Nat) : pc s i j < 256 := by
  unfold pc
  split
  · have h1 := h (2 * j) (by omega)
    have h2 := h (2 * j + 1) (by omega)
    omega
  · split
    · have h1 := h (2 * j) (by omega)
      omega
    · omega
/-- A digest of a text. -/
def pr (s : List UInt8) : List UInt8 := (List.range 32).map fun j => UInt8.ofNat (pc s 64 j)
theorem pr_length (s : List UInt8) : (pr s).length = 32 := by unfold pr; rw [List.length_map, List.length_range]
def fine (s : List UInt8) : Prop := s.length = 64 ∧ good s 64
instance (s : List UInt8) : Decidable (fine s) := by unfold fine good; infer_instance
/-- What is read of a text. -/
def parse (s : List UInt8) : List UInt8 × Bool := if fine s then (pr s, true) else (List.replicate 32 0, false)

/-- Which one is ahead. -/
def less : List UInt8 → List UInt8 → Bool
  | x :: a, y :: b => if x = y then less a b else decide (x.toNat < y.toNat)
  | _, _ => false
theorem less_self : ∀ a : List UInt8, less a a = false
  | [] => rfl
  | _ :: r => by rw [less, if_pos rfl, less_self r]

/-! ### What follows -/
theorem digit_hd {n : Nat} (h : n < 16) : Sh.digit (hd n).toNat = n := by
  have : ∀ n, n < 16 → Sh.digit (hd n).toNat = n := by decide
  exact this n h
theorem hd_digit {c : UInt8} (h : Sh.digit c.toNat < 16) : hd (Sh.digit c.toNat) = c := by
  have : ∀ n : Nat, n < 256 → Sh.digit n < 16 → (hd (Sh.digit n)).toNat = n := by decide +kernel
  exact UInt8.toNat_inj.1 (this c.toNat c.toNat_lt h)
theorem getD_hex : ∀ (d : List UInt8) (j : Nat), j < d.length → (hex d).getD (2 * j) 0 = hd ((d.getD j 0).toNat / 16) ∧ (hex d).getD (2 * j + 1) 0 = hd ((d.getD j 0).toNat % 16)
  | [], j, h => by cases h
  | x :: r, 0, _ => by constructor <;> rfl
  | x :: r, j + 1, h => by
    have := getD_hex r j (by simpa using h)
    have e : hex (x :: r) = hd (x.toNat / 16) :: hd (x.toNat % 16) :: hex r := rfl
    rw [e]
    exact this
theorem hex_fine {d : List UInt8} (h : d.length = 32) : fine (hex d) := by
  refine ⟨by rw [hex_length, h], fun k hk => ?_⟩
  unfold dg
  have h2 := getD_hex d (k / 2) (by omega)
  by_cases hm : k % 2 = 0
  · rw [show 2 * (k / 2) = k by omega] at h2
    rw [h2.1, digit_hd (by have := (d.getD (k / 2) 0).toNat_lt; omega)]
    have := (d.getD (k / 2) 0).toNat_lt; omega
  · rw [show 2 * (k / 2) + 1 = k by omega] at h2
    rw [h2.2, digit_hd (by omega)]
    omega
theorem pr_hex {d : List UInt8} (h : d.length = 32) : pr (hex d) = d := by
  apply List.ext_getElem (by rw [pr_length, h])
  intro j h1 h2
  have e : (pr (hex d))[j] = UInt8.ofNat (pc (hex d) 64 j) := by simp [pr]
  rw [e]
  have hj : j < d.length := h2
  have hg := getD_hex d j hj
  have hd0 : d.getD j 0 = d[j] := by rw [List.getD_eq_getElem?_getD, List.getElem?_eq_getElem hj]; rfl
  have hl := d[j].toNat_lt
  rw [hd0] at hg
  unfold pc
  rw [if_pos (by omega)]
  unfold dg
  rw [hg.1, hg.2, digit_hd (by omega), digit_hd (by omega)]
  apply UInt8.toNat_inj.1
  rw [UInt8.toNat_ofNat']
  omega
theorem parse_hex {d : List UInt8} (h : d.length = 32) : parse (hex d) = (d, true) := by
  unfold parse
  rw [if_pos (hex_fine h), pr_hex h]
theorem hex_pr {s : List UInt8} (h : fine s) : hex (pr s) = s := by
  obtain ⟨hl, hg⟩ := h
  apply List.ext_getElem (by rw [hex_length, pr_length, hl])
  intro k h1 h2
  have hp := getD_hex (pr s) (k / 2) (by rw [pr_length]; omega)
  have hpr : (pr s).getD (k / 2) 0 = UInt8.ofNat (16 * dg s (2 * (k / 2)) + dg s (2 * (k / 2) + 1)) := by
    rw [List.getD_eq_getElem?_getD, List.getElem?_eq_getElem (by rw [pr_length]; omega)]
    unfold pr
    rw [List.getElem_map, List.getElem_range]
    unfold pc
    rw [if_pos (by omega)]
    rfl
  have g1 := hg (2 * (k / 2)) (by omega)
  have g2 := hg (2 * (k / 2) + 1) (by omega)
  rw [hpr, UInt8.toNat_ofNat', Nat.mod_eq_of_lt (by omega)] at hp
  have hk : (hex (pr s)).getD k 0 = (hex (pr s))[k] := by rw [List.getD_eq_getElem?_getD, List.getElem?_eq_getElem h1]; rfl
  have hs : s.getD k 0 = s[k] := by rw [List.getD_eq_getElem?_getD, List.getElem?_eq_getElem h2]; rfl
  rw [← hk, ← hs]
  by_cases hm : k % 2 = 0
  · rw [show 2 * (k / 2) = k by omega] at hp g1
    rw [hp.1, show (16 * dg s k + dg s (k + 1)) / 16 = dg s k by rw [show k + 1 = 2 * (k / 2) + 1 by omega]; omega]
    exact hd_digit g1
  · rw [show 2 * (k / 2) + 1 = k by omega] at hp g2
    rw [hp.2, show (16 * dg s (2 * (k / 2)) + dg s k) % 16 = dg s k by omega]
    exact hd_digit g2

theorem less_both : ∀ a b : List UInt8, (less a b && less b a) = false
  | [], [] => rfl
  | [], _ :: _ => rfl
  | _ :: _, [] => rfl
  | x :: a, y :: b => by
    unfold less
    by_cases h : x = y
    · rw [if_pos h, if_pos h.symm]; exact less_both a b
    · rw [if_neg h, if_neg (fun e => h e.symm)]
      rw [Bool.and_eq_false_iff]
      by_cases hl : x.toNat < y.toNat
      · right; simp; omega
      · left; simp; omega
theorem less_one : ∀ a b : List UInt8, a.length = b.length → (less a b || less b a) = (a != b)
  | [], [], _ => rfl
  | [], _ :: _, h => by cases h
  | _ :: _, [], h => by cases h
  | x :: a, y :: b, h => by
    have ih := less_one a b (by simpa using h)
    unfold less
    by_cases hx : x = y
    · subst hx
      rw [if_pos rfl, if_pos rfl, ih]
      simp [bne]
    · rw [if_neg hx, if_neg (fun e => hx e.symm)]
      have hne : x.toNat ≠ y.toNat := fun e => hx (UInt8.toNat_inj.1 e)
      rw [show (x :: a != y :: b) = true by simp [hx], Bool.or_eq_true]
      by_cases hl : x.toNat < y.toNat
      · left; simpa using hl
      · right; simp; omega
theorem less_trans : ∀ a b c : List UInt8, less a b = true → less b c = true → less a c = true
  | [], b, _, h, _ => by cases b <;> cases h
  | _ :: _, [], _, h, _ => by cases h
  | _ :: _, _ :: _, [], _, h => by cases h
  | x :: a, y :: b, z :: c, h1, h2 => by
    unfold less at h1 h2 ⊢
    by_cases hxy : x = y
    · subst hxy
      rw [if_pos rfl] at h1
      by_cases hxz : x = z
      · subst hxz
        rw [if_pos rfl] at h2 ⊢
        exact less_trans a b c h1 h2
      · rw [if_neg hxz] at h2 ⊢; exact h2
    · rw [if_neg hxy] at h1
      by_cases hyz : y = z
      · subst hyz
        rw [if_neg hxy]; exact h1
      · rw [if_neg hyz] at h2
        have h1' : x.toNat < y.toNat := by simpa using h1
        have h2' : y.toNat < z.toNat := by simpa using h2
        rw [if_neg (fun e => by rw [e] at h1'; omega)]
        simp; omega
/-- The heads that are the same do not count. -/
theorem less_drop : ∀ (i : Nat) (a b : List UInt8), a.take i = b.take i → i ≤ a.length → i ≤ b.length → less a b = less (a.drop i) (b.drop i)
  | 0, _, _, _, _, _ => rfl
  | i + 1, x :: a, y :: b, h, ha, hb => by
    simp only [List.take_succ_cons, List.cons.injEq] at h
    rw [less, if_pos h.1]
    exact less_drop i a b h.2 (by simpa using ha) (by simpa using hb)
  | _ + 1, [], _, _, h, _ => by cases h
  | _ + 1, _ :: _, [], _, _, h => by cases h
theorem drop_at (a : List UInt8) {i : Nat} (h : i < a.length) : a.drop i = a.getD i 0 :: a.drop (i + 1) := by
  rw [List.drop_eq_getElem_cons h, List.getD_eq_getElem?_getD, List.getElem?_eq_getElem h]; rfl
theorem take_at (a b : List UInt8) {i : Nat} (h : i < a.length) (h' : i < b.length) (ht : a.take i = b.take i) (he : a.getD i 0 = b.getD i 0) : a.take (i + 1) = b.take (i + 1) := by
  rw [List.take_succ_eq_append_getElem h, List.take_succ_eq_append_getElem h', ht]
  rw [List.getD_eq_getElem?_getD, List.getD_eq_getElem?_getD, List.getElem?_eq_getElem h, List.getElem?_eq_getElem h'] at he
  congr 1
  exact congrArg (fun x => [x]) he
theorem less_at (a b : List UInt8) {i : Nat} (h : i < a.length) (h' : i < b.length) (ht : a.take i = b.take i) (hne : ¬ a.getD i 0 = b.getD i 0) : less a b = decide ((a.getD i 0).toNat < (b.getD i 0).toNat) := by
  rw [less_drop i a b ht (by omega) (by omega), drop_at a h, drop_at b h', less, if_neg hne]
theorem less_end (a b : List UInt8) {n : Nat} (h : a.length = n) (h' : b.length = n) (ht : a.take n = b.take n) : less a b = false := by
  have e : a = b := by rw [← List.take_of_length_le (l := a) (i := n) (by omega), ht, List.take_of_length_le (by omega)]
  rw [e, less_self]
theorem ne_at (a b : List UInt8) {i n : Nat} (h : a.length = n) (h' : b.length = n) (ht : a.take i = b.take i) (hne : ¬ a = b) : i < n := by
  refine Nat.lt_of_not_le fun hle => hne ?_
  rw [← List.take_of_length_le (l := a) (i := i) (by omega), ht, List.take_of_length_le (by omega)]
end Go.Proofs.Ytebfocfeehajjaa.Tx
