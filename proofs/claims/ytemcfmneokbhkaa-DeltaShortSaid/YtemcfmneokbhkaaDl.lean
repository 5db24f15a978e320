/- Deltas, without memory: the document's delta, what a delta tells, and what follows. -/
import Derived.Test.YtemcfmneokbhkaaMath2
namespace Go.Proofs.Ytemcfmneokbhkaa.Dl
open Wi

/-- How many bytes two lists have in common at their beginnings. -/
def lcp : List UInt8 → List UInt8 → Nat
  | x :: a, y :: b => if x = y then lcp a b + 1 else 0
  | [], _ => 0
  | _ :: _, [] => 0

theorem lcp_nil (a : List UInt8) : lcp a [] = 0 := by cases a <;> rfl
theorem lcp_le_right : ∀ a b : List UInt8, lcp a b ≤ b.length
  | x :: a, y :: b => by
    rw [lcp]
    split
    · have := lcp_le_right a b; simp; omega
    · simp
  | [], _ => by simp [lcp]
  | _ :: _, [] => by simp [lcp]
theorem lcp_le_left : ∀ a b : List UInt8, lcp a b ≤ a.length
  | x :: a, y :: b => by
    rw [lcp]
    split
    · have := lcp_le_left a b; simp; omega
    · simp
  | [], _ => by simp [lcp]
  | _ :: _, [] => by simp [lcp]
theorem lcp_take : ∀ a b : List UInt8, a.take (lcp a b) = b.take (lcp a b)
  | x :: a, y :: b => by
    rw [lcp]
    split
    · rename_i h; subst h; rw [List.take_succ_cons, List.take_succ_cons, lcp_take a b]
    · simp
  | [], _ => by simp [lcp]
  | _ :: _, [] => by simp [lcp]
theorem lcp_prefix : ∀ (a b : List UInt8), lcp (a ++ b) a = a.length
  | [], b => by simp [lcp_nil]
  | x :: a, b => by rw [List.cons_append, lcp, if_pos rfl, lcp_prefix a b]; rfl

/-- The first best of so many numbers: where, and how much. -/
def best (f : Nat → Nat) : Nat → Nat × Nat
  | 0 => (0, 0)
  | n + 1 => if (best f n).2 < f n then (n, f n) else best f n

theorem best_ge (f : Nat → Nat) : ∀ n k, k < n → f k ≤ (best f n).2
  | n + 1, k, h => by
    rw [best]
    have ih := best_ge f n k
    by_cases hk : k = n
    · subst hk; split
      · exact Nat.le_refl _
      · omega
    · have := ih (by omega)
      split
      · show f k ≤ f n; omega
      · exact this
theorem best_at (f : Nat → Nat) : ∀ n, (best f n).2 = 0 ∨ ((best f n).1 < n ∧ f (best f n).1 = (best f n).2)
  | 0 => .inl rfl
  | n + 1 => by
    rw [best]
    split
    · exact .inr ⟨by show n < n + 1; omega, rfl⟩
    · rcases best_at f n with h | ⟨h1, h2⟩
      · exact .inl h
      · exact .inr ⟨by omega, h2⟩

def bestOf (base t : List UInt8) : Nat × Nat := best (fun k => lcp (base.drop k) t) base.length
theorem bestOf_spec (base t : List UInt8) : (bestOf base t).2 ≤ t.length ∧ ((bestOf base t).2 = 0 ∨ ((bestOf base t).1 < base.length ∧ (bestOf base t).1 + (bestOf base t).2 ≤ base.length ∧ (base.drop (bestOf base t).1).take (bestOf base t).2 = t.take (bestOf base t).2)) := by
  rcases best_at (fun k => lcp (base.drop k) t) base.length with h | ⟨h1, h2⟩
  · exact ⟨by unfold bestOf; omega, .inl h⟩
  · have h3 := lcp_le_left (base.drop (bestOf base t).1) t
    have h4 := lcp_le_right (base.drop (bestOf base t).1) t
    have h5 := lcp_take (base.drop (bestOf base t).1) t
    have h6 : lcp (base.drop (bestOf base t).1) t = (bestOf base t).2 := h2
    rw [h6] at h3 h4 h5
    rw [List.length_drop] at h3
    have h7 : (bestOf base t).1 < base.length := h1
    exact ⟨h4, .inr ⟨h7, by omega, h5⟩⟩

/-- Own bytes as a piece. -/
def flush (own : List UInt8) : List UInt8 := if own = [] then [] else num (2 * own.length) ++ own
/-- The pieces, with own bytes waiting. -/
def mkGo (base own t : List UInt8) : List UInt8 :=
  match t with
  | [] => flush own
  | x :: r => if (bestOf base (x :: r)).2 < 8 then mkGo base (own ++ [x]) r
    else flush own ++ (num (2 * (bestOf base (x :: r)).2 + 1) ++ (num (bestOf base (x :: r)).1 ++ mkGo base [] ((x :: r).drop (bestOf base (x :: r)).2)))
termination_by t.length
decreasing_by
  · simp
  · rw [List.length_drop]; simp; omega

theorem mkGo_nil (base own : List UInt8) : mkGo base own [] = flush own := by rw [mkGo]
theorem mkGo_own {base own r : List UInt8} {x : UInt8} (h : (bestOf base (x :: r)).2 < 8) : mkGo base own (x :: r) = mkGo base (own ++ [x]) r := by rw [mkGo, if_pos h]
theorem mkGo_copy {base own r : List UInt8} {x : UInt8} (h : ¬ (bestOf base (x :: r)).2 < 8) :
    mkGo base own (x :: r) = flush own ++ (num (2 * (bestOf base (x :: r)).2 + 1) ++ (num (bestOf base (x :: r)).1 ++ mkGo base [] ((x :: r).drop (bestOf base (x :: r)).2))) := by rw [mkGo, if_neg h]

/-- The document's delta, and the error. -/
def makeD (base t : List UInt8) : List UInt8 × Nat := if 4096 < base.length ∨ 4096 < t.length then ([], 3) else (num base.length ++ (num t.length ++ mkGo base [] t), 0)

/-- A piece: its bytes, and where the next one begins. -/
def piece (base d : List UInt8) (p lack : Nat) : Except Nat (List UInt8 × Nat) :=
  if (getNum d p).2.2 ≠ 0 then .error (getNum d p).2.2
  else if (getNum d p).1 / 2 = 0 ∨ lack < (getNum d p).1 / 2 then .error 7
  else if (getNum d p).1 % 2 = 0 then
    if d.length < (getNum d p).2.1 + (getNum d p).1 / 2 then .error 8 else .ok ((d.drop (getNum d p).2.1).take ((getNum d p).1 / 2), (getNum d p).2.1 + (getNum d p).1 / 2)
  else if (getNum d (getNum d p).2.1).2.2 ≠ 0 then .error (getNum d (getNum d p).2.1).2.2
  else if base.length < (getNum d (getNum d p).2.1).1 + (getNum d p).1 / 2 then .error 9
  else .ok ((base.drop (getNum d (getNum d p).2.1).1).take ((getNum d p).1 / 2), (getNum d (getNum d p).2.1).2.1)

theorem piece_len {base d s : List UInt8} {p lack q : Nat} (h : piece base d p lack = .ok (s, q)) : 0 < s.length ∧ s.length ≤ lack := by
  unfold piece at h
  split at h
  · cases h
  · split at h
    · cases h
    · rename_i h1 h2
      split at h
      · split at h
        · cases h
        · rename_i h4
          simp only [Except.ok.injEq, Prod.mk.injEq] at h
          rw [← h.1, List.length_take, List.length_drop]
          omega
      · split at h
        · cases h
        · split at h
          · cases h
          · rename_i h5
            simp only [Except.ok.injEq, Prod.mk.injEq] at h
            rw [← h.1, List.length_take, List.length_drop]
            omega

/-- Piece by piece. -/
def goD (base d : List UInt8) (size : Nat) (out : List UInt8) (p : Nat) : Except Nat (List UInt8) :=
  if out.length < size then
    match _h : piece base d p (size - out.length) with
    | .error e => .error e
    | .ok x => goD base d size (out ++ x.1) x.2
  else if p = d.length then .ok out else .error 7
termination_by size - out.length
decreasing_by
  have := piece_len (s := x.1) (q := x.2) _h
  rw [List.length_append]; omega

theorem goD_err {base d out : List UInt8} {size p e : Nat} (hl : out.length < size) (h : piece base d p (size - out.length) = .error e) : goD base d size out p = .error e := by
  rw [goD, if_pos hl]
  split
  · rename_i h2; rw [h] at h2; cases h2; rfl
  · rename_i h2; rw [h] at h2; cases h2
theorem goD_ok {base d out s : List UInt8} {size p q : Nat} (hl : out.length < size) (h : piece base d p (size - out.length) = .ok (s, q)) : goD base d size out p = goD base d size (out ++ s) q := by
  rw [goD, if_pos hl]
  split
  · rename_i h2; rw [h] at h2; cases h2
  · rename_i h2; rw [h] at h2; cases h2; rfl
theorem goD_end {base d out : List UInt8} {size : Nat} (hl : ¬ out.length < size) : goD base d size out d.length = .ok out := by rw [goD, if_neg hl, if_pos rfl]
theorem goD_form {base d out : List UInt8} {size p : Nat} (hl : ¬ out.length < size) (hp : p ≠ d.length) : goD base d size out p = .error 7 := by rw [goD, if_neg hl, if_neg hp]

/-- What a delta tells. -/
def applyD (base d : List UInt8) : Except Nat (List UInt8) :=
  if 4096 < base.length then .error 3
  else if (getNum d 0).2.2 ≠ 0 then .error (getNum d 0).2.2
  else if (getNum d 0).1 ≠ base.length then .error 1
  else if (getNum d (getNum d 0).2.1).2.2 ≠ 0 then .error (getNum d (getNum d 0).2.1).2.2
  else if 4096 < (getNum d (getNum d 0).2.1).1 then .error 3
  else goD base d (getNum d (getNum d 0).2.1).1 [] (getNum d (getNum d 0).2.1).2.1

/-! ### What was made is told -/
inductive Tells (base : List UInt8) : List UInt8 → List UInt8 → Prop
  | nil : Tells base [] []
  | own {s t d : List UInt8} (hs : s ≠ []) (h : Tells base t d) : Tells base (s ++ t) (num (2 * s.length) ++ (s ++ d))
  | copy {a n : Nat} {t d : List UInt8} (hn : 0 < n) (ha : a + n ≤ base.length) (h : Tells base t d) : Tells base ((base.drop a).take n ++ t) (num (2 * n + 1) ++ (num a ++ d))

theorem tells_flush {base own t d : List UInt8} (h : Tells base t d) : Tells base (own ++ t) (flush own ++ d) := by
  unfold flush
  split
  · rename_i h0; subst h0; exact h
  · rename_i h0; rw [List.append_assoc]; exact .own h0 h
theorem tells_mk (base : List UInt8) : ∀ (n : Nat) (own t : List UInt8), t.length ≤ n → Tells base (own ++ t) (mkGo base own t)
  | n, own, [], _ => by rw [mkGo_nil]; have := tells_flush (own := own) (Tells.nil (base := base)); simpa using this
  | n + 1, own, x :: r, hn => by
    by_cases h : (bestOf base (x :: r)).2 < 8
    · rw [mkGo_own h]
      have := tells_mk base n (own ++ [x]) r (by simpa using hn)
      simpa using this
    · rw [mkGo_copy h]
      obtain ⟨h1, h2⟩ := bestOf_spec base (x :: r)
      rcases h2 with h2 | ⟨h2, h3, h4⟩
      · omega
      · have ih := tells_mk base n [] ((x :: r).drop (bestOf base (x :: r)).2) (by rw [List.length_drop]; simp at hn ⊢; omega)
        have := Tells.copy (a := (bestOf base (x :: r)).1) (n := (bestOf base (x :: r)).2) (by omega) h3 ih
        rw [h4, List.nil_append, List.take_append_drop] at this
        exact tells_flush this

theorem half_even (n : Nat) : 2 * n / 2 = n ∧ 2 * n % 2 = 0 := by omega
theorem half_odd (n : Nat) : (2 * n + 1) / 2 = n ∧ (2 * n + 1) % 2 = 1 := by omega

theorem piece_own {base s r : List UInt8} {a : List UInt8} {lack : Nat} (hs : s ≠ []) (hl : s.length ≤ lack) (hb : s.length ≤ 4096) :
    piece base (a ++ (num (2 * s.length) ++ (s ++ r))) a.length lack = .ok (s, (a ++ (num (2 * s.length) ++ s)).length) := by
  have h0 : 0 < s.length := List.length_pos_iff.2 hs
  have hg := getNum_put a (s ++ r) (n := 2 * s.length) (by omega)
  unfold piece
  rw [hg]
  simp only [(half_even _).1, (half_even _).2]
  rw [if_neg (by simp), if_neg (by omega), if_pos trivial, if_neg (by simp only [List.length_append]; omega)]
  congr 2
  · rw [← List.append_assoc, List.drop_left' (by rw [List.length_append]), List.take_left]
  · simp only [List.length_append]; omega
theorem piece_copy {base r : List UInt8} {a : List UInt8} {k n lack : Nat} (hn : 0 < n) (hl : n ≤ lack) (hk : k + n ≤ base.length) (hb : base.length ≤ 4096) :
    piece base (a ++ (num (2 * n + 1) ++ (num k ++ r))) a.length lack = .ok ((base.drop k).take n, (a ++ (num (2 * n + 1) ++ num k)).length) := by
  have hg := getNum_put a (num k ++ r) (n := 2 * n + 1) (by omega)
  have hg2 := getNum_put (a ++ num (2 * n + 1)) r (n := k) (by omega)
  rw [List.append_assoc, List.length_append] at hg2
  unfold piece
  rw [hg]
  simp only [(half_odd _).1, (half_odd _).2]
  rw [hg2]
  rw [if_neg (by simp), if_neg (by omega), if_neg (by simp), if_neg (by simp), if_neg (by simp only []; omega)]
  congr 2
  simp only [List.length_append]; omega

theorem tells_go {base : List UInt8} (hb : base.length ≤ 4096) {t d : List UInt8} (h : Tells base t d) : ∀ (a out : List UInt8) (size : Nat), size = out.length + t.length → size ≤ 4096 → goD base (a ++ d) size out a.length = .ok (out ++ t) := by
  induction h with
  | nil =>
    intro a out size hs h4
    rw [List.append_nil, List.append_nil]
    exact goD_end (by simp at hs; omega)
  | @own s t d hs h ih =>
    intro a out size hsz h4
    have h0 : 0 < s.length := List.length_pos_iff.2 hs
    rw [List.length_append] at hsz
    rw [goD_ok (by omega) (piece_own hs (by omega) (by omega))]
    have := ih (a ++ (num (2 * s.length) ++ s)) (out ++ s) size (by rw [List.length_append]; omega) h4
    simpa only [List.append_assoc] using this
  | @copy k n t d hn hk h ih =>
    intro a out size hsz h4
    have hl : ((base.drop k).take n).length = n := by rw [List.length_take, List.length_drop]; omega
    rw [List.length_append, hl] at hsz
    rw [goD_ok (by omega) (piece_copy hn (by omega) hk hb)]
    have := ih (a ++ (num (2 * n + 1) ++ num k)) (out ++ (base.drop k).take n) size (by rw [List.length_append, hl]; omega) h4
    simpa only [List.append_assoc] using this

theorem applyD_tells {base t d : List UInt8} (hb : base.length ≤ 4096) (ht : t.length ≤ 4096) (h : Tells base t d) : applyD base (num base.length ++ (num t.length ++ d)) = .ok t := by
  have hg := getNum_put [] (num t.length ++ d) (n := base.length) (by omega)
  have hg2 := getNum_put (num base.length) d (n := t.length) (by omega)
  simp only [List.nil_append, List.length_nil, Nat.zero_add] at hg
  unfold applyD
  rw [if_neg (by omega)]
  have hz : (((0 : Nat) : Int)) = (0 : Int) := rfl
  rw [hz] at hg
  rw [hg]
  simp only []
  rw [hg2]
  rw [if_neg (by simp), if_neg (by simp), if_neg (by simp), if_neg (by simp only []; omega)]
  have := tells_go hb h (num base.length ++ num t.length) [] t.length (by simp) ht
  simpa [List.append_assoc] using this
theorem makeD_back {base t : List UInt8} (hb : base.length ≤ 4096) (ht : t.length ≤ 4096) : applyD base (makeD base t).1 = .ok t := by
  unfold makeD
  rw [if_neg (by omega)]
  have := tells_mk base _ [] t (Nat.le_refl _)
  exact applyD_tells hb ht this
end Go.Proofs.Ytemcfmneokbhkaa.Dl
