/- What scripts do: plain mathematics. -/
import Derived.Test.YtmanafhdmijfeaaScr
namespace Go.Proofs.Ytmanafhdmijfeaa
open Go Go.RowKit

/-- What comes of one edit. -/
def out1 (a : List UInt8) (x : Ed) : List UInt8 := if x.kind = 1 then a.take x.n.toNat else x.text
/-- A script takes a to b. -/
inductive Does : List Ed → List UInt8 → List UInt8 → Prop
  | nil : Does [] [] []
  | cons {x : Ed} {L : List Ed} {a b : List UInt8} : mayB x = true → x.n.toNat ≤ a.length → Does L (a.drop x.n.toNat) b → Does (x :: L) a (out1 a x ++ b)

theorem mayB_kind {x : Ed} (h : mayB x = true) : (x.kind = 3 ∧ x.n = 0 ∧ x.text ≠ []) ∨ (x.kind = 1 ∧ 0 < x.n ∧ x.text = []) ∨ (x.kind = 2 ∧ 0 < x.n ∧ x.text = []) := by
  unfold mayB at h
  split at h
  · rename_i h3
    simp only [Bool.and_eq_true, decide_eq_true_eq, Bool.not_eq_true', List.isEmpty_eq_false_iff] at h
    exact .inl ⟨h3, h.1, h.2⟩
  · simp only [Bool.and_eq_true, Bool.or_eq_true, decide_eq_true_eq, List.isEmpty_iff] at h
    rcases h.1.1 with h1 | h1
    · exact .inr (.inl ⟨h1, h.1.2, h.2⟩)
    · exact .inr (.inr ⟨h1, h.1.2, h.2⟩)
theorem mayB_put {t : List UInt8} (h : t ≠ []) : mayB ⟨3, 0, t⟩ = true := by simp [mayB, h]
theorem mayB_keep {n : Int} (h : 0 < n) : mayB ⟨1, n, []⟩ = true := by simp [mayB, h]
theorem mayB_cut {n : Int} (h : 0 < n) : mayB ⟨2, n, []⟩ = true := by simp [mayB, h]

theorem Does.run : ∀ {L : List Ed} {a b : List UInt8}, Does L a b → ∀ {out : List UInt8}, out.length + b.length ≤ 1000 → goA a out L = .ok (out ++ b) := by
  intro L a b h
  induction h with
  | nil => intro out _; rw [goA, if_pos rfl, List.append_nil]
  | @cons x L a b hm hn _ ih =>
    intro out hl
    have hn0 := mayB_n hm
    rw [List.length_append] at hl
    have hp : put1 a out x = out ++ out1 a x := rfl
    rw [goA, if_neg (by rw [hm]; decide), if_neg (by omega), hp, if_neg (by rw [List.length_append]; omega), ih (by rw [List.length_append]; omega), List.append_assoc]
theorem does_of : ∀ (L : List Ed) (a out s : List UInt8), goA a out L = .ok s → ∃ b, s = out ++ b ∧ Does L a b
  | [], a, out, s, h => by
    rw [goA] at h
    split at h
    · rename_i ha
      cases h
      subst ha
      exact ⟨[], by simp, .nil⟩
    · cases h
  | x :: L, a, out, s, h => by
    obtain ⟨hm, hn, hg⟩ := goA_ok h
    have hn0 := mayB_n hm
    obtain ⟨b, hb, hd⟩ := does_of L _ _ _ hg
    exact ⟨out1 a x ++ b, by rw [hb, ← List.append_assoc]; rfl, .cons hm (by omega) hd⟩
theorem goA_len : ∀ (L : List Ed) (a out s : List UInt8), out.length ≤ 1000 → goA a out L = .ok s → s.length ≤ 1000
  | [], a, out, s, ho, h => by
    rw [goA] at h
    split at h
    · cases h; exact ho
    · cases h
  | x :: L, a, out, s, ho, h => by
    rw [goA] at h
    split at h
    · cases h
    · split at h
      · cases h
      · split at h
        · cases h
        · rename_i h3
          exact goA_len L _ _ s (by omega) h
theorem applyS_ok {a s : List UInt8} {L : List Ed} (h : applyS a L = .ok s) : a.length ≤ 1000 ∧ s.length ≤ 1000 ∧ Does L a s := by
  unfold applyS at h
  split at h
  · cases h
  · rename_i ha
    obtain ⟨b, hb, hd⟩ := does_of L a [] s h
    rw [List.nil_append] at hb
    subst hb
    exact ⟨by omega, goA_len L a [] s (by simp) h, hd⟩
theorem Does.apply {a b : List UInt8} {L : List Ed} (h : Does L a b) (ha : a.length ≤ 1000) (hb : b.length ≤ 1000) : applyS a L = .ok b := by
  unfold applyS
  rw [if_neg (by omega), h.run (by simp; omega), List.nil_append]

theorem out1_append {a a' : List UInt8} {x : Ed} (h : x.n.toNat ≤ a.length) : out1 (a ++ a') x = out1 a x := by
  unfold out1
  split
  · rw [List.take_append_of_le_length h]
  · rfl
theorem Does.append {L : List Ed} {a b : List UInt8} (h : Does L a b) : ∀ {L' : List Ed} {a' b' : List UInt8}, Does L' a' b' → Does (L ++ L') (a ++ a') (b ++ b') := by
  induction h with
  | nil => intro L' a' b' h'; exact h'
  | @cons x L a b hm hn _ ih =>
    intro L' a' b' h'
    rw [List.append_assoc, ← out1_append (a' := a') hn]
    refine .cons hm (by rw [List.length_append]; omega) ?_
    rw [List.drop_append_of_le_length hn]
    exact ih h'
theorem Does.split : ∀ {K M : List Ed} {a b : List UInt8}, Does (K ++ M) a b → ∃ a0 a2 b0 b2, a = a0 ++ a2 ∧ b = b0 ++ b2 ∧ Does K a0 b0 ∧ Does M a2 b2
  | [], M, a, b, h => ⟨[], a, [], b, rfl, rfl, .nil, h⟩
  | x :: K, M, a, b, h => by
    generalize hL : x :: K ++ M = L at h
    cases h with
    | nil => cases hL
    | @cons y L a b hm hn h1 =>
      simp only [List.cons_append, List.cons.injEq] at hL
      obtain ⟨rfl, rfl⟩ := hL
      obtain ⟨a0, a2, b0, b2, e1, rfl, h2, h3⟩ := Does.split h1
      refine ⟨a.take x.n.toNat ++ a0, a2, out1 a x ++ b0, b2, ?_, by rw [List.append_assoc], ?_, h3⟩
      · rw [List.append_assoc, ← e1, List.take_append_drop]
      · have hl : (a.take x.n.toNat).length = x.n.toNat := by rw [List.length_take]; omega
        have ho : out1 (a.take x.n.toNat ++ a0) x = out1 a x := by
          unfold out1
          split
          · rw [List.take_append_of_le_length (by omega), List.take_of_length_le (by omega)]
          · rfl
        rw [← ho]
        refine .cons hm (by rw [List.length_append]; omega) ?_
        rw [List.drop_append_of_le_length (by omega), List.drop_of_length_le (by omega)]
        exact h2

theorem does_one {x : Ed} {a b : List UInt8} (h : Does [x] a b) : mayB x = true ∧ x.n.toNat = a.length ∧ b = out1 a x := by
  cases h with
  | @cons x L a b hm hn h1 =>
    generalize hd : a.drop x.n.toNat = d at h1
    cases h1
    have := congrArg List.length hd
    rw [List.length_drop, List.length_nil] at this
    exact ⟨hm, by omega, by rw [List.append_nil]⟩
theorem one_does {x : Ed} {a : List UInt8} (hm : mayB x = true) (hn : x.n.toNat = a.length) : Does [x] a (out1 a x) := by
  have h : Does [x] a (out1 a x ++ []) := .cons hm (by omega) (by rw [List.drop_of_length_le (by omega)]; exact .nil)
  rwa [List.append_nil] at h

/-- One byte more. -/
def okStp (kd : Int) (s a1 b1 : List UInt8) : Prop := (kd = 1 ∧ s = [] ∧ ∃ x, a1 = [x] ∧ b1 = [x]) ∨ (kd = 2 ∧ s = [] ∧ ∃ x, a1 = [x] ∧ b1 = []) ∨ (kd = 3 ∧ ∃ y, s = [y] ∧ a1 = [] ∧ b1 = [y])

theorem grow_does {e : Ed} {kd : Int} {s a b a1 b1 : List UInt8} (ho : okStp kd s a1 b1) (hk : e.kind = kd) (h : Does [e] a b) : Does [growE e kd s] (a ++ a1) (b ++ b1) := by
  obtain ⟨hm, hn, rfl⟩ := does_one h
  obtain ⟨k, n, t⟩ := e
  simp only [] at hk hn
  subst hk
  have hn0 : 0 ≤ n := mayB_n hm
  rcases ho with ⟨rfl, rfl, x, rfl, rfl⟩ | ⟨rfl, rfl, x, rfl, rfl⟩ | ⟨rfl, y, rfl, rfl, rfl⟩
  · rcases mayB_kind hm with ⟨h1, -⟩ | ⟨-, h2, h3⟩ | ⟨h1, -⟩
    · simp at h1
    · simp only [] at h2 h3
      subst h3
      have hg : growE ⟨1, n, []⟩ 1 [] = ⟨1, n + 1, []⟩ := rfl
      rw [hg]
      have h4 := one_does (x := ⟨1, n + 1, []⟩) (a := a ++ [x]) (mayB_keep (by omega)) (by simp; omega)
      have h5 : out1 (a ++ [x]) ⟨1, n + 1, []⟩ = out1 a ⟨1, n, []⟩ ++ [x] := by
        simp only [out1, if_true]
        rw [List.take_of_length_le (by simp; omega), List.take_of_length_le (by omega)]
      rwa [h5] at h4
    · simp at h1
  · rcases mayB_kind hm with ⟨h1, -⟩ | ⟨h1, -⟩ | ⟨-, h2, h3⟩
    · simp at h1
    · simp at h1
    · simp only [] at h2 h3
      subst h3
      have hg : growE ⟨2, n, []⟩ 2 [] = ⟨2, n + 1, []⟩ := rfl
      rw [hg, List.append_nil]
      exact one_does (x := ⟨2, n + 1, []⟩) (a := a ++ [x]) (mayB_cut (by omega)) (by simp; omega)
  · rcases mayB_kind hm with ⟨-, h2, h3⟩ | ⟨h1, -⟩ | ⟨h1, -⟩
    · simp only [] at h2 h3
      subst h2
      have hg : growE ⟨3, 0, t⟩ 3 [y] = ⟨3, 0, t ++ [y]⟩ := rfl
      rw [hg, List.append_nil]
      exact one_does (x := ⟨3, 0, t ++ [y]⟩) (a := a) (mayB_put (by simp)) (by simpa using hn)
    · simp at h1
    · simp at h1
theorem new_does {kd : Int} {s a1 b1 : List UInt8} (ho : okStp kd s a1 b1) : Does [growE ⟨kd, 0, []⟩ kd s] a1 b1 := by
  rcases ho with ⟨rfl, rfl, x, rfl, rfl⟩ | ⟨rfl, rfl, x, rfl, rfl⟩ | ⟨rfl, y, rfl, rfl, rfl⟩
  · exact one_does (x := ⟨1, 1, []⟩) (a := [x]) (mayB_keep (by omega)) rfl
  · exact one_does (x := ⟨2, 1, []⟩) (a := [x]) (mayB_cut (by omega)) rfl
  · exact one_does (x := ⟨3, 0, [y]⟩) (a := []) (mayB_put (by simp)) rfl
theorem more_does {L : List Ed} {kd : Int} {s a b a1 b1 : List UInt8} (ho : okStp kd s a1 b1) (h : Does L a b) : Does (moreS L kd s) (a ++ a1) (b ++ b1) := by
  rcases List.eq_nil_or_concat L with rfl | ⟨K, e, rfl⟩
  · rw [moreS_nil]
    exact h.append (new_does ho)
  · rw [List.concat_eq_append] at h ⊢
    by_cases hk : e.kind = kd
    · rw [moreS_same hk]
      obtain ⟨a0, a2, b0, b2, rfl, rfl, h1, h2⟩ := h.split
      rw [List.append_assoc, List.append_assoc]
      exact h1.append (grow_does ho hk h2)
    · rw [moreS_other hk]
      exact h.append (new_does ho)

theorem build_does : ∀ (n : Nat) (a b : List UInt8), a.length + b.length ≤ n → ∀ {L : List Ed} {a0 b0 : List UInt8}, Does L a0 b0 → Does (build L (steps a b)) (a0 ++ a) (b0 ++ b)
  | _, [], [], _, L, a0, b0, h => by rw [steps, List.append_nil, List.append_nil]; exact h
  | 0, _ :: _, _, hl, _, _, _, _ => by simp at hl
  | 0, [], _ :: _, hl, _, _, _, _ => by simp at hl
  | n + 1, x :: a, [], hl, L, a0, b0, h => by
    rw [steps_cut_end, build_cons]
    have h1 := build_does n a [] (by simp at hl ⊢; omega) (more_does (.inr (.inl ⟨rfl, rfl, x, rfl, rfl⟩)) h)
    simpa using h1
  | n + 1, [], y :: b, hl, L, a0, b0, h => by
    rw [steps_put_end, build_cons]
    have h1 := build_does n [] b (by simp at hl ⊢; omega) (more_does (.inr (.inr ⟨rfl, y, rfl, rfl, rfl⟩)) h)
    simpa using h1
  | n + 1, x :: a, y :: b, hl, L, a0, b0, h => by
    simp only [List.length_cons] at hl
    by_cases hxy : x = y
    · subst hxy
      rw [steps_keep, build_cons]
      have h1 := build_does n a b (by omega) (more_does (.inl ⟨rfl, rfl, x, rfl, rfl⟩) h)
      simpa using h1
    · by_cases hd : Df.dist a (y :: b) ≤ Df.dist (x :: a) b
      · rw [steps_cut hxy hd, build_cons]
        have h1 := build_does n a (y :: b) (by simp only [List.length_cons]; omega) (more_does (.inr (.inl ⟨rfl, rfl, x, rfl, rfl⟩)) h)
        simpa using h1
      · rw [steps_put hxy hd, build_cons]
        have h1 := build_does n (x :: a) b (by simp only [List.length_cons]; omega) (more_does (.inr (.inr ⟨rfl, y, rfl, rfl, rfl⟩)) h)
        simpa using h1
theorem script_does (a b : List UInt8) : Does (scriptS a b) a b := build_does _ a b (Nat.le_refl _) (L := []) (a0 := []) (b0 := []) .nil

/-! ### What a script costs -/
theorem does_may {L : List Ed} {a b : List UInt8} (h : Does L a b) (ha : a.length ≤ 1000) : L.all mayC = true := by
  induction h with
  | nil => rfl
  | @cons x L a b hm hn _ ih =>
    have hn0 := mayB_n hm
    have h1 : mayC x = true := by unfold mayC; rw [hm, decide_eq_true (by omega)]; rfl
    rw [List.all_cons, h1, ih (by rw [List.length_drop]; omega)]
    rfl
theorem sumC_cons (x : Ed) (L : List Ed) : sumC (x :: L) = cost1 x + sumC L := by simp [sumC]
theorem sumC_append (K L : List Ed) : sumC (K ++ L) = sumC K + sumC L := by simp [sumC]
theorem way_ahead (p : List UInt8) {a b : List UInt8} {n : Nat} (h : Df.Way a b n) : Df.Way (p ++ a) (p ++ b) n := by
  induction p with
  | nil => exact h
  | cons x p ih => exact .keep x ih
theorem way_cut (p : List UInt8) {a b : List UInt8} {n : Nat} (h : Df.Way a b n) : Df.Way (p ++ a) b (p.length + n) := by
  induction p with
  | nil => simpa using h
  | cons x p ih => rw [List.length_cons, show p.length + 1 + n = p.length + n + 1 by omega]; exact .cut x ih
theorem way_put (p : List UInt8) {a b : List UInt8} {n : Nat} (h : Df.Way a b n) : Df.Way a (p ++ b) (p.length + n) := by
  induction p with
  | nil => simpa using h
  | cons x p ih => rw [List.length_cons, show p.length + 1 + n = p.length + n + 1 by omega]; exact .put x ih
theorem Does.way {L : List Ed} {a b : List UInt8} (h : Does L a b) : Df.Way a b (sumC L) := by
  induction h with
  | nil => exact .nil
  | @cons x L a b hm hn _ ih =>
    obtain ⟨k, n, t⟩ := x
    simp only [] at hn ih
    rw [sumC_cons]
    have hl : (a.take n.toNat).length = n.toNat := by rw [List.length_take]; omega
    rcases mayB_kind hm with ⟨h1, h2, h3⟩ | ⟨h1, h2, h3⟩ | ⟨h1, h2, h3⟩
    · simp only [] at h1 h2 h3
      subst h1 h2
      have := way_put t ih
      simpa [out1, cost1] using this
    · simp only [] at h1 h2 h3
      subst h1 h3
      have := way_ahead (a.take n.toNat) ih
      rw [List.take_append_drop] at this
      simpa [out1, cost1] using this
    · simp only [] at h1 h2 h3
      subst h1 h3
      have := way_cut (a.take n.toNat) ih
      rw [List.take_append_drop, hl] at this
      simpa [out1, cost1] using this
end Go.Proofs.Ytmanafhdmijfeaa
