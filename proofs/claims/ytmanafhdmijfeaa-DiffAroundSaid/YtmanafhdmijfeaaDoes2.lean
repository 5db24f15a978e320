/- The document's script: what it costs, that no two edits of one kind stand side by side; ways back. -/
import Derived.Test.YtmanafhdmijfeaaDoes
namespace Go.Proofs.Ytmanafhdmijfeaa
open Go Go.RowKit

theorem Does.nonneg {L : List Ed} {a b : List UInt8} (h : Does L a b) : ∀ e ∈ L, 0 ≤ e.n := by
  induction h with
  | nil => intro e he; cases he
  | cons hm _ _ ih =>
    intro e he
    rcases List.mem_cons.1 he with rfl | he
    · exact mayB_n hm
    · exact ih e he

theorem cost_grow {e : Ed} {kd : Int} {s a1 b1 : List UInt8} (ho : okStp kd s a1 b1) (hk : e.kind = kd) (hn : 0 ≤ e.n) : cost1 (growE e kd s) = cost1 e + (if kd = 2 then 1 else s.length) := by
  obtain ⟨k, n, t⟩ := e
  simp only [] at hk hn
  subst hk
  rcases ho with ⟨rfl, rfl, x, -, -⟩ | ⟨rfl, rfl, x, -, -⟩ | ⟨rfl, y, rfl, -, -⟩
  · simp [cost1, growE]
  · simp only [cost1, growE]
    simp
    omega
  · simp [cost1, growE]
theorem sumC_more {L : List Ed} {kd : Int} {s a1 b1 : List UInt8} (ho : okStp kd s a1 b1) (hn : ∀ e ∈ L, 0 ≤ e.n) : sumC (moreS L kd s) = sumC L + (if kd = 2 then 1 else s.length) := by
  have hnew : cost1 (growE ⟨kd, 0, []⟩ kd s) = if kd = 2 then 1 else s.length := by
    rw [cost_grow ho rfl (Int.le_refl 0)]
    simp [cost1]
  rcases List.eq_nil_or_concat L with rfl | ⟨K, e, rfl⟩
  · rw [moreS_nil, List.nil_append, sumC_cons, hnew]
    simp [sumC]
  · rw [List.concat_eq_append] at hn ⊢
    by_cases hk : e.kind = kd
    · rw [moreS_same hk, sumC_append, sumC_append, sumC_cons, sumC_cons, cost_grow ho hk (hn e (by simp))]
      omega
    · rw [moreS_other hk, sumC_append, sumC_cons, hnew]
      simp [sumC]
theorem build_cost : ∀ (n : Nat) (a b : List UInt8), a.length + b.length ≤ n → ∀ {L : List Ed} {a0 b0 : List UInt8}, Does L a0 b0 → sumC (build L (steps a b)) = sumC L + Df.dist a b
  | _, [], [], _, L, a0, b0, h => by rw [steps, Df.dist_nil]; rfl
  | 0, _ :: _, _, hl, _, _, _, _ => by simp at hl
  | 0, [], _ :: _, hl, _, _, _, _ => by simp at hl
  | n + 1, x :: a, [], hl, L, a0, b0, h => by
    have ho : okStp 2 [] [x] [] := .inr (.inl ⟨rfl, rfl, x, rfl, rfl⟩)
    rw [steps_cut_end, build_cons, build_cost n a [] (by simp at hl ⊢; omega) (more_does ho h), sumC_more ho h.nonneg, Df.dist_nil', Df.dist_nil']
    simp
    omega
  | n + 1, [], y :: b, hl, L, a0, b0, h => by
    have ho : okStp 3 [y] [] [y] := .inr (.inr ⟨rfl, y, rfl, rfl, rfl⟩)
    rw [steps_put_end, build_cons, build_cost n [] b (by simp at hl ⊢; omega) (more_does ho h), sumC_more ho h.nonneg, Df.dist_nil, Df.dist_nil]
    simp
    omega
  | n + 1, x :: a, y :: b, hl, L, a0, b0, h => by
    simp only [List.length_cons] at hl
    by_cases hxy : x = y
    · subst hxy
      have ho : okStp 1 [] [x] [x] := .inl ⟨rfl, rfl, x, rfl, rfl⟩
      rw [steps_keep, build_cons, build_cost n a b (by omega) (more_does ho h), sumC_more ho h.nonneg, Df.dist_same]
      simp
    · rw [Df.dist_unlike hxy]
      by_cases hd : Df.dist a (y :: b) ≤ Df.dist (x :: a) b
      · have ho : okStp 2 [] [x] [] := .inr (.inl ⟨rfl, rfl, x, rfl, rfl⟩)
        rw [steps_cut hxy hd, build_cons, build_cost n a (y :: b) (by simp only [List.length_cons]; omega) (more_does ho h), sumC_more ho h.nonneg, Nat.min_eq_left hd]
        simp
        omega
      · have ho : okStp 3 [y] [] [y] := .inr (.inr ⟨rfl, y, rfl, rfl, rfl⟩)
        rw [steps_put hxy hd, build_cons, build_cost n (x :: a) b (by simp only [List.length_cons]; omega) (more_does ho h), sumC_more ho h.nonneg, Nat.min_eq_right (by omega)]
        simp
        omega
theorem script_cost (a b : List UInt8) : sumC (scriptS a b) = Df.dist a b := by
  have h := build_cost _ a b (Nat.le_refl _) (L := []) (a0 := []) (b0 := []) .nil
  rw [show sumC [] = 0 from rfl, Nat.zero_add] at h
  exact h

/-- What the law's cost tells. -/
def costI (a b : List UInt8) : Int := if 1000 < a.length ∨ 1000 < b.length then -1 else (Df.dist a b : Int)

/-! ### No two of one kind side by side -/
def NoTwo (l : List Int) : Prop := ∀ (i : Nat) (x y : Int), l[i]? = some x → l[i + 1]? = some y → x ≠ y
theorem noTwo_snoc {l : List Int} {k : Int} (h : NoTwo l) (hk : ∀ x, l.getLast? = some x → x ≠ k) : NoTwo (l ++ [k]) := by
  intro i x y hx hy
  have hi : i + 1 < (l ++ [k]).length := (List.getElem?_eq_some_iff.1 hy).1
  rw [List.length_append, List.length_singleton] at hi
  by_cases hl : i + 1 < l.length
  · rw [List.getElem?_append_left (by omega)] at hx
    rw [List.getElem?_append_left hl] at hy
    exact h i x y hx hy
  · have hl2 : i + 1 = l.length := by omega
    rw [List.getElem?_append_left (by omega)] at hx
    rw [hl2, List.getElem?_concat_length] at hy
    obtain rfl : k = y := Option.some.inj hy
    refine hk x ?_
    rw [List.getLast?_eq_getElem?, show l.length - 1 = i by omega]
    exact hx
theorem grow_kind (e : Ed) (kd : Int) (s : List UInt8) : (growE e kd s).kind = e.kind := by unfold growE; split <;> rfl
theorem noTwo_more {L : List Ed} {kd : Int} {s : List UInt8} (h : NoTwo (L.map (·.kind))) : NoTwo ((moreS L kd s).map (·.kind)) := by
  rcases List.eq_nil_or_concat L with rfl | ⟨K, e, rfl⟩
  · rw [moreS_nil]
    intro i x y hx hy
    have := (List.getElem?_eq_some_iff.1 hy).1
    simp at this
  · rw [List.concat_eq_append] at h ⊢
    by_cases hk : e.kind = kd
    · rw [moreS_same hk]
      have : (K ++ [growE e kd s]).map (·.kind) = (K ++ [e]).map (·.kind) := by simp [grow_kind]
      rwa [this]
    · rw [moreS_other hk, List.map_append]
      have : [growE ⟨kd, 0, []⟩ kd s].map (·.kind) = [kd] := by simp [grow_kind]
      rw [this]
      refine noTwo_snoc h (fun x hx => ?_)
      rw [List.map_append, List.map_cons, List.map_nil, List.getLast?_append] at hx
      simp at hx
      rw [← hx]; exact hk
theorem noTwo_build : ∀ (ss : List Stp) (L : List Ed), NoTwo (L.map (·.kind)) → NoTwo ((build L ss).map (·.kind))
  | [], _, h => h
  | s :: ss, L, h => by rw [build_cons]; exact noTwo_build ss _ (noTwo_more h)
theorem script_noTwo (a b : List UInt8) : NoTwo ((scriptS a b).map (·.kind)) := noTwo_build _ _ (fun i x y hx _ => by simp at hx)

/-! ### Ways back -/
theorem inv_does {L : List Ed} {a b : List UInt8} (h : Does L a b) : Does (invS a L) b a := by
  induction h with
  | nil => exact .nil
  | @cons x L a b hm hn _ ih =>
    obtain ⟨k, n, t⟩ := x
    simp only [] at hn ih
    rw [invS]
    simp only []
    have hl : (a.take n.toNat).length = n.toNat := by rw [List.length_take]; omega
    rcases mayB_kind hm with ⟨h1, h2, h3⟩ | ⟨h1, h2, h3⟩ | ⟨h1, h2, h3⟩
    · simp only [] at h1 h2 h3
      subst h1 h2
      have hi : inv1 a ⟨3, 0, t⟩ = ⟨2, (t.length : Int), []⟩ := rfl
      have ho : out1 a ⟨3, 0, t⟩ = t := rfl
      rw [hi, ho]
      have hp : 0 < t.length := List.length_pos_iff.2 h3
      have h5 := one_does (x := ⟨2, (t.length : Int), []⟩) (a := t) (mayB_cut (by omega)) (by simp)
      have h6 := h5.append ih
      simpa [out1] using h6
    · simp only [] at h1 h2 h3
      subst h1 h3
      have hi : inv1 a ⟨1, n, []⟩ = ⟨1, n, []⟩ := by simp [inv1]
      have ho : out1 a ⟨1, n, []⟩ = a.take n.toNat := rfl
      rw [hi, ho]
      have h5 := one_does (x := ⟨1, n, []⟩) (a := a.take n.toNat) hm (by rw [hl])
      have h7 : out1 (a.take n.toNat) ⟨1, n, []⟩ = a.take n.toNat := by simp [out1, hl, List.take_of_length_le]
      rw [h7] at h5
      have h6 := h5.append ih
      rwa [List.take_append_drop] at h6
    · simp only [] at h1 h2 h3
      subst h1 h3
      have hi : inv1 a ⟨2, n, []⟩ = ⟨3, 0, a.take n.toNat⟩ := rfl
      have ho : out1 a ⟨2, n, []⟩ = [] := rfl
      rw [hi, ho]
      have hne : a.take n.toNat ≠ [] := fun e => by rw [e] at hl; simp at hl; omega
      have h5 := one_does (x := ⟨3, 0, a.take n.toNat⟩) (a := []) (mayB_put hne) rfl
      have h6 := h5.append ih
      have h7 : out1 [] ⟨3, 0, a.take n.toNat⟩ = a.take n.toNat := rfl
      rw [h7, List.take_append_drop] at h6
      exact h6
theorem inv_back {L : List Ed} {a b : List UInt8} (h : Does L a b) : invS b (invS a L) = L := by
  induction h with
  | nil => rfl
  | @cons x L a b hm hn _ ih =>
    obtain ⟨k, n, t⟩ := x
    simp only [] at hn ih
    rw [invS]
    simp only []
    have hl : (a.take n.toNat).length = n.toNat := by rw [List.length_take]; omega
    rcases mayB_kind hm with ⟨h1, h2, h3⟩ | ⟨h1, h2, h3⟩ | ⟨h1, h2, h3⟩
    · simp only [] at h1 h2 h3
      subst h1 h2
      have hi : inv1 a ⟨3, 0, t⟩ = ⟨2, (t.length : Int), []⟩ := rfl
      have ho : out1 a ⟨3, 0, t⟩ = t := rfl
      rw [hi, ho, invS]
      simp only [Int.toNat_natCast, List.drop_left]
      rw [ih]
      have : inv1 (t ++ b) ⟨2, (t.length : Int), []⟩ = ⟨3, 0, t⟩ := by simp [inv1]
      rw [this]
    · simp only [] at h1 h2 h3
      subst h1 h3
      have hi : ∀ c, inv1 c ⟨1, n, []⟩ = ⟨1, n, []⟩ := fun c => by simp [inv1]
      have ho : out1 a ⟨1, n, []⟩ = a.take n.toNat := rfl
      rw [hi, ho, invS]
      simp only []
      rw [hi, List.drop_append_of_le_length (by omega), List.drop_of_length_le (by omega), List.nil_append, ih]
    · simp only [] at h1 h2 h3
      subst h1 h3
      have hi : inv1 a ⟨2, n, []⟩ = ⟨3, 0, a.take n.toNat⟩ := rfl
      have ho : out1 a ⟨2, n, []⟩ = [] := rfl
      rw [hi, ho, invS, List.nil_append]
      have h8 : inv1 b ⟨3, 0, a.take n.toNat⟩ = ⟨2, n, []⟩ := by
        have : ((a.take n.toNat).length : Int) = n := by rw [hl]; omega
        simp only [inv1, if_neg (show ¬ (3 : Int) = 2 by decide), if_true, this]
      rw [h8]
      simp only [Int.toNat_zero, List.drop_zero]
      rw [ih]
end Go.Proofs.Ytmanafhdmijfeaa
