/- What is sorted and then compacted rises, each thing once, without memory. -/
import Derived.Test.YtjgegggcbjecbaaSort
import Derived.Lib.SlicesCompact
import Derived.Sort.Statements
namespace Go.Proofs.Ytjgegggcbjecbaa.So
open Go.Lib Go.Sort

section
variable {α : Type} [Inhabited α] [DecidableEq α] (lt : α → α → Bool)
theorem sorted_ahead (htr : ∀ a b c, lt a b = true → lt b c = true → lt a c = true) (htot : ∀ a b, a ≠ b → lt a b = true ∨ lt b a = true) {d : Array α} (hs : SortedIn lt 0 d.size d) {m j : Nat} (hm : m < d.size) (hj : j < m) (hk : keeps d m = true) : lt d[j]! d[m]! = true := by
  have hne : d[m]! ≠ d[m - 1]! := by
    unfold keeps at hk
    simp only [decide_eq_true_eq] at hk
    rcases hk with h | h
    · omega
    · exact h
  have h1 : lt d[m - 1]! d[m]! = true := by
    rcases htot _ _ hne with h | h
    · rw [hs (m - 1) m (Nat.zero_le _) (by omega) hm] at h; cases h
    · exact h
  by_cases he : j = m - 1
  · rw [he]; exact h1
  · have h2 := hs j (m - 1) (Nat.zero_le _) (by omega) (by omega)
    by_cases hq : d[j]! = d[m - 1]!
    · rw [hq]; exact h1
    · rcases htot _ _ hq with h | h
      · exact htr _ _ _ h h1
      · rw [h2] at h; cases h
theorem compact_up (hirr : ∀ a, lt a a = false) (htr : ∀ a b c, lt a b = true → lt b c = true → lt a c = true) (htot : ∀ a b, a ≠ b → lt a b = true ∨ lt b a = true) {d : Array α} (hs : SortedIn lt 0 d.size d) : ∀ m, m ≤ d.size → Up lt (compactUpTo d m) ∧ ∀ x, x ∈ compactUpTo d m ↔ ∃ j, j < m ∧ d[j]! = x
  | 0, _ => by
    refine ⟨by unfold compactUpTo Up; simp, fun x => ?_⟩
    unfold compactUpTo
    simp
  | m + 1, hm => by
    obtain ⟨h1, h2⟩ := compact_up hirr htr htot hs m (by omega)
    rw [compactUpTo_succ]
    by_cases hk : keeps d m = true
    · rw [if_pos hk]
      refine ⟨?_, fun x => ?_⟩
      · unfold Up at h1 ⊢
        rw [List.pairwise_append]
        refine ⟨h1, by simp, fun a ha b hb => ?_⟩
        obtain ⟨j, hj, rfl⟩ := (h2 a).1 ha
        rw [List.mem_singleton] at hb
        subst hb
        exact sorted_ahead lt htr htot hs (by omega) hj hk
      · rw [List.mem_append, List.mem_singleton, h2]
        constructor
        · rintro (⟨j, hj, rfl⟩ | rfl)
          · exact ⟨j, by omega, rfl⟩
          · exact ⟨m, by omega, rfl⟩
        · rintro ⟨j, hj, rfl⟩
          by_cases he : j = m
          · exact .inr (by rw [he])
          · exact .inl ⟨j, by omega, rfl⟩
    · rw [if_neg hk, List.append_nil]
      refine ⟨h1, fun x => ?_⟩
      rw [h2]
      constructor
      · rintro ⟨j, hj, rfl⟩; exact ⟨j, by omega, rfl⟩
      · rintro ⟨j, hj, rfl⟩
        by_cases he : j = m
        · subst he
          unfold keeps at hk
          simp only [decide_eq_true_eq, not_or, Decidable.not_not] at hk
          exact ⟨j - 1, by omega, hk.2.symm⟩
        · exact ⟨j, by omega, rfl⟩
omit [DecidableEq α] in
theorem mem_array (d : Array α) (x : α) : (∃ j, j < d.size ∧ d[j]! = x) ↔ x ∈ d.toList := by
  rw [Array.mem_toList_iff, Array.mem_iff_getElem]
  constructor
  · rintro ⟨j, hj, rfl⟩; exact ⟨j, hj, by rw [getElem!_pos d j hj]⟩
  · rintro ⟨j, hj, rfl⟩; exact ⟨j, hj, by rw [getElem!_pos d j hj]⟩
omit [DecidableEq α] in
theorem perm_mem {d d' : Array α} (h : PermIn 0 d.size d d') (x : α) : x ∈ d'.toList ↔ x ∈ d.toList := by
  obtain ⟨h1, -, h3⟩ := h
  have h4 : (d'.extract 0 d.size).toList = d'.toList := by rw [← h1]; simp
  have h5 : (d.extract 0 d.size).toList = d.toList := by simp
  rw [h4, h5] at h3
  exact h3.mem_iff
end

/-- Sorted, then compacted, and told by what it is. -/
theorem sorted_compact {α β : Type} [Inhabited α] [DecidableEq α] [DecidableEq β] (val : α → β) (hval : ∀ a b, val a = val b → a = b) (less : β → β → Bool) (ok : β → Prop) (hok : ∀ a, ok (val a)) (hirr : ∀ a, less a a = false) (htr : ∀ a b c, less a b = true → less b c = true → less a c = true) (htot : ∀ a b, ok a → ok b → a ≠ b → less a b = true ∨ less b a = true)
    {d d' : Array α} (hp : PermIn 0 d.size d d') (hs : SortedIn (fun a b => less (val a) (val b)) 0 d.size d') : (compactUpTo d' d'.size).map val = sort less (d.toList.map val) := by
  rw [← hp.1] at hs
  obtain ⟨h1, h2⟩ := compact_up (fun a b => less (val a) (val b)) (fun a => hirr _) (fun a b c => htr _ _ _) (fun a b h => htot _ _ (hok a) (hok b) (fun e => h (hval _ _ e))) hs d'.size (Nat.le_refl _)
  refine up_uniq less hirr htr _ _ ?_ (sort_up less (ok := ok) htr htot ?_) fun x => ?_
  · unfold Up at h1 ⊢
    rw [List.pairwise_map]
    exact h1
  · intro x hx
    obtain ⟨a, -, rfl⟩ := List.mem_map.1 hx
    exact hok a
  · rw [sort_mem, List.mem_map, List.mem_map]
    constructor
    · rintro ⟨a, ha, rfl⟩
      exact ⟨a, (perm_mem hp a).1 ((mem_array d' a).1 ((h2 a).1 ha)), rfl⟩
    · rintro ⟨a, ha, rfl⟩
      exact ⟨a, (h2 a).2 ((mem_array d' a).2 ((perm_mem hp a).2 ha)), rfl⟩
end Go.Proofs.Ytjgegggcbjecbaa.So
