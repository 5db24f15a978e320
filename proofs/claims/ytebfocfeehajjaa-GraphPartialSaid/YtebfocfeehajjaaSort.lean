/- Rising lists, each thing once, without memory: there is just one with the same members; what is put in comes to its place. -/
import Derived.Test.YtebfocfeehajjaaMaths
namespace Go.Proofs.Ytebfocfeehajjaa.So

section
variable {α : Type} (less : α → α → Bool)

/-- Rising: each is ahead of all behind it. -/
def Up (L : List α) : Prop := L.Pairwise fun a b => less a b = true

theorem up_uniq (hirr : ∀ a, less a a = false) (htr : ∀ a b c, less a b = true → less b c = true → less a c = true) : ∀ (L M : List α), Up less L → Up less M → (∀ x, x ∈ L ↔ x ∈ M) → L = M
  | [], [], _, _, _ => rfl
  | [], y :: M, _, _, h => by have := (h y).2 (by simp); cases this
  | x :: L, [], _, _, h => by have := (h x).1 (by simp); cases this
  | x :: L, y :: M, hL, hM, h => by
    unfold Up at hL hM
    rw [List.pairwise_cons] at hL hM
    have hxy : x = y := by
      have h1 := (h x).1 (by simp)
      have h2 := (h y).2 (by simp)
      rcases List.mem_cons.1 h1 with h1 | h1
      · exact h1
      · rcases List.mem_cons.1 h2 with h2 | h2
        · exact h2.symm
        · have a1 := hM.1 x h1
          have a2 := hL.1 y h2
          have := htr _ _ _ a1 a2
          rw [hirr] at this
          cases this
    subst hxy
    congr 1
    refine up_uniq hirr htr L M hL.2 hM.2 fun z => ⟨fun hz => ?_, fun hz => ?_⟩
    · rcases List.mem_cons.1 ((h z).1 (by simp [hz])) with e | h'
      · have := hL.1 z hz
        rw [e, hirr] at this
        cases this
      · exact h'
    · rcases List.mem_cons.1 ((h z).2 (by simp [hz])) with e | h'
      · have := hM.1 z hz
        rw [e, hirr] at this
        cases this
      · exact h'

/-- How many are ahead of d. -/
def place (d : α) : List α → Nat
  | [] => 0
  | x :: L => if less x d = true then place d L + 1 else 0
def ins [DecidableEq α] (L : List α) (d : α) : List α := if L[place less d L]? = some d then L else L.take (place less d L) ++ ([d] ++ L.drop (place less d L))
theorem place_le (d : α) : ∀ L : List α, place less d L ≤ L.length
  | [] => Nat.le_refl _
  | x :: L => by
    rw [place]
    split
    · have := place_le d L; simp; omega
    · simp
theorem ins_cons_ahead [DecidableEq α] {x d : α} {L : List α} (h : less x d = true) : ins less (x :: L) d = x :: ins less L d := by
  unfold ins
  rw [place, if_pos h]
  simp only [List.getElem?_cons_succ, List.take_succ_cons, List.drop_succ_cons]
  split
  · rfl
  · rfl
theorem ins_cons_stop [DecidableEq α] {x d : α} {L : List α} (h : ¬ less x d = true) : ins less (x :: L) d = if x = d then x :: L else d :: x :: L := by
  unfold ins
  rw [place, if_neg h]
  simp
theorem mem_ins [DecidableEq α] (d : α) : ∀ (L : List α) (x : α), x ∈ ins less L d ↔ x ∈ L ∨ x = d
  | [], x => by unfold ins place; simp
  | y :: L, x => by
    by_cases h : less y d = true
    · rw [ins_cons_ahead less h, List.mem_cons, List.mem_cons, mem_ins d L x]
      constructor
      · rintro (h | h | h)
        · exact .inl (.inl h)
        · exact .inl (.inr h)
        · exact .inr h
      · rintro ((h | h) | h)
        · exact .inl h
        · exact .inr (.inl h)
        · exact .inr (.inr h)
    · rw [ins_cons_stop less h]
      split
      · rename_i e
        subst e
        constructor
        · exact .inl
        · rintro (h | h)
          · exact h
          · rw [h]; simp
      · simp only [List.mem_cons]
        constructor
        · rintro (h | h | h)
          · exact .inr h
          · exact .inl (.inl h)
          · exact .inl (.inr h)
        · rintro ((h | h) | h)
          · exact .inr (.inl h)
          · exact .inr (.inr h)
          · exact .inl h
theorem ins_up [DecidableEq α] {ok : α → Prop} (htr : ∀ a b c, less a b = true → less b c = true → less a c = true) (htot : ∀ a b, ok a → ok b → a ≠ b → less a b = true ∨ less b a = true) {d : α} (hd : ok d) : ∀ L : List α, (∀ x ∈ L, ok x) → Up less L → Up less (ins less L d)
  | [], _, _ => by unfold ins place Up; simp
  | y :: L, hok, hL => by
    unfold Up at hL ⊢
    rw [List.pairwise_cons] at hL
    by_cases h : less y d = true
    · rw [ins_cons_ahead less h, List.pairwise_cons]
      refine ⟨fun z hz => ?_, ins_up htr htot hd L (fun x hx => hok x (by simp [hx])) hL.2⟩
      rcases (mem_ins less d L z).1 hz with hz | rfl
      · exact hL.1 z hz
      · exact h
    · rw [ins_cons_stop less h]
      split
      · rw [List.pairwise_cons]; exact hL
      · rename_i hne
        have hdy : less d y = true := by
          rcases htot y d (hok y (by simp)) hd hne with h1 | h1
          · exact absurd h1 h
          · exact h1
        rw [List.pairwise_cons, List.pairwise_cons]
        refine ⟨fun z hz => ?_, hL⟩
        rcases List.mem_cons.1 hz with rfl | hz
        · exact hdy
        · exact htr _ _ _ hdy (hL.1 z hz)
/-- All of them, one by one. -/
def sort [DecidableEq α] (L : List α) : List α := L.foldl (ins less) []
theorem foldl_mem [DecidableEq α] (L : List α) : ∀ (K : List α) (x : α), x ∈ L.foldl (ins less) K ↔ x ∈ K ∨ x ∈ L := by
  induction L with
  | nil => intro K x; simp
  | cons y L ih =>
    intro K x
    rw [List.foldl_cons, ih, mem_ins, List.mem_cons]
    constructor
    · rintro ((h | h) | h)
      · exact .inl h
      · exact .inr (.inl h)
      · exact .inr (.inr h)
    · rintro (h | h | h)
      · exact .inl (.inl h)
      · exact .inl (.inr h)
      · exact .inr h
theorem foldl_up [DecidableEq α] {ok : α → Prop} (htr : ∀ a b c, less a b = true → less b c = true → less a c = true) (htot : ∀ a b, ok a → ok b → a ≠ b → less a b = true ∨ less b a = true) (L : List α) : ∀ K : List α, (∀ x ∈ K, ok x) → (∀ x ∈ L, ok x) → Up less K → Up less (L.foldl (ins less) K) := by
  induction L with
  | nil => intro K _ _ h; exact h
  | cons y L ih =>
    intro K hK hL h
    rw [List.foldl_cons]
    refine ih _ (fun x hx => ?_) (fun x hx => hL x (by simp [hx])) (ins_up less htr htot (hL y (by simp)) K hK h)
    rcases (mem_ins less y K x).1 hx with hx | rfl
    · exact hK x hx
    · exact hL _ (by simp)
theorem sort_mem [DecidableEq α] (L : List α) (x : α) : x ∈ sort less L ↔ x ∈ L := by
  unfold sort
  rw [foldl_mem]
  simp
theorem sort_up [DecidableEq α] {ok : α → Prop} (htr : ∀ a b c, less a b = true → less b c = true → less a c = true) (htot : ∀ a b, ok a → ok b → a ≠ b → less a b = true ∨ less b a = true) {L : List α} (hL : ∀ x ∈ L, ok x) : Up less (sort less L) :=
  foldl_up less htr htot L [] (fun x hx => (by cases hx)) hL List.Pairwise.nil
end
end Go.Proofs.Ytebfocfeehajjaa.So
