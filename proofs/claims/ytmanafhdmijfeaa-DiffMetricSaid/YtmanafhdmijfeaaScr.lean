/- The document's script: plain mathematics over scripts. -/
import Derived.Test.YtmanafhdmijfeaaMore
import Derived.Test.YtmanafhdmijfeaaDf
namespace Go.Proofs.Ytmanafhdmijfeaa
open Go Go.RowKit

/-- One byte stays, goes, or comes. -/
abbrev Stp := Int × List UInt8
def steps : List UInt8 → List UInt8 → List Stp
  | [], [] => []
  | _ :: a, [] => (2, []) :: steps a []
  | [], y :: b => (3, [y]) :: steps [] b
  | x :: a, y :: b => if x = y then (1, []) :: steps a b else if Df.dist a (y :: b) ≤ Df.dist (x :: a) b then (2, []) :: steps a (y :: b) else (3, [y]) :: steps (x :: a) b
termination_by a b => a.length + b.length
def build (L : List Ed) (ss : List Stp) : List Ed := ss.foldl (fun K s => moreS K s.1 s.2) L
def scriptS (a b : List UInt8) : List Ed := build [] (steps a b)
/-- The script and the error. -/
def makeR (a b : List UInt8) : List Ed × Nat := if 1000 < a.length ∨ 1000 < b.length then ([], 3) else (scriptS a b, 0)

theorem build_cons (L : List Ed) (s : Stp) (ss : List Stp) : build L (s :: ss) = build (moreS L s.1 s.2) ss := rfl
theorem steps_keep (x : UInt8) (a b : List UInt8) : steps (x :: a) (x :: b) = (1, []) :: steps a b := by rw [steps, if_pos rfl]
theorem steps_cut_end (x : UInt8) (a : List UInt8) : steps (x :: a) [] = (2, []) :: steps a [] := by rw [steps]
theorem steps_put_end (y : UInt8) (b : List UInt8) : steps [] (y :: b) = (3, [y]) :: steps [] b := by rw [steps]
theorem steps_cut {x y : UInt8} {a b : List UInt8} (h : x ≠ y) (hd : Df.dist a (y :: b) ≤ Df.dist (x :: a) b) : steps (x :: a) (y :: b) = (2, []) :: steps a (y :: b) := by rw [steps, if_neg h, if_pos hd]
theorem steps_put {x y : UInt8} {a b : List UInt8} (h : x ≠ y) (hd : ¬ Df.dist a (y :: b) ≤ Df.dist (x :: a) b) : steps (x :: a) (y :: b) = (3, [y]) :: steps (x :: a) b := by rw [steps, if_neg h, if_neg hd]

/-- Edits with numbers and texts up to a bound. -/
def Small (L : List Ed) (n t : Nat) : Prop := ∀ e ∈ L, 0 ≤ e.n ∧ e.n ≤ (n : Int) ∧ e.text.length ≤ t
theorem small_nil (n t : Nat) : Small [] n t := fun e h => by cases h
theorem Small.mono {L : List Ed} {n t n' t' : Nat} (h : Small L n t) (hn : n ≤ n') (ht : t ≤ t') : Small L n' t' := fun e he => ⟨(h e he).1, by have := (h e he).2.1; omega, by have := (h e he).2.2; omega⟩
theorem small_more {L : List Ed} {n t : Nat} {kd : Int} {s : List UInt8} (h : Small L n t) : Small (moreS L kd s) (n + 1) (t + s.length) := by
  rcases List.eq_nil_or_concat L with rfl | ⟨K, e, rfl⟩
  · rw [moreS_nil]
    intro x hx
    simp only [List.nil_append, List.mem_singleton] at hx
    subst hx
    unfold growE
    split <;> simp <;> omega
  · rw [List.concat_eq_append] at h ⊢
    have hK : Small K n t := fun x hx => h x (by simp [hx])
    have he := h e (by simp)
    by_cases hk : e.kind = kd
    · rw [moreS_same hk]
      intro x hx
      rcases List.mem_append.1 hx with hx | hx
      · exact (hK.mono (by omega) (by omega)) x hx
      · simp only [List.mem_singleton] at hx
        subst hx
        unfold growE
        split
        · simp only [List.length_append]; omega
        · simp only []; omega
    · rw [moreS_other hk]
      intro x hx
      rcases List.mem_append.1 hx with hx | hx
      · exact (h.mono (by omega) (by omega)) x hx
      · simp only [List.mem_singleton] at hx
        subst hx
        unfold growE
        split <;> simp <;> omega
theorem len_more (L : List Ed) (kd : Int) (s : List UInt8) : (moreS L kd s).length ≤ L.length + 1 := by
  rcases List.eq_nil_or_concat L with rfl | ⟨K, e, rfl⟩
  · rw [moreS_nil]; simp
  · rw [List.concat_eq_append]
    by_cases hk : e.kind = kd
    · rw [moreS_same hk]; simp
    · rw [moreS_other hk]; simp
end Go.Proofs.Ytmanafhdmijfeaa
