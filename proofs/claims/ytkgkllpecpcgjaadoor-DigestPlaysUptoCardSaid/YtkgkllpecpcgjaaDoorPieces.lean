/- Lists of bytes that came in: what they hold, in the memory and put together. -/
import Derived.Test.YtkgkllpecpcgjaaDoorPSumF
namespace Go.Proofs.YtkgkllpecpcgjaaDoor
open Go Go.RowKit

/-- One of the list's values: where it lies, its capacity, its bytes. -/
abbrev Bit := Option Addr × Nat × List UInt8
def bitv (x : Bit) : Value := .slice x.1 x.2.2.length x.2.1
def bits (L : List Bit) : List Value := L.map bitv
def flat (L : List Bit) : List UInt8 := (L.map (·.2.2)).flatten
/-- It lies in memory, and its capacity is one that an int can say. -/
def Lies (W : World) (B : Nat) (x : Bit) : Prop := x.2.2.length ≤ x.2.1 ∧ x.2.1 ≤ 9223372036854775807 ∧ Rd W B x.1 x.2.2.length (bv x.2.2)

theorem bits_length (L : List Bit) : (bits L).length = L.length := List.length_map _
theorem flat_length_take (L : List Bit) (k : Nat) : (flat (L.take k)).length ≤ (flat L).length := by
  have h : flat L = flat (L.take k) ++ flat (L.drop k) := by unfold flat; rw [← List.flatten_append, ← List.map_append, List.take_append_drop]
  rw [h, List.length_append]; omega
theorem flat_succ (L : List Bit) (k : Nat) (hk : k < L.length) : flat (L.take (k + 1)) = flat (L.take k) ++ (L[k]).2.2 := by
  unfold flat
  rw [List.take_succ_eq_append_getElem hk, List.map_append, List.flatten_append]
  simp
end Go.Proofs.YtkgkllpecpcgjaaDoor
