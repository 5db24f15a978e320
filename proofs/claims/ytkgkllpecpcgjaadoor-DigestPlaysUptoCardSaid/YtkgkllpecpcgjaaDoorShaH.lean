/- SHA-256 piece by piece, as plain mathematics: the state behind the whole blocks, what is left of them, and how both go on. -/
import Derived.Test.YtkgkllpecpcgjaaDoorSha
namespace Go.Proofs.YtkgkllpecpcgjaaDoor.Sh

/-- What is left behind the whole blocks. -/
def rest (l : List UInt8) : List UInt8 := l.drop (64 * (l.length / 64))
theorem rest_length (l : List UInt8) : (rest l).length = l.length % 64 := by unfold rest; rw [List.length_drop]; omega
/-- The state behind the whole blocks. -/
def stt (l : List UInt8) : List Nat := blocks l (l.length / 64)
theorem stt_length (l : List UInt8) : (stt l).length = 8 := blocks_length _ _
theorem stt_ws (l : List UInt8) : Ws (stt l) := blocks_ws _ _
/-- The block that is begun, with noughts behind it. -/
def pad (r : List UInt8) : List UInt8 := r ++ List.replicate (64 - r.length) 0
theorem pad_length {r : List UInt8} (h : r.length ≤ 64) : (pad r).length = 64 := by unfold pad; rw [List.length_append, List.length_replicate]; omega

theorem take_drop_append (l m : List UInt8) (i : Nat) (h : 64 * (i + 1) ≤ l.length) : ((l ++ m).drop (64 * i)).take 64 = (l.drop (64 * i)).take 64 := by
  rw [List.drop_append_of_le_length (by omega), List.take_append_of_le_length (by rw [List.length_drop]; omega)]
theorem blocks_append (l m : List UInt8) : ∀ i, 64 * i ≤ l.length → blocks (l ++ m) i = blocks l i
  | 0, _ => rfl
  | i + 1, h => by
    rw [blocks, blocks, blocks_append l m i (by omega), take_drop_append l m i h]

/-- A piece that does not fill the block. -/
theorem stt_less {l m : List UInt8} (h : l.length % 64 + m.length < 64) : stt (l ++ m) = stt l := by
  unfold stt
  rw [List.length_append, show (l.length + m.length) / 64 = l.length / 64 by omega]
  exact blocks_append l m _ (by omega)
theorem rest_less {l m : List UInt8} (h : l.length % 64 + m.length < 64) : rest (l ++ m) = rest l ++ m := by
  unfold rest
  rw [List.length_append, show (l.length + m.length) / 64 = l.length / 64 by omega]
  rw [List.drop_append_of_le_length (by omega)]
/-- A piece that fills it. -/
theorem stt_full {l m : List UInt8} (h : l.length % 64 + m.length = 64) : stt (l ++ m) = mix (stt l) (rest l ++ m) := by
  unfold stt
  rw [List.length_append, show (l.length + m.length) / 64 = l.length / 64 + 1 by omega, blocks, blocks_append l m _ (by omega)]
  congr 1
  rw [List.drop_append_of_le_length (by omega), List.take_of_length_le]
  · rfl
  · rw [List.length_append, List.length_drop]; omega
theorem rest_full {l m : List UInt8} (h : l.length % 64 + m.length = 64) : rest (l ++ m) = [] := by
  apply List.eq_nil_of_length_eq_zero
  rw [rest_length, List.length_append]
  omega

/-- The end: one block more. -/
theorem sum_one {l : List UInt8} (h : l.length % 64 < 56) :
    sum l = out (mix (stt l) (rest l ++ [128] ++ List.replicate (55 - l.length % 64) 0 ++ be8 (8 * l.length % 18446744073709551616) 8)) := by
  have hz : zeros l.length = 55 - l.length % 64 := by unfold zeros; omega
  have hw : whole l = l ++ ([128] ++ List.replicate (55 - l.length % 64) 0 ++ be8 (8 * l.length % 18446744073709551616) 8) := by
    unfold whole; rw [hz]; simp only [List.append_assoc]
  have hl : (whole l).length = l.length + (64 - l.length % 64) := by rw [whole_length, hz]; omega
  unfold sum
  have hs := stt_full (l := l) (m := [128] ++ List.replicate (55 - l.length % 64) 0 ++ be8 (8 * l.length % 18446744073709551616) 8)
    (by simp only [List.length_append, List.length_cons, List.length_nil, List.length_replicate, be8_length]; omega)
  rw [← hw] at hs
  unfold stt at hs
  rw [hs]
  simp only [List.append_assoc]
  rfl
/-- The end: two blocks more. -/
theorem sum_two {l : List UInt8} (h : 56 ≤ l.length % 64) :
    sum l = out (mix (mix (stt l) (rest l ++ [128] ++ List.replicate (63 - l.length % 64) 0)) (List.replicate 56 0 ++ be8 (8 * l.length % 18446744073709551616) 8)) := by
  have hz : zeros l.length = (63 - l.length % 64) + 56 := by unfold zeros; omega
  have hw : whole l = (l ++ ([128] ++ List.replicate (63 - l.length % 64) 0)) ++ (List.replicate 56 0 ++ be8 (8 * l.length % 18446744073709551616) 8) := by
    unfold whole; rw [hz, ← List.replicate_append_replicate]; simp only [List.append_assoc]
  have h1 := stt_full (l := l) (m := [128] ++ List.replicate (63 - l.length % 64) 0)
    (by simp only [List.length_append, List.length_cons, List.length_nil, List.length_replicate]; omega)
  have hl1 : (l ++ ([128] ++ List.replicate (63 - l.length % 64) 0)).length % 64 = 0 := by
    simp only [List.length_append, List.length_cons, List.length_nil, List.length_replicate]; omega
  have h2 := stt_full (l := l ++ ([128] ++ List.replicate (63 - l.length % 64) 0)) (m := List.replicate 56 0 ++ be8 (8 * l.length % 18446744073709551616) 8)
    (by rw [hl1]; simp only [List.length_append, List.length_replicate, be8_length])
  have hr : rest (l ++ ([128] ++ List.replicate (63 - l.length % 64) 0)) = [] := List.eq_nil_of_length_eq_zero (by rw [rest_length, hl1])
  rw [hr, List.nil_append, h1, ← hw] at h2
  unfold sum
  unfold stt at h2
  rw [h2]
  simp only [List.append_assoc]
  rfl
theorem stt_nil : stt [] = H := rfl
theorem rest_nil : rest [] = [] := rfl
theorem pad_nil : pad [] = List.replicate 64 0 := rfl
end Go.Proofs.YtkgkllpecpcgjaaDoor.Sh
