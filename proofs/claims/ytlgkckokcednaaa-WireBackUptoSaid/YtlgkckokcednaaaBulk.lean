/- What the bound on the bulk of what is read gives: how long bytes and lists of texts are. -/
import Derived.Test.YtlgkckokcednaaaOpen
import Derived.Test.YtlgkckokcednaaaList
import Derived.Test.YtlgkckokcednaaaRows
namespace Go.Proofs.Ytlgkckokcednaaa
open Go Go.ChangeShapes Go.WideShapes Go.RowKit

theorem bulk_one {H : Type} (d : DataW H) : 1 ≤ Rows.uptoBulk d := by
  cases d with
  | lit l => cases l <;> simp [Rows.uptoBulk]
  | nil => simp [Rows.uptoBulk]
  | ptr d => simp [Rows.uptoBulk]
  | slice elems spare => simp [Rows.uptoBulk]
  | agg parts => simp [Rows.uptoBulk]
  | iface t d => simp [Rows.uptoBulk]
  | map entries => simp [Rows.uptoBulk]
  | held h => simp [Rows.uptoBulk]

theorem bulk_length {H : Type} (l : List (DataW H)) : l.length ≤ Rows.uptoBulkAll l := by
  induction l with
  | nil => simp [Rows.uptoBulkAll]
  | cons x r ih =>
    have := bulk_one x
    simp only [Rows.uptoBulkAll, List.length_cons]
    omega

theorem bulk_strs {H : Type} (L : List ByteArray) (hs : Rows.uptoBulkAll (strs (H := H) L) ≤ 1048576) : (Wi.texts (tl L)).length ≤ 10 * Rows.uptoBulkAll (strs (H := H) L) ∧ ∀ s ∈ L, s.size ≤ Rows.uptoBulkAll (strs (H := H) L) := by
  induction L with
  | nil => exact ⟨by simp [tl, Wi.texts], fun s h => by cases h⟩
  | cons s r ih =>
    have hb : Rows.uptoBulkAll (strs (H := H) (s :: r)) = (s.data.toList.length + 1) + Rows.uptoBulkAll (strs (H := H) r) := by simp [strs, Rows.uptoBulkAll, Rows.uptoBulk]
    have hl : (Wi.texts (tl (s :: r))).length = (Wi.text s.data.toList).length + (Wi.texts (tl r)).length := by simp [tl, Wi.texts]
    have ht := text_size s
    rw [str_len] at hb
    obtain ⟨i1, i2⟩ := ih (by omega)
    have h9 := Wi.num_len_nine (n := s.size) (by omega)
    refine ⟨by omega, fun t h => ?_⟩
    rcases List.mem_cons.1 h with rfl | h
    · omega
    · have := i2 t h; omega

/-- Texts that came in, of bounded bulk. -/
theorem in_strs_bulk {H : Type} {d : DataW H} {L : List ByteArray} {c : Nat} (h : (d = .nil ∧ L = []) ∨ ∃ sp, d = .slice (strs L) sp ∧ L.length + sp.length = c) (hk : Rows.uptoBulk d ≤ 1048576) :
    (Wi.list (tl L)).length ≤ 20000000 ∧ (∀ s ∈ L, s.size ≤ 1048576) ∧ L.length ≤ 1048576 := by
  rcases h with ⟨-, rfl⟩ | ⟨sp, rfl, -⟩
  · refine ⟨?_, (fun s h => by cases h), Nat.zero_le _⟩
    have h9 := Wi.num_len_nine (n := (tl []).length) (by simp [tl])
    unfold Wi.list
    rw [List.length_append]
    have : (Wi.texts (tl [])).length = 0 := rfl
    omega
  · simp only [Rows.uptoBulk] at hk
    obtain ⟨b1, b2⟩ := bulk_strs (H := H) L (by omega)
    have hl := bulk_length (strs (H := H) L)
    have hl2 : (strs (H := H) L).length = L.length := by simp [strs]
    have h9 := Wi.num_len_nine (n := (tl L).length) (by rw [tl_length]; omega)
    refine ⟨?_, fun s h => by have := b2 s h; omega, by omega⟩
    unfold Wi.list
    rw [List.length_append]
    omega

/-- Bytes that came in, of bounded bulk. -/
theorem in_bytes_bulk {H : Type} {d : DataW H} {c : Nat} (h : (d = .nil ∧ c = 0) ∨ ∃ es sp, d = .slice es sp ∧ es.length + sp.length = c) (hk : Rows.uptoBulk d ≤ 1048576) : c ≤ 1048576 := by
  rcases h with ⟨-, rfl⟩ | ⟨es, sp, rfl, hc⟩
  · exact Nat.zero_le _
  · have h1 := bulk_length es
    have h2 := bulk_length sp
    simp only [Rows.uptoBulk] at hk
    omega
end Go.Proofs.Ytlgkckokcednaaa
