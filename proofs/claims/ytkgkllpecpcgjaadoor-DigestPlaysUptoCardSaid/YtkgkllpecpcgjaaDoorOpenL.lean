/- Lists of bytes, and scripts of calls, that came in: opened, and what the bound on the bulk of what is read gives. -/
import Derived.Test.YtkgkllpecpcgjaaDoorOpen
import Derived.Test.YtkgkllpecpcgjaaDoorPieces
import Derived.Test.YtkgkllpecpcgjaaDoorRows
import Derived.Deep.Slices
import Derived.Deep.Fields
import Derived.ChangeSame
namespace Go.Proofs.YtkgkllpecpcgjaaDoor
open Go Go.ChangeShapes Go.WideShapes Go.RowKit Go.Deep

theorem bulk_one {H : Type} (d : DataW H) : 1 ≤ Rows.uptoBulk d := by
  cases d with
  | lit l => cases l <;> simp [Rows.uptoBulk]
  | nil => simp [Rows.uptoBulk]
  | ptr d => simp [Rows.uptoBulk]
  | slice elems spare => simp [Rows.uptoBulk]
  | agg parts => simp [Rows.uptoBulk]
  | iface t d => simp [Rows.uptoBulk]
  | map entries => simp [Rows.uptoBulk]
  | held h => simp [Rows.uptoBulk]

theorem bulk_length {H : Type} (l : List (DataW H)) : l.length ≤ Rows.uptoBulkAll l := by
  induction l with
  | nil => simp [Rows.uptoBulkAll]
  | cons x r ih =>
    have := bulk_one x
    simp only [Rows.uptoBulkAll, List.length_cons]
    omega

/-- Bytes that came in weigh more than their capacity. -/
theorem in_bulk {H : Type} {W : World} {v : Value} {d : DataW H} {A : Option Addr} {c : Nat} {l : List UInt8} (h : InBytes H W v d A c l) : l.length + 1 ≤ Rows.uptoBulk d := by
  obtain ⟨-, h1, -, -, ⟨rfl, rfl⟩ | ⟨es, sp, rfl, hc⟩⟩ := h
  · simp only [Rows.uptoBulk]; omega
  · have e1 := bulk_length es
    have e2 := bulk_length sp
    simp only [Rows.uptoBulk]
    omega

theorem in_lies {H : Type} {W : World} {v : Value} {d : DataW H} {x : Bit} (h : InBytes H W v d x.1 x.2.1 x.2.2) : v = bitv x ∧ Lies W W.heap.size x := ⟨h.1, h.2.1, h.2.2.1, h.2.2.2.1⟩

/-- A sum of weights, element for element. -/
theorem bulk_sum {H : Type} {D : Nat → DataW H} {X : Nat → Bit} : ∀ (l : List Nat), (∀ i ∈ l, (X i).2.2.length + 1 ≤ Rows.uptoBulk (D i)) → l.length + (flat (l.map X)).length ≤ Rows.uptoBulkAll (l.map D)
  | [], _ => by simp [flat]
  | i :: l, h => by
    have h0 := h i (by simp)
    have h1 := bulk_sum l (fun j hj => h j (by simp [hj]))
    have h2 : (flat ((i :: l).map X)).length = (X i).2.2.length + (flat (l.map X)).length := by simp [flat]
    simp only [List.map_cons, Rows.uptoBulkAll, List.length_cons]
    rw [List.map_cons] at h2
    omega

section
variable {H : Type} {enc : TypeId × Value → H} {P : Program} {W : World}

theorem open_bits {r : Reach} {b0 : Nat} {t e q : TypeId} {v : Value} {d : DataW H} {p : List MemPlace} (ht : P.underlying t = some (.slice e)) (he : P.underlying e = some (.slice q)) (hq : P.underlying q = some (.int .u8)) (hce : P.cellsOf e = 1) (hcq : P.cellsOf q = 1)
    (hval : Value.okWide P W r b0 t v) (h : DataW.Trod enc P W 0 (fun _ => true) true t v d p) :
    ∃ A c L, v = .slice A (List.length L) c ∧ Rd W W.heap.size A (List.length L) (bits L) ∧ (∀ x ∈ L, Lies W W.heap.size x) ∧ List.length L + (flat L).length ≤ Rows.uptoBulk d := by
  obtain ⟨a', len', cap', rfl⟩ := okWide_slice ht hval
  obtain ⟨fuel, hf⟩ := h
  rcases open_slice1 ht hce hf with ⟨hv, hx⟩ | ⟨a, len, cap, m, n, V, D, Pl, hv, -, hl, hm, hmm, hx, hi⟩
  · obtain ⟨rfl, rfl, rfl⟩ : a' = none ∧ len' = 0 ∧ cap' = 0 := by simpa [Value.cells] using hv
    exact ⟨none, 0, [], rfl, Rd.nil _ _ _, (fun x h => by cases h), by simp [flat]⟩
  · obtain ⟨rfl, rfl, rfl⟩ : a' = some a ∧ len' = len ∧ cap' = cap := by simpa [Value.cells] using hv
    simp only [if_true] at hmm
    subst hmm
    obtain ⟨X, hX⟩ := choose_lt (α := Bit) (p := fun i x => InBytes H W (V i) (D i) x.1 x.2.1 x.2.2) (n := len') (fun i hi' => by
      obtain ⟨A, c, l, hb⟩ := open_bytes1 he hq hcq (hi i (by omega)).2
      exact ⟨(A, c, l), hb⟩)
    have hL : ((List.range len').map X).length = len' := by simp
    have hd : d = .slice ((List.range len').map D) ((List.range (m - len')).map fun j => D (len' + j)) := (Prod.mk.inj hx).1
    refine ⟨some a, m, (List.range len').map X, by rw [hL], ⟨by rw [bits_length], fun h0 => ?_⟩, ?_, ?_⟩
    · rw [hL] at h0
      refine ⟨a, rfl, ?_, fun j u hu => ?_⟩
      · have := lt_of_cell (hi 0 (by omega)).1
        rwa [block_add] at this
      · have hj : j < len' := by
          have := (List.getElem?_eq_some_iff.1 hu).1
          rw [bits_length, hL] at this
          exact this
        rw [(hi j (by omega)).1, (in_lies (hX j hj)).1, ← hu]
        unfold bits
        rw [List.map_map, List.getElem?_map, List.getElem?_range hj]
        rfl
    · intro x hx
      obtain ⟨i, hi', rfl⟩ := List.mem_map.1 hx
      exact (in_lies (hX i (List.mem_range.1 hi'))).2
    · have := bulk_sum (D := D) (X := X) (List.range len') (fun i hi' => in_bulk (hX i (List.mem_range.1 hi')))
      rw [hL, hd]
      simp only [Rows.uptoBulk]
      rw [List.length_range] at this
      omega
end
end Go.Proofs.YtkgkllpecpcgjaaDoor
