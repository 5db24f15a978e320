/- Scripts of calls that came in: opened, and what the bound on the bulk of what is read gives. -/
import Derived.Test.YtkgkllpecpcgjaaDoorOpenL
import Derived.Test.YtkgkllpecpcgjaaDoorPlays
namespace Go.Proofs.YtkgkllpecpcgjaaDoor
open Go Go.ChangeShapes Go.WideShapes Go.RowKit Go.Deep

section
variable {H : Type} {enc : TypeId × Value → H} {P : Program} {W : World}

/-- One call of a script. -/
theorem open_step {t te : TypeId} {f0 f1 f2 : Field} {fuel : Nat} {cs : List Value} {x : DataW H × List MemPlace} (ht : P.underlying t = some (.struct #[f0, f1, f2])) (hone : oneCellFields P #[f0, f1, f2] = true) (hC : P.cellsOf t = 3)
    (h0 : P.underlying f0.type = some (.int .i64)) (h1 : P.underlying f1.type = some .bool) (h2 : P.underlying f2.type = some (.slice te)) (he : P.underlying te = some (.int .u8)) (hce : P.cellsOf te = 1)
    (h : DataW.trod enc P W 0 (fun _ => true) true fuel t cs = some x) : ∃ s : Step, cs = stepCells s ∧ Lies W W.heap.size s.bit ∧ s.bit.2.2.length + 1 ≤ Rows.uptoBulk x.1 := by
  obtain ⟨xs, n, -, hx, hlen, hxl, hf⟩ := DataW.trod_struct ht h
  rw [hC] at hlen
  obtain ⟨o0, k0⟩ := hone_of hone 0 f0 rfl
  obtain ⟨o1, k1⟩ := hone_of hone 1 f1 rfl
  obtain ⟨o2, k2⟩ := hone_of hone 2 f2 rfl
  match cs, hlen, xs, hxl with
  | [a0, a1, a2], _, [y0, y1, y2], _ =>
    have g0 : DataW.trod enc P W 0 (fun _ => true) true n f0.type [a0] = some y0 := by simpa [o0, k0] using hf 0 f0 rfl
    have g1 : DataW.trod enc P W 0 (fun _ => true) true n f1.type [a1] = some y1 := by simpa [o1, k1] using hf 1 f1 rfl
    have g2 : DataW.trod enc P W 0 (fun _ => true) true n f2.type [a2] = some y2 := by simpa [o2, k2] using hf 2 f2 rfl
    obtain ⟨z, e0, -, -⟩ := DataW.trod_int h0 g0
    obtain ⟨b, e1, -⟩ := DataW.trod_bool h1 g1
    obtain ⟨A, c, l, hb⟩ := open_bytes1 h2 he hce g2
    obtain rfl : a0 = .int .i64 z := by simpa using e0
    obtain rfl : a1 = .bool b := by simpa using e1
    have hk := in_bulk hb
    have hl := in_lies (x := (A, c, l)) hb
    refine ⟨⟨z, b, (A, c, l)⟩, ?_, hl.2, ?_⟩
    · unfold stepCells; rw [hl.1]
    · rw [hx]
      simp only [List.map_cons, List.map_nil, Rows.uptoBulk, Rows.uptoBulkAll]
      omega

theorem open_acts {r : Reach} {b0 : Nat} {t e te : TypeId} {f0 f1 f2 : Field} {v : Value} {d : DataW H} {p : List MemPlace} (ht : P.underlying t = some (.slice e)) (hs : P.underlying e = some (.struct #[f0, f1, f2])) (hone : oneCellFields P #[f0, f1, f2] = true) (hC : P.cellsOf e = 3)
    (h0 : P.underlying f0.type = some (.int .i64)) (h1 : P.underlying f1.type = some .bool) (h2 : P.underlying f2.type = some (.slice te)) (he : P.underlying te = some (.int .u8)) (hce : P.cellsOf te = 1)
    (hval : Value.okWide P W r b0 t v) (h : DataW.Trod enc P W 0 (fun _ => true) true t v d p) :
    ∃ A c L, v = .slice A (List.length L) c ∧ RdS W W.heap.size A (List.length L) L ∧ (∀ s ∈ L, Lies W W.heap.size s.bit) ∧ List.length L + (said L).length ≤ Rows.uptoBulk d := by
  obtain ⟨a', len', cap', rfl⟩ := okWide_slice ht hval
  obtain ⟨fuel, hf⟩ := h
  rcases open_slice ht hf with ⟨hv, hx⟩ | ⟨a, len, cap, m, n, D, Pl, hv, -, hl, hm, hmm, hx, hi⟩
  · obtain ⟨rfl, rfl, rfl⟩ : a' = none ∧ len' = 0 ∧ cap' = 0 := by simpa [Value.cells] using hv
    exact ⟨none, 0, [], rfl, RdS.nil _ _ _, (fun x h => by cases h), by simp [said, flat]⟩
  · obtain ⟨rfl, rfl, rfl⟩ : a' = some a ∧ len' = len ∧ cap' = cap := by simpa [Value.cells] using hv
    simp only [if_true] at hmm
    subst hmm
    obtain ⟨S, hS⟩ := choose_lt (α := Step) (p := fun i s => (∀ j u, (stepCells s)[j]? = some u → W.cell? (a.add (i * 3 + j)) = some u) ∧ Lies W W.heap.size s.bit ∧ s.bit.2.2.length + 1 ≤ Rows.uptoBulk (D i)) (n := len') (fun i hi' => by
      obtain ⟨cs', hc, ht'⟩ := hi i (by omega)
      rw [hC] at hc
      obtain ⟨s, rfl, hl1, hb1⟩ := open_step hs hone hC h0 h1 h2 he hce ht'
      obtain ⟨-, -, hat⟩ := World.cells?_some hc
      refine ⟨s, fun j u hu => ?_, hl1, hb1⟩
      have hj : j < 3 := by
        have h9 := (List.getElem?_eq_some_iff.1 hu).1
        simpa [stepCells] using h9
      rw [← add_add', hat j hj, hu])
    have hL : ((List.range len').map S).length = len' := by simp
    have hd : d = .slice ((List.range len').map D) ((List.range (m - len')).map fun j => D (len' + j)) := (Prod.mk.inj hx).1
    refine ⟨some a, m, (List.range len').map S, by rw [hL], ⟨by rw [hL], fun h0' => ?_⟩, ?_, ?_⟩
    · rw [hL] at h0'
      refine ⟨a, rfl, ?_, fun i s hs' j u hu => ?_⟩
      · have h9 := lt_of_cell ((hS 0 h0').1 0 _ rfl)
        rwa [block_add] at h9
      · have hi' : i < len' := by
          have h9 := (List.getElem?_eq_some_iff.1 hs').1
          rwa [hL] at h9
        rw [List.getElem?_map, List.getElem?_range hi'] at hs'
        obtain rfl : S i = s := Option.some.inj hs'
        exact (hS i hi').1 j u hu
    · intro x hx
      obtain ⟨i, hi', rfl⟩ := List.mem_map.1 hx
      exact (hS i (List.mem_range.1 hi')).2.1
    · have h9 := bulk_sum (D := D) (X := fun i => (S i).bit) (List.range len') (fun i hi' => (hS i (List.mem_range.1 hi')).2.2)
      have h8 : said ((List.range len').map S) = flat ((List.range len').map fun i => (S i).bit) := by unfold said; rw [List.map_map]; rfl
      rw [hL, hd, h8]
      simp only [Rows.uptoBulk]
      rw [List.length_range] at h9
      omega
end
end Go.Proofs.YtkgkllpecpcgjaaDoor
