/- Commits and lists of operations that came in: what they hold, and how much that may be. -/
import Derived.Test.YtjgegggcbjecbaaDoorOpenC
import Derived.SizedLaws
namespace Go.Proofs.YtjgegggcbjecbaaDoor
open Go Go.ChangeShapes Go.WideShapes Go.RowKit Go.Deep

section
variable {H : Type} {enc : TypeId × Value → H} {P : Program} {W : World}
/-- The datum of a commit. -/
def CmD (d : DataW H) (m : Cm.Cm) : Prop := ∃ x0 x3, d = .agg [x0, .lit (.string m.author), .lit (.string m.note), x3] ∧ ((x0 = .nil ∧ m.parents = []) ∨ ∃ sp, x0 = .slice (m.parents.map (digD H)) sp) ∧ ((x3 = .nil ∧ m.ops = []) ∨ ∃ sp, x3 = .slice (m.ops.map (opD H)) sp)
/-- How much a commit that came in may hold. -/
structure CmLim (m : Cm.Cm) : Prop where
  ps : m.parents.length * 32 ≤ 140737488351232
  ops : m.ops.length * 72 ≤ 140737488351232
  author : m.author.length ≤ 140737488351232
  note : m.note.length ≤ 140737488351232

theorem open_cm2 {r : Reach} {b0 : Nat} {t e u o : TypeId} {f0 f1 f2 f3 : Field} {v : Value} {d : DataW H} {p : List MemPlace} (ht : P.underlying t = some (.struct #[f0, f1, f2, f3])) (hC : P.cellsOf t = 4) (h0 : P.underlying f0.type = some (.slice e)) (he : P.underlying e = some (.array 32 u)) (hu : P.underlying u = some (.int .u8)) (hc : P.cellsOf u = 1) (hCe : P.cellsOf e = 32)
    (h1 : P.underlying f1.type = some .string) (h2 : P.underlying f2.type = some .string) (h3 : P.underlying f3.type = some (.slice o)) (hs : OpShape P o) (hone : oneCellFields P #[f0, f1, f2, f3] = true)
    (hval : Value.okWide P W r b0 t v) (h : DataW.Trod enc P W 0 (fun _ => true) true t v d p) : ∃ A c B k m, InCm W v A c B k m ∧ CmD d m := by
  simp only [Value.okWide, ht] at hval
  obtain ⟨cs, rfl, h4, _⟩ := hval
  rw [hC] at h4
  obtain ⟨L⟩ := cs
  have hL : L.length = 4 := by simpa using h4
  obtain ⟨fuel, hf⟩ := h
  obtain ⟨xs, n, -, hx, hl, hxl, hfs⟩ := DataW.trod_struct ht hf
  obtain ⟨o0, k0⟩ := hone_of hone 0 f0 rfl
  obtain ⟨o1, k1⟩ := hone_of hone 1 f1 rfl
  obtain ⟨o2, k2⟩ := hone_of hone 2 f2 rfl
  obtain ⟨o3, k3⟩ := hone_of hone 3 f3 rfl
  match L, hL, xs, hxl with
  | [a0, a1, a2, a3], _, [y0, y1, y2, y3], _ =>
    have g0 : DataW.trod enc P W 0 (fun _ => true) true n f0.type [a0] = some y0 := by simpa [o0, k0, Value.cells] using hfs 0 f0 rfl
    have g1 : DataW.trod enc P W 0 (fun _ => true) true n f1.type [a1] = some y1 := by simpa [o1, k1, Value.cells] using hfs 1 f1 rfl
    have g2 : DataW.trod enc P W 0 (fun _ => true) true n f2.type [a2] = some y2 := by simpa [o2, k2, Value.cells] using hfs 2 f2 rfl
    have g3 : DataW.trod enc P W 0 (fun _ => true) true n f3.type [a3] = some y3 := by simpa [o3, k3, Value.cells] using hfs 3 f3 rfl
    obtain ⟨A, c, ps, e0, hp, hc0, hr0, hd0⟩ := open_digs h0 he hu hc hCe g0
    obtain ⟨b1, e1, hd1, -⟩ := DataW.trod_string h1 g1
    obtain ⟨b2, e2, hd2, -⟩ := DataW.trod_string h2 g2
    obtain ⟨B, k, os, e3, ho, hc3, hr3, hd3⟩ := open_ops h3 hs g3
    obtain rfl : a0 = .slice A ps.length c := by simpa using e0
    obtain rfl : a1 = .string b1 := by simpa using e1
    obtain rfl : a2 = .string b2 := by simpa using e2
    obtain rfl : a3 = .slice B os.length k := by simpa using e3
    refine ⟨A, c, B, k, ⟨ps, b1.data.toList, b2.data.toList, os⟩, ⟨rfl, hc0, hc3, hr0, hr3, hp, ho⟩, ?_⟩
    rw [hd1, hd2] at hx
    refine ⟨y0.1, y3.1, (Prod.mk.inj hx).1, ?_, ?_⟩
    · rcases hd0 with ⟨h, h', -⟩ | ⟨sp, h, -⟩
      · exact .inl ⟨h, h'⟩
      · exact .inr ⟨sp, h⟩
    · rcases hd3 with ⟨h, h', -⟩ | ⟨sp, h, -⟩
      · exact .inl ⟨h, h'⟩
      · exact .inr ⟨sp, h⟩

/-- How much a commit among the arguments may hold. -/
theorem cm_lim {ts : List TypeId} {ds : List (DataW H)} {d : DataW H} {m : Cm.Cm} (h : (DataW.weightsEach P ts ds).all (· ≤ reachBytes) = true) (j : Nat) {t e o : TypeId} {f0 f1 f2 f3 : Field} (ht : ts[j]? = some t) (hd : ds[j]? = some d)
    (hu : P.underlying t = some (.struct #[f0, f1, f2, f3])) (h0 : P.underlying f0.type = some (.slice e)) (h3 : P.underlying f3.type = some (.slice o)) (hb : P.bytesOf e = 32) (hb' : P.bytesOf o = 72) (hin : CmD d m) : CmLim m := by
  have h2 : reachBytes = 140737488351232 := by decide
  obtain ⟨x0, x3, rfl, hx0, hx3⟩ := hin
  have key : ∀ n, n ∈ (DataW.agg [x0, .lit (.string m.author), .lit (.string m.note), x3]).weights P t → n ≤ 140737488351232 := fun n hn => by
    have h5 := List.all_eq_true.1 h _ (DataW.weights_mem_each ht hd _ hn)
    rw [h2] at h5
    simpa using h5
  have hw : (DataW.agg [x0, .lit (.string m.author), .lit (.string m.note), x3]).weights P t = x0.weights P f0.type ++ ((DataW.lit (H := H) (.string m.author)).weights P f1.type ++ ((DataW.lit (H := H) (.string m.note)).weights P f2.type ++ (x3.weights P f3.type ++ []))) := by
    simp [DataW.weights, hu, DataW.weightsEach]
  rw [hw] at key
  refine ⟨?_, ?_, ?_, ?_⟩
  · rcases hx0 with ⟨-, hp⟩ | ⟨sp, rfl⟩
    · rw [hp]; simp
    · have := key ((m.parents.length + sp.length) * 32) (List.mem_append_left _ (by simp [DataW.weights, h0, hb]))
      omega
  · rcases hx3 with ⟨-, hp⟩ | ⟨sp, rfl⟩
    · rw [hp]; simp
    · have := key ((m.ops.length + sp.length) * 72) (by simp [DataW.weights, h3, hb'])
      omega
  · exact key m.author.length (by simp [DataW.weights])
  · exact key m.note.length (by simp [DataW.weights])

/-- A list of operations that came in. -/
theorem open_opsA {r : Reach} {b0 : Nat} {t e : TypeId} {v : Value} {d : DataW H} {p : List MemPlace} (ht : P.underlying t = some (.slice e)) (hs : OpShape P e)
    (hval : Value.okWide P W r b0 t v) (h : DataW.Trod enc P W 0 (fun _ => true) true t v d p) : ∃ A c L, v = .slice A L.length c ∧ (∀ s ∈ L, dimOp s) ∧ (L.length ≤ c ∧ c ≤ 9223372036854775807) ∧ Rd W W.heap.size A (L.length * 37) (rows opCells L) ∧ ((d = .nil ∧ L = []) ∨ ∃ sp, d = .slice (L.map (opD H)) sp) := by
  obtain ⟨a, len, cap, rfl⟩ := okWide_slice ht hval
  obtain ⟨fuel, hf⟩ := h
  obtain ⟨A, c, L, e1, h1, h2, h3, h4⟩ := open_ops ht hs hf
  refine ⟨A, c, L, by simpa [Value.cells] using e1, h1, h2, h3, ?_⟩
  rcases h4 with ⟨h4, h5, -⟩ | ⟨sp, h4, -⟩
  · exact .inl ⟨h4, h5⟩
  · exact .inr ⟨sp, h4⟩
theorem ops_lim {ts : List TypeId} {ds : List (DataW H)} {d : DataW H} {L : List Cm.Op} (h : (DataW.weightsEach P ts ds).all (· ≤ reachBytes) = true) (j : Nat) {t e : TypeId} (ht : ts[j]? = some t) (hd : ds[j]? = some d)
    (hu : P.underlying t = some (.slice e)) (hb : P.bytesOf e = 72) (hin : (d = .nil ∧ L = []) ∨ ∃ sp, d = .slice (L.map (opD H)) sp) : L.length * 72 ≤ 140737488351232 := by
  have h2 : reachBytes = 140737488351232 := by decide
  rcases hin with ⟨-, rfl⟩ | ⟨sp, rfl⟩
  · simp
  · have h1 := sized_slice h ht hd hu
    rw [h2, hb, List.length_map] at h1
    omega
end

/-- The shape of an operation, here. -/
theorem opShape : OpShape Tryd.prog 55 := ⟨by
  refine ⟨_, _, _, _, _, _, _, _, Tryd.underlying55, by kernel_rfl, Tryd.underlying3, rfl, by kernel_rfl, Tryd.underlying4, rfl, by kernel_rfl, Tryd.underlying53, by kernel_rfl, rfl, Tryd.underlying4, rfl, by kernel_rfl, Tryd.underlying34, Tryd.underlying5, by kernel_rfl, by kernel_rfl, rfl, Tryd.underlying3, rfl, by kernel_rfl, Tryd.underlying5, rfl, by kernel_rfl⟩⟩
end Go.Proofs.YtjgegggcbjecbaaDoor
