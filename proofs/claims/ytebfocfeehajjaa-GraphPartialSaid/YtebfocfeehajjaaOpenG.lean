/- Nodes and lists of digests as arguments: opened, and their limits. -/
import Derived.Test.YtebfocfeehajjaaPCom
import Derived.Test.YtebfocfeehajjaaOpenC
namespace Go.Proofs.Ytebfocfeehajjaa
open Go Go.ChangeShapes Go.WideShapes Go.RowKit

section
variable {H : Type} {enc : TypeId × Value → H} {P : Program} {W : World}

theorem mem_weightsAll {e : TypeId} {d : DataW H} {n : Nat} : ∀ {L : List (DataW H)}, d ∈ L → n ∈ d.weights P e → n ∈ DataW.weightsAll P e L
  | [], h, _ => by cases h
  | x :: L, h, hn => by
    rw [DataW.weightsAll, List.mem_append]
    rcases List.mem_cons.1 h with rfl | h
    · exact .inl hn
    · exact .inr (mem_weightsAll h hn)
/-- What a list of digests is made of. -/
def DgD (d : DataW H) (L : List (List UInt8)) : Prop := (d = .nil ∧ L = []) ∨ ∃ sp, d = .slice (L.map (digD H)) sp
theorem dg_lim {t e : TypeId} {d : DataW H} {L : List (List UInt8)} (hu : P.underlying t = some (.slice e)) (hb : P.bytesOf e = 32) (h : DgD d L) (hk : ∀ n ∈ d.weights P t, n ≤ 140737488351232) : L.length * 32 ≤ 140737488351232 := by
  rcases h with ⟨-, rfl⟩ | ⟨sp, rfl⟩
  · simp
  · have := hk ((L.length + sp.length) * 32) (by simp [DataW.weights, hu, hb])
    omega
theorem open_dg {t e u : TypeId} {fuel : Nat} {cs : List Value} {x : DataW H × List MemPlace} (ht : P.underlying t = some (.slice e)) (he : P.underlying e = some (.array 32 u)) (hu : P.underlying u = some (.int .u8)) (hc : P.cellsOf u = 1) (hC : P.cellsOf e = 32) (h : DataW.trod enc P W 0 (fun _ => true) true fuel t cs = some x) :
    ∃ A c L, cs = [.slice A L.length c] ∧ (∀ s ∈ L, s.length = 32) ∧ Rd W W.heap.size A (L.length * 32) (rows bv L) ∧ DgD x.1 L := by
  obtain ⟨A, c, L, h1, h2, -, h4, h5⟩ := open_digs ht he hu hc hC h
  refine ⟨A, c, L, h1, h2, h4, ?_⟩
  rcases h5 with ⟨h5, h6, -⟩ | ⟨sp, h5, -⟩
  · exact .inl ⟨h5, h6⟩
  · exact .inr ⟨sp, h5⟩
/-- What a node is made of. -/
def NdD (d : DataW H) (s : Nod × Option Addr × Nat) : Prop := ∃ y, d = .agg [digD H s.1.id, y] ∧ DgD y s.1.ps
def okNd (W : World) (s : (Nod × Option Addr × Nat) × DataW H) : Prop := s.1.1.id.length = 32 ∧ (∀ p ∈ s.1.1.ps, p.length = 32) ∧ Rd W W.heap.size s.1.2.1 (s.1.1.ps.length * 32) (rows bv s.1.1.ps) ∧ NdD s.2 s.1
/-- The shape of a node's type. -/
structure NdShape (P : Program) (t : TypeId) : Prop where
  ex : ∃ (f0 f1 : Field) (e u : TypeId), P.underlying t = some (.struct #[f0, f1]) ∧ P.cellsOf t = 33 ∧ P.bytesOf t = 56 ∧ P.underlying f0.type = some (.array 32 u) ∧ P.underlying u = some (.int .u8) ∧ P.cellsOf u = 1 ∧ P.cellsOf f0.type = 32 ∧ f0.offset = 0 ∧
    P.underlying f1.type = some (.slice e) ∧ P.underlying e = some (.array 32 u) ∧ P.cellsOf e = 32 ∧ P.bytesOf e = 32 ∧ f1.offset = 32 ∧ P.cellsOf f1.type = 1
theorem open_nd {t : TypeId} {fuel : Nat} {cs : List Value} {x : DataW H × List MemPlace} (hs : NdShape P t) (h : DataW.trod enc P W 0 (fun _ => true) true fuel t cs = some x) : ∃ s : (Nod × Option Addr × Nat) × DataW H, okNd W s ∧ cs = nC s.1 ∧ x.1 = s.2 := by
  obtain ⟨f0, f1, e, u, ht, hC, hB, u0, uu, cu, k0, o0, u1, ue, ce, be, o1, k1⟩ := hs.ex
  obtain ⟨xs, n, -, hx, hl, hxl, hf⟩ := DataW.trod_struct ht h
  rw [hC] at hl
  match xs, hxl with
  | [y0, y1], _ =>
    have g0 : DataW.trod enc P W 0 (fun _ => true) true n f0.type ((cs.drop 0).take 32) = some y0 := by simpa [o0, k0] using hf 0 f0 rfl
    have g1 : DataW.trod enc P W 0 (fun _ => true) true n f1.type ((cs.drop 32).take 1) = some y1 := by simpa [o1, k1] using hf 1 f1 rfl
    obtain ⟨d, hd, e0, d0⟩ := open_dig u0 uu cu k0 g0
    obtain ⟨A, c, L, e1, h1, h2, h3⟩ := open_dg u1 ue uu cu ce g1
    refine ⟨((⟨d, L⟩, A, c), x.1), ⟨hd, h1, h2, y1.1, ?_, h3⟩, ?_, rfl⟩
    · rw [hx]; simp only [List.map_cons, List.map_nil, d0]
    · have s1 : cs = cs.take 32 ++ cs.drop 32 := (List.take_append_drop 32 cs).symm
      have s2 : (cs.drop 32).take 1 = cs.drop 32 := List.take_of_length_le (by rw [List.length_drop]; omega)
      rw [s2] at e1
      rw [List.drop_zero] at e0
      rw [s1, e0, e1]
      rfl
theorem nd_lim {t : TypeId} {s : (Nod × Option Addr × Nat) × DataW H} (hs : NdShape P t) (h : okNd W s) (hk : ∀ n ∈ s.2.weights P t, n ≤ 140737488351232) : s.1.1.ps.length * 32 ≤ 140737488351232 := by
  obtain ⟨f0, f1, e, u, ht, hC, hB, u0, uu, cu, k0, o0, u1, ue, ce, be, o1, k1⟩ := hs.ex
  obtain ⟨-, -, -, y, hy, hd⟩ := h
  refine dg_lim u1 be hd fun n hn => hk n ?_
  rw [hy]
  simp [DataW.weights, ht, DataW.weightsEach, hn]
theorem rows_nd (L : List ((Nod × Option Addr × Nat) × DataW H)) : rows (fun s : (Nod × Option Addr × Nat) × DataW H => nC s.1) L = rows nC (L.map fun s => s.1) := by
  unfold rows; rw [List.flatMap_map]
/-- A list of nodes that came in. -/
theorem open_nds {r : Reach} {b0 : Nat} {t e : TypeId} {v : Value} {d : DataW H} {p : List MemPlace} (ht : P.underlying t = some (.slice e)) (hs : NdShape P e) (hk : ∀ n ∈ d.weights P t, n ≤ 140737488351232)
    (hval : Value.okWide P W r b0 t v) (h : DataW.Trod enc P W 0 (fun _ => true) true t v d p) : ∃ A c ll, v = .slice A ll.length c ∧ NIn W ll ∧ Rd W W.heap.size A (ll.length * 33) (rows nC ll) ∧ ll.length * 56 ≤ 140737488351232 ∧ ll.length ≤ c ∧ c ≤ 9223372036854775807 := by
  obtain ⟨a, len, cap, rfl⟩ := okWide_slice ht hval
  obtain ⟨fuel, hf⟩ := h
  obtain ⟨f0, f1, e', u, hte, hC, hB, -⟩ := hs.ex
  haveI : Inhabited ((Nod × Option Addr × Nat) × DataW H) := ⟨((⟨[], []⟩, none, 0), .nil)⟩
  obtain ⟨A, c, L, e1, hok, hcap, hR, hd⟩ := open_rows (cells := fun s : (Nod × Option Addr × Nat) × DataW H => nC s.1) (dat := fun s => s.2) (ok := okNd W) (k := 33) (by decide) (fun s h => ndC_length h.1) ht hC (fun _ _ _ h => open_nd hs h) hf
  rw [rows_nd] at hR
  have hl : L.length * 56 ≤ 140737488351232 ∧ ∀ s ∈ L, ∀ n ∈ s.2.weights P e, n ≤ 140737488351232 := by
    rcases hd with ⟨-, rfl, -⟩ | ⟨sp, hd, -⟩
    · exact ⟨by simp, fun s hs => by cases hs⟩
    · change d = _ at hd
      subst hd
      constructor
      · have := hk ((L.length + sp.length) * 56) (by simp [DataW.weights, ht, hB])
        omega
      · intro s hs n hn
        refine hk n ?_
        have := mem_weightsAll (List.mem_map.2 ⟨s, hs, rfl⟩ : s.2 ∈ L.map fun s => s.2) hn
        simp [DataW.weights, ht, this]
  refine ⟨A, c, L.map fun s => s.1, by simpa [Value.cells] using e1, ⟨fun t htm => ?_⟩, by rw [List.length_map]; exact hR, by rw [List.length_map]; exact hl.1, by rw [List.length_map]; exact hcap.1, hcap.2⟩
  obtain ⟨s, hsm, rfl⟩ := List.mem_map.1 htm
  have h1 := hok s hsm
  exact ⟨h1.1, h1.2.1, h1.2.2.1, nd_lim hs h1 (hl.2 s hsm)⟩
/-- A list of digests that came in. -/
theorem open_q {r : Reach} {b0 : Nat} {t e u : TypeId} {v : Value} {d : DataW H} {p : List MemPlace} (ht : P.underlying t = some (.slice e)) (he : P.underlying e = some (.array 32 u)) (hu : P.underlying u = some (.int .u8)) (hc : P.cellsOf u = 1) (hC : P.cellsOf e = 32) (hb : P.bytesOf e = 32) (hk : ∀ n ∈ d.weights P t, n ≤ 140737488351232)
    (hval : Value.okWide P W r b0 t v) (h : DataW.Trod enc P W 0 (fun _ => true) true t v d p) : ∃ q : Qst, v = qv q ∧ QIn W [q] := by
  obtain ⟨a, len, cap, rfl⟩ := okWide_slice ht hval
  obtain ⟨fuel, hf⟩ := h
  obtain ⟨A, c, L, e1, h1, h2, h3⟩ := open_dg ht he hu hc hC hf
  refine ⟨(L, A, c), by simpa [Value.cells, qv] using e1, ⟨fun q hq => ?_⟩⟩
  rw [List.mem_singleton] at hq
  subst hq
  exact ⟨h1, h2, dg_lim ht hb h3 hk⟩
/-- Three of them. -/
theorem open_q3 {r : Reach} {b0 : Nat} {tt t e u : TypeId} {v : Value} {d : DataW H} {p : List MemPlace} (htt : P.underlying tt = some (.array 3 t)) (hct : P.cellsOf tt = 3) (hc1 : P.cellsOf t = 1) (ht : P.underlying t = some (.slice e)) (he : P.underlying e = some (.array 32 u)) (hu : P.underlying u = some (.int .u8)) (hc : P.cellsOf u = 1) (hC : P.cellsOf e = 32) (hb : P.bytesOf e = 32) (hk : ∀ n ∈ d.weights P tt, n ≤ 140737488351232)
    (hval : Value.okWide P W r b0 tt v) (h : DataW.Trod enc P W 0 (fun _ => true) true tt v d p) : ∃ q0 q1 q2 : Qst, v = .agg #[qv q0, qv q1, qv q2] ∧ QIn W [q0] ∧ QIn W [q1] ∧ QIn W [q2] := by
  simp only [Value.okWide, htt] at hval
  obtain ⟨cs, rfl, h2, _⟩ := hval
  rw [hct] at h2
  obtain ⟨v0, v1, v2, rfl⟩ : ∃ v0 v1 v2, cs = #[v0, v1, v2] := by
    obtain ⟨l⟩ := cs
    match l, h2 with
    | [a, b, c], _ => exact ⟨a, b, c, rfl⟩
  obtain ⟨fuel, hf⟩ := h
  obtain ⟨xs, m, hm, hx, _, hl, hi⟩ := DataW.trod_array htt hf
  have h0 := hi 0 (by decide)
  have h1 := hi 1 (by decide)
  have h2 := hi 2 (by decide)
  rw [hc1] at h0 h1 h2
  obtain ⟨x0, x1, x2, rfl⟩ : ∃ x0 x1 x2, xs = [x0, x1, x2] := by
    match xs, hl with
    | [a, b, c], _ => exact ⟨a, b, c, rfl⟩
  simp [Value.cells] at h0 h1 h2
  obtain ⟨A0, c0, L0, e0, p0, r0, d0⟩ := open_dg ht he hu hc hC h0
  obtain ⟨A1, c1, L1, e1, p1, r1, d1⟩ := open_dg ht he hu hc hC h1
  obtain ⟨A2, c2, L2, e2, p2, r2, d2⟩ := open_dg ht he hu hc hC h2
  simp only [List.map_cons, List.map_nil, Prod.mk.injEq] at hx
  obtain ⟨rfl, -⟩ := hx
  have hw : ∀ y ∈ [x0.1, x1.1, x2.1], ∀ n ∈ y.weights P t, n ≤ 140737488351232 := fun y hy n hn => hk n (by
    have := mem_weightsAll hy hn
    simpa [DataW.weights, htt] using this)
  have mk : ∀ (A : Option Addr) (c : Nat) (L : List (List UInt8)) (y : DataW H), y ∈ [x0.1, x1.1, x2.1] → (∀ s ∈ L, s.length = 32) → Rd W W.heap.size A (L.length * 32) (rows bv L) → DgD y L → QIn W [(L, A, c)] := fun A c L y hy hp hr hd => ⟨fun q hq => by
    rw [List.mem_singleton] at hq
    subst hq
    exact ⟨hp, hr, dg_lim ht hb hd (hw y hy)⟩⟩
  refine ⟨(L0, A0, c0), (L1, A1, c1), (L2, A2, c2), ?_, mk A0 c0 L0 _ (by simp) p0 r0 d0, mk A1 c1 L1 _ (by simp) p1 r1 d1, mk A2 c2 L2 _ (by simp) p2 r2 d2⟩
  simp only [List.cons.injEq, and_true] at e0 e1 e2
  rw [e0, e1, e2]; rfl
theorem key_of {ts : List TypeId} {ds : List (DataW H)} (h : (DataW.weightsEach P ts ds).all (· ≤ reachBytes) = true) (j : Nat) {t : TypeId} {d : DataW H} (ht : ts[j]? = some t) (hd : ds[j]? = some d) : ∀ n ∈ d.weights P t, n ≤ 140737488351232 := fun n hn => by
  have h2 : reachBytes = 140737488351232 := by decide
  have h5 := List.all_eq_true.1 h _ (DataW.weights_mem_each ht hd _ hn)
  rw [h2] at h5
  simpa using h5
end
theorem ndShape : NdShape Try.prog 50 := ⟨by
  refine ⟨_, _, _, _, Try.underlying50, by kernel_rfl, by kernel_rfl, Try.underlying47, Try.underlying5, by kernel_rfl, by kernel_rfl, rfl, Try.underlying30, Try.underlying47, by kernel_rfl, by kernel_rfl, rfl, by kernel_rfl⟩⟩
end Go.Proofs.Ytebfocfeehajjaa
