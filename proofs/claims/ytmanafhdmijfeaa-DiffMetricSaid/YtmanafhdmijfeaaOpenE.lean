/- Arguments opened: lists of edits, two texts; what the bounds on what is read give. -/
import Derived.Test.YtmanafhdmijfeaaEd
import Derived.SizedLaws
import Derived.ChangeArms
import Derived.ProofKit
import Derived.OpenShut
import Derived.Carry
import Derived.Deep.Slices
import Derived.Deep.Fields
import Derived.ChangeSame
import Derived.Test.YtmanafhdmijfeaaRows
namespace Go.Proofs.Ytmanafhdmijfeaa
open Go Go.ChangeShapes Go.WideShapes Go.RowKit Go.Deep

/-- An edit as a datum. -/
def edD (H : Type) (e : Ed) : DataW H := .agg [.lit (.int .i64 e.kind), .lit (.int .i64 e.n), .lit (.string e.text)]

section
variable {H : Type} {enc : TypeId × Value → H} {P : Program} {W : World}

theorem open_ed {t : TypeId} {f0 f1 f2 : Field} {fuel : Nat} {cs : List Value} {x : DataW H × List MemPlace} (ht : P.underlying t = some (.struct #[f0, f1, f2])) (hone : oneCellFields P #[f0, f1, f2] = true) (hC : P.cellsOf t = 3)
    (h0 : P.underlying f0.type = some (.int .i64)) (h1 : P.underlying f1.type = some (.int .i64)) (h2 : P.underlying f2.type = some .string)
    (h : DataW.trod enc P W 0 (fun _ => true) true fuel t cs = some x) : ∃ e : Ed, cs = edCells e ∧ x.1 = edD H e := by
  obtain ⟨xs, n, -, hx, hlen, hxl, hf⟩ := DataW.trod_struct ht h
  rw [hC] at hlen
  obtain ⟨o0, k0⟩ := hone_of hone 0 f0 rfl
  obtain ⟨o1, k1⟩ := hone_of hone 1 f1 rfl
  obtain ⟨o2, k2⟩ := hone_of hone 2 f2 rfl
  match cs, hlen, xs, hxl with
  | [a0, a1, a2], _, [y0, y1, y2], _ =>
    have g0 : DataW.trod enc P W 0 (fun _ => true) true n f0.type [a0] = some y0 := by simpa [o0, k0] using hf 0 f0 rfl
    have g1 : DataW.trod enc P W 0 (fun _ => true) true n f1.type [a1] = some y1 := by simpa [o1, k1] using hf 1 f1 rfl
    have g2 : DataW.trod enc P W 0 (fun _ => true) true n f2.type [a2] = some y2 := by simpa [o2, k2] using hf 2 f2 rfl
    obtain ⟨k, e0, d0, -⟩ := DataW.trod_int h0 g0
    obtain ⟨m, e1, d1, -⟩ := DataW.trod_int h1 g1
    obtain ⟨b, e2, d2, -⟩ := DataW.trod_string h2 g2
    obtain rfl : a0 = .int .i64 k := by simpa using e0
    obtain rfl : a1 = .int .i64 m := by simpa using e1
    obtain rfl : a2 = .string b := by simpa using e2
    refine ⟨⟨k, m, b.data.toList⟩, rfl, ?_⟩
    rw [hx, d0, d1, d2]
    rfl

/-- EDITS THAT CAME IN. -/
def InEds (H : Type) (W : World) (v : Value) (d : DataW H) (A : Option Addr) (c : Nat) (L : List Ed) : Prop :=
  v = .slice A L.length c ∧ (L.length ≤ c ∧ c ≤ 9223372036854775807) ∧ Rd W W.heap.size A (L.length * 3) (ev L) ∧ ((d = .nil ∧ L = [] ∧ c = 0) ∨ ∃ sp, d = .slice (L.map (edD H)) sp ∧ L.length + sp.length = c)

theorem open_eds {r : Reach} {b0 : Nat} {t e : TypeId} {f0 f1 f2 : Field} {v : Value} {d : DataW H} {p : List MemPlace} (ht : P.underlying t = some (.slice e)) (hs : P.underlying e = some (.struct #[f0, f1, f2])) (hone : oneCellFields P #[f0, f1, f2] = true) (hC : P.cellsOf e = 3)
    (h0 : P.underlying f0.type = some (.int .i64)) (h1 : P.underlying f1.type = some (.int .i64)) (h2 : P.underlying f2.type = some .string)
    (hval : Value.okWide P W r b0 t v) (h : DataW.Trod enc P W 0 (fun _ => true) true t v d p) : ∃ A c L, InEds H W v d A c L := by
  obtain ⟨a', len', cap', rfl⟩ := okWide_slice ht hval
  obtain ⟨fuel, hf⟩ := h
  rcases open_slice ht hf with ⟨hv, hx⟩ | ⟨a, len, cap, m, n, D, Pl, hv, -, hl, hm, hmm, hx, hi⟩
  · obtain ⟨rfl, rfl, rfl⟩ : a' = none ∧ len' = 0 ∧ cap' = 0 := by simpa [Value.cells] using hv
    exact ⟨none, 0, [], rfl, ⟨Nat.le_refl _, Nat.zero_le _⟩, Rd.nil _ _ _, .inl ⟨(Prod.mk.inj hx).1, rfl, rfl⟩⟩
  · obtain ⟨rfl, rfl, rfl⟩ : a' = some a ∧ len' = len ∧ cap' = cap := by simpa [Value.cells] using hv
    simp only [if_true] at hmm
    subst hmm
    obtain ⟨S, hS⟩ := choose_lt (α := Ed) (p := fun i s => (∀ j u, (edCells s)[j]? = some u → W.cell? (a.add (i * 3 + j)) = some u) ∧ D i = edD H s) (n := len') (fun i hi' => by
      obtain ⟨cs', hc, ht'⟩ := hi i (by omega)
      rw [hC] at hc
      obtain ⟨s, rfl, hd⟩ := open_ed hs hone hC h0 h1 h2 ht'
      obtain ⟨-, -, hat⟩ := World.cells?_some hc
      refine ⟨s, fun j u hu => ?_, hd⟩
      have hj : j < 3 := (List.getElem?_eq_some_iff.1 hu).1
      rw [← add_add', hat j hj, hu])
    have hL : ((List.range len').map S).length = len' := by simp
    have hd : d = .slice ((List.range len').map D) ((List.range (m - len')).map fun j => D (len' + j)) := (Prod.mk.inj hx).1
    refine ⟨some a, m, (List.range len').map S, by rw [hL], ⟨by rw [hL]; exact hl, by simpa [maxLen] using hm⟩, ⟨by rw [ev_length], fun h0' => ?_⟩, .inr ⟨(List.range (m - len')).map fun j => D (len' + j), hd.trans ?_, ?_⟩⟩
    · rw [hL] at h0'
      have hpos : 0 < len' := by omega
      refine ⟨a, rfl, ?_, fun j u hu => ?_⟩
      · have h9 := World.block_lt_of_cell? W _ ((hS 0 hpos).1 0 _ rfl)
        rwa [block_add] at h9
      · have hj : j < len' * 3 := by
          have h9 := (List.getElem?_eq_some_iff.1 hu).1
          rwa [ev_length, hL] at h9
        have hq : j / 3 < len' := by omega
        have he : ((List.range len').map S)[j / 3]? = some (S (j / 3)) := by rw [List.getElem?_map, List.getElem?_range hq]; rfl
        have h8 := ev_at _ (j / 3) (j % 3) _ he (by omega)
        rw [show j / 3 * 3 + j % 3 = j by omega] at h8
        rw [h8] at hu
        have h7 := (hS (j / 3) hq).1 (j % 3) u hu
        rwa [show j / 3 * 3 + j % 3 = j by omega] at h7
    · congr 1
      rw [List.map_map]
      exact List.map_congr_left fun i hi' => (hS i (List.mem_range.1 hi')).2
    · rw [hL, List.length_map, List.length_range]; omega

/-- What the row lets come in. -/
theorem eds_lim {ts : List TypeId} {ds : List (DataW H)} {v : Value} {d : DataW H} {A : Option Addr} {c : Nat} {L : List Ed} {f0 f1 f2 : Field} (h : (DataW.weightsEach P ts ds).all (· ≤ reachBytes) = true) (j : Nat) {t e : TypeId} (ht : ts[j]? = some t) (hd : ds[j]? = some d)
    (hu : P.underlying t = some (.slice e)) (hs : P.underlying e = some (.struct #[f0, f1, f2])) (hb : P.bytesOf e = 32) (hin : InEds H W v d A c L) : L.length * 32 ≤ 140737488351232 ∧ ∀ x ∈ L, x.text.length ≤ 140737488351232 := by
  have h2 : reachBytes = 140737488351232 := by decide
  rcases hin.2.2.2 with ⟨-, rfl, -⟩ | ⟨sp, rfl, hc⟩
  · exact ⟨by simp, fun x hx => by cases hx⟩
  · have h1 := sized_slice h ht hd hu
    rw [h2, hb, List.length_map] at h1
    refine ⟨by omega, fun x hx => ?_⟩
    have hmem : x.text.length ∈ (DataW.slice (L.map (edD H)) sp).weights P t := by
      simp only [DataW.weights, hu]
      refine List.mem_cons_of_mem _ (List.mem_append_left _ ?_)
      clear h1 h hd hc hin
      induction L with
      | nil => cases hx
      | cons y L ih =>
        rw [List.map_cons, DataW.weightsAll, List.mem_append]
        rcases List.mem_cons.1 hx with rfl | hx
        · left
          simp only [edD, DataW.weights, hs]
          simp [DataW.weightsEach, DataW.weights]
        · exact .inr (ih hx)
    have h5 := List.all_eq_true.1 h _ (DataW.weights_mem_each ht hd _ hmem)
    rw [h2] at h5
    simpa using h5

/-- What the bound on the bulk gives. -/
theorem eds_bulk {v : Value} {d : DataW H} {A : Option Addr} {c : Nat} {L : List Ed} (hin : InEds H W v d A c L) (hk : Rows.uptoBulk d ≤ 1048576) : L.length ≤ 1048576 ∧ (L.map (·.text.length)).sum ≤ 1048576 := by
  have key : ∀ L : List Ed, L.length + (L.map (·.text.length)).sum ≤ Rows.uptoBulkAll (L.map (edD H)) := by
    intro L
    induction L with
    | nil => simp [Rows.uptoBulkAll]
    | cons x L ih =>
      simp only [List.map_cons, List.sum_cons, List.length_cons, Rows.uptoBulkAll, edD, Rows.uptoBulk]
      omega
  rcases hin.2.2.2 with ⟨-, rfl, -⟩ | ⟨sp, rfl, -⟩
  · exact ⟨by simp, by simp⟩
  · simp only [Rows.uptoBulk] at hk
    have := key L
    exact ⟨by omega, by omega⟩

theorem open_str2 {r : Reach} {b0 : Nat} {t ts : TypeId} {v : Value} {d : DataW H} {p : List MemPlace} (ht : P.underlying t = some (.array 2 ts)) (hs : P.underlying ts = some .string) (hct : P.cellsOf t = 2) (hcs : P.cellsOf ts = 1)
    (hval : Value.okWide P W r b0 t v) (h : DataW.Trod enc P W 0 (fun _ => true) true t v d p) :
    ∃ a b : ByteArray, v = .agg #[.string a, .string b] ∧ d = .agg [.lit (.string a.data.toList), .lit (.string b.data.toList)] := by
  simp only [Value.okWide, ht] at hval
  obtain ⟨cs, rfl, h2, _⟩ := hval
  rw [hct] at h2
  obtain ⟨v0, v1, rfl⟩ : ∃ v0 v1, cs = #[v0, v1] := by
    obtain ⟨l⟩ := cs
    match l, h2 with
    | [a, b], _ => exact ⟨a, b, rfl⟩
  obtain ⟨fuel, hf⟩ := h
  obtain ⟨xs, m, rfl, hx, _, hl, hi⟩ := DataW.trod_array ht hf
  have h0 := hi 0 (by decide)
  have h1 := hi 1 (by decide)
  rw [hcs] at h0 h1
  obtain ⟨x0, x1, rfl⟩ : ∃ x0 x1, xs = [x0, x1] := by
    match xs, hl with
    | [a, b], _ => exact ⟨a, b, rfl⟩
  simp [Value.cells] at h0 h1
  obtain ⟨a, e0, d0, -⟩ := DataW.trod_string hs h0
  obtain ⟨b, e1, d1, -⟩ := DataW.trod_string hs h1
  obtain rfl : v0 = .string a := by simpa using e0
  obtain rfl : v1 = .string b := by simpa using e1
  simp only [Prod.mk.injEq, List.map_cons, List.map_nil] at hx
  obtain ⟨rfl, -⟩ := hx
  exact ⟨a, b, rfl, by rw [d0, d1]⟩
theorem str2_lim {ts : List TypeId} {ds : List (DataW H)} {a b : List UInt8} (h : (DataW.weightsEach P ts ds).all (· ≤ reachBytes) = true) (j : Nat) {t e : TypeId} (ht : ts[j]? = some t) (hd : ds[j]? = some (.agg [.lit (.string a), .lit (.string b)]))
    (hu : P.underlying t = some (.array 2 e)) : a.length ≤ 140737488351232 ∧ b.length ≤ 140737488351232 := by
  have h2 : reachBytes = 140737488351232 := by decide
  have key : ∀ n, n ∈ (DataW.agg (H := H) [.lit (.string a), .lit (.string b)]).weights P t → n ≤ 140737488351232 := fun n hn => by
    have h5 := List.all_eq_true.1 h _ (DataW.weights_mem_each ht hd _ hn)
    rw [h2] at h5
    simpa using h5
  refine ⟨key _ ?_, key _ ?_⟩ <;> simp [DataW.weights, hu, DataW.weightsAll]
end
end Go.Proofs.Ytmanafhdmijfeaa
