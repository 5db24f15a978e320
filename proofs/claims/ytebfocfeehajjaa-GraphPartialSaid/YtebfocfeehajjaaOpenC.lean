/- Arguments opened: digests, references, operations, lists of them, commits. -/
import Derived.Test.YtebfocfeehajjaaBase
import Derived.Test.YtebfocfeehajjaaMaths
import Derived.SizedLaws
import Derived.ChangeArms
import Derived.ProofKit
import Derived.OpenShut
import Derived.Carry
import Derived.Deep.Slices
import Derived.Deep.Fields
import Derived.ChangeSame
namespace Go.Proofs.Ytebfocfeehajjaa
open Go Go.ChangeShapes Go.WideShapes Go.RowKit Go.Deep

theorem wf_u8 {n : Int} (h : (Lit.int .u8 n).wf = true) : 0 ≤ n ∧ n < 256 := by
  have e1 : IntKind.u8.min = 0 := by decide
  have e2 : IntKind.u8.max = 255 := by decide
  have h2 : 0 ≤ n ∧ n ≤ 255 := by simpa [Lit.wf, e1, e2] using h
  omega

/-- Things of k cells each, one behind the other. -/
def rows {α : Type} (cells : α → List Value) (L : List α) : List Value := L.flatMap cells
theorem rows_length {α : Type} {cells : α → List Value} {k : Nat} (h : ∀ x, (cells x).length = k) : ∀ L : List α, (rows cells L).length = L.length * k
  | [] => by simp [rows]
  | x :: L => by
    have := rows_length h L
    unfold rows at this ⊢
    rw [List.flatMap_cons, List.length_append, h, this, List.length_cons, Nat.add_mul, Nat.one_mul, Nat.add_comm]
theorem rows_at {α : Type} {cells : α → List Value} {k : Nat} (h : ∀ x, (cells x).length = k) : ∀ (L : List α) (i j : Nat) (x : α), L[i]? = some x → j < k → (rows cells L)[i * k + j]? = (cells x)[j]?
  | [], i, j, x, hx, _ => by cases hx
  | y :: L, 0, j, x, hx, hj => by
    obtain rfl : y = x := by simpa using hx
    unfold rows
    rw [List.flatMap_cons, Nat.zero_mul, Nat.zero_add, List.getElem?_append_left (by rw [h]; exact hj)]
  | y :: L, i + 1, j, x, hx, hj => by
    have ih := rows_at h L i j x (by simpa using hx) hj
    unfold rows at ih ⊢
    rw [List.flatMap_cons, List.getElem?_append_right (by rw [h, Nat.add_mul]; omega), h, Nat.add_mul, Nat.one_mul, show i * k + k + j - k = i * k + j by omega]
    exact ih

section
variable {H : Type} {enc : TypeId × Value → H} {P : Program} {W : World}

def byteD (H : Type) (c : UInt8) : DataW H := .lit (.int .u8 (c.toNat : Int))
def digD (H : Type) (d : List UInt8) : DataW H := .agg (d.map (byteD H))

theorem open_dig {t e : TypeId} {m : Nat} {fuel : Nat} {cs : List Value} {x : DataW H × List MemPlace} (ht : P.underlying t = some (.array m e)) (he : P.underlying e = some (.int .u8)) (hc : P.cellsOf e = 1) (hC : P.cellsOf t = m)
    (h : DataW.trod enc P W 0 (fun _ => true) true fuel t cs = some x) : ∃ d : List UInt8, d.length = m ∧ cs = bv d ∧ x.1 = digD H d := by
  obtain ⟨xs, q, -, hx, hl, hlen, hg⟩ := DataW.trod_array ht h
  rw [hC] at hl
  have hgi : ∀ i, i < m → ∃ c : UInt8, cs[i]? = some (.int .u8 (c.toNat : Int)) ∧ ∃ y, xs[i]? = some y ∧ y.1 = byteD H c := by
    intro i hi
    have gi := hg i hi
    rw [hc, List.getElem?_eq_getElem (by omega)] at gi
    obtain ⟨z, hz, hy, hw⟩ := DataW.trod_int he gi
    have h1 : cs[i]? = some (.int .u8 z) := by
      have := congrArg (·[0]?) hz
      simpa [List.getElem?_take, List.getElem?_drop] using this
    have hb := wf_u8 hw
    have hn : ((UInt8.ofNat z.toNat).toNat : Int) = z := by rw [UInt8.toNat_ofNat']; omega
    refine ⟨UInt8.ofNat z.toNat, by rw [h1, hn], xs[i], List.getElem?_eq_getElem (by omega), ?_⟩
    rw [hy]
    unfold byteD
    rw [hn]
  obtain ⟨D, hD⟩ := choose_lt (α := UInt8) hgi
  refine ⟨(List.range m).map D, by simp, ?_, ?_⟩
  · apply List.ext_getElem?
    intro i
    unfold bv
    by_cases hi : i < m
    · rw [(hD i hi).1, List.getElem?_map, List.getElem?_map, List.getElem?_range hi]; rfl
    · rw [List.getElem?_eq_none (by omega), List.getElem?_eq_none (by simp; omega)]
  · rw [hx]
    unfold digD
    show DataW.agg (xs.map (·.1)) = _
    congr 1
    apply List.ext_getElem?
    intro i
    by_cases hi : i < m
    · obtain ⟨y, hy, hyd⟩ := (hD i hi).2
      rw [List.getElem?_map, hy, List.getElem?_map, List.getElem?_map, List.getElem?_range hi]
      show some y.1 = _
      rw [hyd]; rfl
    · rw [List.getElem?_eq_none (by simp; omega), List.getElem?_eq_none (by simp; omega)]

/-- A list of things that came in. -/
def InRows {α : Type} (cells : α → List Value) (dat : α → DataW H) (k : Nat) (W : World) (v : Value) (d : DataW H) (A : Option Addr) (c : Nat) (L : List α) : Prop :=
  v = .slice A L.length c ∧ (L.length ≤ c ∧ c ≤ 9223372036854775807) ∧ Rd W W.heap.size A (L.length * k) (rows cells L) ∧ ((d = .nil ∧ L = [] ∧ c = 0) ∨ ∃ sp, d = .slice (L.map dat) sp ∧ L.length + sp.length = c)

theorem open_rows {α : Type} [Inhabited α] {cells : α → List Value} {dat : α → DataW H} {ok : α → Prop} {k : Nat} {t e : TypeId} {fuel : Nat} {cs : List Value} {x : DataW H × List MemPlace} (hk : 0 < k) (hcl : ∀ x, ok x → (cells x).length = k) (ht : P.underlying t = some (.slice e)) (hC : P.cellsOf e = k)
    (hop : ∀ (fuel : Nat) (cs : List Value) (x : DataW H × List MemPlace), DataW.trod enc P W 0 (fun _ => true) true fuel e cs = some x → ∃ s : α, ok s ∧ cs = cells s ∧ x.1 = dat s)
    (h : DataW.trod enc P W 0 (fun _ => true) true fuel t cs = some x) : ∃ A c L, cs = [.slice A L.length c] ∧ (∀ s ∈ L, ok s) ∧ (L.length ≤ c ∧ c ≤ 9223372036854775807) ∧ Rd W W.heap.size A (L.length * k) (rows cells L) ∧ ((x.1 = .nil ∧ L = [] ∧ c = 0) ∨ ∃ sp, x.1 = .slice (L.map dat) sp ∧ L.length + sp.length = c) := by
  rcases open_slice ht h with ⟨hv, hx⟩ | ⟨a, len', cap', m, n, D, Pl, hv, -, hl, hm, hmm, hx, hi⟩
  · exact ⟨none, 0, [], hv, fun s hs => (by cases hs), ⟨Nat.le_refl _, Nat.zero_le _⟩, ⟨by simp [rows], fun h0 => absurd h0 (by simp)⟩, .inl ⟨by rw [hx], rfl, rfl⟩⟩
  · simp only [if_true] at hmm
    subst hmm
    obtain ⟨S, hS⟩ := choose_lt (α := α) (p := fun i s => ok s ∧ (∀ j u, (cells s)[j]? = some u → W.cell? (a.add (i * k + j)) = some u) ∧ D i = dat s) (n := len') (fun i hi' => by
      obtain ⟨cs', hc, ht'⟩ := hi i (by omega)
      rw [hC] at hc
      obtain ⟨s, hok, rfl, hd⟩ := hop _ _ _ ht'
      obtain ⟨-, -, hat⟩ := World.cells?_some hc
      refine ⟨s, hok, fun j u hu => ?_, hd⟩
      have hj : j < k := by have := (List.getElem?_eq_some_iff.1 hu).1; rwa [hcl s hok] at this
      rw [← add_add', hat j hj, hu])
    have hL : ((List.range len').map S).length = len' := by simp
    have hokL : ∀ s ∈ (List.range len').map S, ok s := fun s hs => by
      obtain ⟨i, hi', rfl⟩ := List.mem_map.1 hs
      exact (hS i (List.mem_range.1 hi')).1
    have hrl : ∀ L : List α, (∀ s ∈ L, ok s) → (rows cells L).length = L.length * k := by
      intro L
      induction L with
      | nil => intro _; simp [rows]
      | cons y L ih =>
        intro hy
        have := ih (fun s hs => hy s (by simp [hs]))
        unfold rows at this ⊢
        rw [List.flatMap_cons, List.length_append, hcl y (hy y (by simp)), this, List.length_cons, Nat.add_mul, Nat.one_mul, Nat.add_comm]
    have hra : ∀ (L : List α), (∀ s ∈ L, ok s) → ∀ (i j : Nat) (x : α), L[i]? = some x → j < k → (rows cells L)[i * k + j]? = (cells x)[j]? := by
      intro L
      induction L with
      | nil => intro _ i j x hx; cases hx
      | cons y L ih =>
        intro hy i j x hx hj
        have hyl := hcl y (hy y (by simp))
        cases i with
        | zero =>
          obtain rfl : y = x := by simpa using hx
          unfold rows
          rw [List.flatMap_cons, Nat.zero_mul, Nat.zero_add, List.getElem?_append_left (by rw [hyl]; exact hj)]
        | succ i =>
          have ih' := ih (fun s hs => hy s (by simp [hs])) i j x (by simpa using hx) hj
          unfold rows at ih' ⊢
          rw [List.flatMap_cons, List.getElem?_append_right (by rw [hyl, Nat.add_mul]; omega), hyl, Nat.add_mul, Nat.one_mul, show i * k + k + j - k = i * k + j by omega]
          exact ih'
    have hd : x.1 = .slice ((List.range len').map D) ((List.range (m - len')).map fun j => D (len' + j)) := by rw [hx]
    refine ⟨some a, m, (List.range len').map S, by rw [hL]; exact hv, hokL, ⟨by rw [hL]; exact hl, by simpa [maxLen] using hm⟩, ⟨hrl _ hokL, fun h0' => ?_⟩, .inr ⟨(List.range (m - len')).map fun j => D (len' + j), hd.trans ?_, ?_⟩⟩
    · rw [hL] at h0'
      have hpos : 0 < len' := Nat.pos_of_mul_pos_right h0'
      have hat : ∀ j u, (rows cells ((List.range len').map S))[j]? = some u → W.cell? (a.add j) = some u := fun j u hu => by
        have hj : j < len' * k := by
          have h9 := (List.getElem?_eq_some_iff.1 hu).1
          rwa [hrl _ hokL, hL] at h9
        have hq : j / k < len' := Nat.div_lt_of_lt_mul (by rw [Nat.mul_comm]; exact hj)
        have hr : j % k < k := Nat.mod_lt _ hk
        have hje : j / k * k + j % k = j := Nat.div_add_mod' j k
        have he : ((List.range len').map S)[j / k]? = some (S (j / k)) := by rw [List.getElem?_map, List.getElem?_range hq]; rfl
        have h8 := hra _ hokL (j / k) (j % k) _ he hr
        rw [hje] at h8
        rw [h8] at hu
        have h7 := (hS (j / k) hq).2.1 (j % k) u hu
        rwa [hje] at h7
      refine ⟨a, rfl, ?_, hat⟩
      have h0l : 0 < (rows cells ((List.range len').map S)).length := by rw [hrl _ hokL, hL]; exact h0'
      have h9 := World.block_lt_of_cell? W _ (hat 0 _ (List.getElem?_eq_getElem h0l))
      rwa [block_add] at h9
    · congr 1
      rw [List.map_map]
      exact List.map_congr_left fun i hi' => (hS i (List.mem_range.1 hi')).2.2
    · rw [hL, List.length_map, List.length_range]; omega

def refCells (r : Cm.Rf) : List Value := .bool r.own :: (bv r.commit ++ [.int .i64 r.n])
def opCells (x : Cm.Op) : List Value := .int .i64 x.kind :: .bool x.left :: (refCells x.at_ ++ [.int .u8 (x.byte.toNat : Int)])
def refD (H : Type) (r : Cm.Rf) : DataW H := .agg [.lit (.bool r.own), digD H r.commit, .lit (.int .i64 r.n)]
def opD (H : Type) (x : Cm.Op) : DataW H := .agg [.lit (.int .i64 x.kind), .lit (.bool x.left), refD H x.at_, byteD H x.byte]
def dimOp (x : Cm.Op) : Prop := x.at_.commit.length = 32 ∧ (-9223372036854775808 ≤ x.kind ∧ x.kind ≤ 9223372036854775807) ∧ (-9223372036854775808 ≤ x.at_.n ∧ x.at_.n ≤ 9223372036854775807)
theorem opCells_length {x : Cm.Op} (h : dimOp x) : (opCells x).length = 37 := by
  unfold opCells refCells
  simp [bv_length, h.1]
theorem lit_i64 {n : Int} (h : (Lit.int .i64 n).wf = true) : -9223372036854775808 ≤ n ∧ n ≤ 9223372036854775807 := by
  have e1 : IntKind.i64.min = -9223372036854775808 := by decide
  have e2 : IntKind.i64.max = 9223372036854775807 := by decide
  simpa [Lit.wf, e1, e2] using h
theorem split3 {α : Type} (l : List α) (a b : Nat) : l = l.take a ++ ((l.drop a).take b ++ l.drop (a + b)) := by
  rw [← List.drop_drop, List.take_append_drop, List.take_append_drop]

theorem open_ref {t ta te : TypeId} {f0 f1 f2 : Field} {fuel : Nat} {cs : List Value} {x : DataW H × List MemPlace} (ht : P.underlying t = some (.struct #[f0, f1, f2])) (hC : P.cellsOf t = 34)
    (h0 : P.underlying f0.type = some .bool) (o0 : f0.offset = 0) (k0 : P.cellsOf f0.type = 1) (h1 : f1.type = ta) (hta : P.underlying ta = some (.array 32 te)) (hte : P.underlying te = some (.int .u8)) (hce : P.cellsOf te = 1) (hca : P.cellsOf ta = 32) (o1 : f1.offset = 1)
    (h2 : P.underlying f2.type = some (.int .i64)) (o2 : f2.offset = 33) (k2 : P.cellsOf f2.type = 1)
    (h : DataW.trod enc P W 0 (fun _ => true) true fuel t cs = some x) : ∃ r : Cm.Rf, (r.commit.length = 32 ∧ (-9223372036854775808 ≤ r.n ∧ r.n ≤ 9223372036854775807)) ∧ cs = refCells r ∧ x.1 = refD H r := by
  obtain ⟨xs, n, -, hx, hl, hxl, hf⟩ := DataW.trod_struct ht h
  rw [hC] at hl
  match xs, hxl with
  | [y0, y1, y2], _ =>
    have g0 : DataW.trod enc P W 0 (fun _ => true) true n f0.type ((cs.drop 0).take 1) = some y0 := by simpa [o0, k0] using hf 0 f0 rfl
    have g1 : DataW.trod enc P W 0 (fun _ => true) true n ta ((cs.drop 1).take 32) = some y1 := by simpa [o1, h1, hca] using hf 1 f1 rfl
    have g2 : DataW.trod enc P W 0 (fun _ => true) true n f2.type ((cs.drop 33).take 1) = some y2 := by simpa [o2, k2] using hf 2 f2 rfl
    obtain ⟨b, e0, d0⟩ := DataW.trod_bool h0 g0
    obtain ⟨d, hd, e1, d1⟩ := open_dig hta hte hce hca g1
    obtain ⟨m, e2, d2, hw⟩ := DataW.trod_int h2 g2
    refine ⟨⟨b, d, m⟩, ⟨hd, lit_i64 hw⟩, ?_, by rw [hx]; simp only [List.map_cons, List.map_nil, d0, d1, d2]; rfl⟩
    have s1 := split3 cs 1 32
    have s2 : cs.drop 33 = (cs.drop 33).take 1 := (List.take_of_length_le (by rw [List.length_drop]; omega)).symm
    rw [show 1 + 32 = 33 from rfl, s2] at s1
    rw [s1]
    rw [List.drop_zero] at e0
    rw [e0, e1, e2]
    rfl

/-- The shape of an operation's type. -/
structure OpShape (P : Program) (t : TypeId) : Prop where
  ex : ∃ (f0 f1 f2 f3 g0 g1 g2 : Field) (te : TypeId), P.underlying t = some (.struct #[f0, f1, f2, f3]) ∧ P.cellsOf t = 37 ∧ P.underlying f0.type = some (.int .i64) ∧ f0.offset = 0 ∧ P.cellsOf f0.type = 1 ∧ P.underlying f1.type = some .bool ∧ f1.offset = 1 ∧ P.cellsOf f1.type = 1 ∧
    P.underlying f2.type = some (.struct #[g0, g1, g2]) ∧ P.cellsOf f2.type = 34 ∧ f2.offset = 2 ∧ P.underlying g0.type = some .bool ∧ g0.offset = 0 ∧ P.cellsOf g0.type = 1 ∧ P.underlying g1.type = some (.array 32 te) ∧ P.underlying te = some (.int .u8) ∧ P.cellsOf te = 1 ∧ P.cellsOf g1.type = 32 ∧ g1.offset = 1 ∧
    P.underlying g2.type = some (.int .i64) ∧ g2.offset = 33 ∧ P.cellsOf g2.type = 1 ∧ P.underlying f3.type = some (.int .u8) ∧ f3.offset = 36 ∧ P.cellsOf f3.type = 1

theorem open_op {t : TypeId} {fuel : Nat} {cs : List Value} {x : DataW H × List MemPlace} (hs : OpShape P t) (h : DataW.trod enc P W 0 (fun _ => true) true fuel t cs = some x) : ∃ o : Cm.Op, dimOp o ∧ cs = opCells o ∧ x.1 = opD H o := by
  obtain ⟨f0, f1, f2, f3, g0, g1, g2, te, ht, hC, u0, o0, k0, u1, o1, k1, u2, k2, o2, v0, p0, q0, v1, ve, ce, q1, p1, v2, p2, q2, u3, o3, k3⟩ := hs.ex
  obtain ⟨xs, n, -, hx, hl, hxl, hf⟩ := DataW.trod_struct ht h
  rw [hC] at hl
  match xs, hxl with
  | [y0, y1, y2, y3], _ =>
    have e0 : DataW.trod enc P W 0 (fun _ => true) true n f0.type ((cs.drop 0).take 1) = some y0 := by simpa [o0, k0] using hf 0 f0 rfl
    have e1 : DataW.trod enc P W 0 (fun _ => true) true n f1.type ((cs.drop 1).take 1) = some y1 := by simpa [o1, k1] using hf 1 f1 rfl
    have e2 : DataW.trod enc P W 0 (fun _ => true) true n f2.type ((cs.drop 2).take 34) = some y2 := by simpa [o2, k2] using hf 2 f2 rfl
    have e3 : DataW.trod enc P W 0 (fun _ => true) true n f3.type ((cs.drop 36).take 1) = some y3 := by simpa [o3, k3] using hf 3 f3 rfl
    obtain ⟨kd, c0, d0, w0⟩ := DataW.trod_int u0 e0
    obtain ⟨lf, c1, d1⟩ := DataW.trod_bool u1 e1
    obtain ⟨r, ⟨hr1, hr2⟩, c2, d2⟩ := open_ref u2 k2 v0 p0 q0 rfl v1 ve ce q1 p1 v2 p2 q2 e2
    obtain ⟨z, c3, d3, w3⟩ := DataW.trod_int u3 e3
    have hb := wf_u8 w3
    have hn : ((UInt8.ofNat z.toNat).toNat : Int) = z := by rw [UInt8.toNat_ofNat']; omega
    refine ⟨⟨kd, lf, r, UInt8.ofNat z.toNat⟩, ⟨hr1, lit_i64 w0, hr2⟩, ?_, ?_⟩
    · have s1 := split3 cs 1 1
      have s2 := split3 (cs.drop 2) 34 1
      rw [List.drop_drop] at s2
      have s3 : cs.drop 37 = [] := List.drop_of_length_le (by omega)
      rw [show 1 + 1 = 2 from rfl] at s1
      rw [List.drop_drop, show 2 + 34 = 36 from rfl, show 2 + (34 + 1) = 37 from rfl, s3, List.append_nil] at s2
      rw [s1, s2]
      rw [List.drop_zero] at c0
      rw [c0, c1, c2, c3]
      unfold opCells
      simp only [hn]
      rfl
    · rw [hx]
      simp only [List.map_cons, List.map_nil, d0, d1, d2, d3]
      unfold opD byteD
      simp only [hn]

theorem open_ops {t e : TypeId} {fuel : Nat} {cs : List Value} {x : DataW H × List MemPlace} (ht : P.underlying t = some (.slice e)) (hs : OpShape P e) (h : DataW.trod enc P W 0 (fun _ => true) true fuel t cs = some x) :
    ∃ A c L, cs = [.slice A L.length c] ∧ (∀ s ∈ L, dimOp s) ∧ (L.length ≤ c ∧ c ≤ 9223372036854775807) ∧ Rd W W.heap.size A (L.length * 37) (rows opCells L) ∧ ((x.1 = .nil ∧ L = [] ∧ c = 0) ∨ ∃ sp, x.1 = .slice (L.map (opD H)) sp ∧ L.length + sp.length = c) :=
  have : Inhabited Cm.Op := ⟨⟨0, false, ⟨false, [], 0⟩, 0⟩⟩
  open_rows (by decide) (fun _ h => opCells_length h) ht (by obtain ⟨_, _, _, _, _, _, _, _, _, h, _⟩ := hs.ex; exact h) (fun _ _ _ h => open_op hs h) h
theorem open_digs {t e u : TypeId} {fuel : Nat} {cs : List Value} {x : DataW H × List MemPlace} (ht : P.underlying t = some (.slice e)) (he : P.underlying e = some (.array 32 u)) (hu : P.underlying u = some (.int .u8)) (hc : P.cellsOf u = 1) (hC : P.cellsOf e = 32) (h : DataW.trod enc P W 0 (fun _ => true) true fuel t cs = some x) :
    ∃ A c L, cs = [.slice A L.length c] ∧ (∀ s ∈ L, s.length = 32) ∧ (L.length ≤ c ∧ c ≤ 9223372036854775807) ∧ Rd W W.heap.size A (L.length * 32) (rows bv L) ∧ ((x.1 = .nil ∧ L = [] ∧ c = 0) ∨ ∃ sp, x.1 = .slice (L.map (digD H)) sp ∧ L.length + sp.length = c) :=
  open_rows (ok := fun s : List UInt8 => s.length = 32) (by decide) (fun x h => by rw [bv_length]; exact h) ht hC (fun _ _ _ h => open_dig he hu hc hC h) h

/-- A COMMIT THAT CAME IN. -/
def InCm (W : World) (v : Value) (A : Option Addr) (c : Nat) (B : Option Addr) (d : Nat) (m : Cm.Cm) : Prop :=
  v = .agg #[.slice A m.parents.length c, .string (sB m.author), .string (sB m.note), .slice B m.ops.length d] ∧ (m.parents.length ≤ c ∧ c ≤ 9223372036854775807) ∧ (m.ops.length ≤ d ∧ d ≤ 9223372036854775807) ∧
    Rd W W.heap.size A (m.parents.length * 32) (rows bv m.parents) ∧ Rd W W.heap.size B (m.ops.length * 37) (rows opCells m.ops) ∧ (∀ s ∈ m.parents, s.length = 32) ∧ ∀ s ∈ m.ops, dimOp s
theorem open_cm {r : Reach} {b0 : Nat} {t e u o : TypeId} {f0 f1 f2 f3 : Field} {v : Value} {d : DataW H} {p : List MemPlace} (ht : P.underlying t = some (.struct #[f0, f1, f2, f3])) (hC : P.cellsOf t = 4) (h0 : P.underlying f0.type = some (.slice e)) (he : P.underlying e = some (.array 32 u)) (hu : P.underlying u = some (.int .u8)) (hc : P.cellsOf u = 1) (hCe : P.cellsOf e = 32)
    (h1 : P.underlying f1.type = some .string) (h2 : P.underlying f2.type = some .string) (h3 : P.underlying f3.type = some (.slice o)) (hs : OpShape P o) (hone : oneCellFields P #[f0, f1, f2, f3] = true)
    (hval : Value.okWide P W r b0 t v) (h : DataW.Trod enc P W 0 (fun _ => true) true t v d p) : ∃ A c B k m, InCm W v A c B k m := by
  simp only [Value.okWide, ht] at hval
  obtain ⟨cs, rfl, h4, _⟩ := hval
  rw [hC] at h4
  obtain ⟨L⟩ := cs
  have hL : L.length = 4 := by simpa using h4
  obtain ⟨fuel, hf⟩ := h
  obtain ⟨xs, n, -, hx, hl, hxl, hfs⟩ := DataW.trod_struct ht hf
  obtain ⟨o0, k0⟩ := hone_of hone 0 f0 rfl
  obtain ⟨o1, k1⟩ := hone_of hone 1 f1 rfl
  obtain ⟨o2, k2⟩ := hone_of hone 2 f2 rfl
  obtain ⟨o3, k3⟩ := hone_of hone 3 f3 rfl
  match L, hL, xs, hxl with
  | [a0, a1, a2, a3], _, [y0, y1, y2, y3], _ =>
    have g0 : DataW.trod enc P W 0 (fun _ => true) true n f0.type [a0] = some y0 := by simpa [o0, k0, Value.cells] using hfs 0 f0 rfl
    have g1 : DataW.trod enc P W 0 (fun _ => true) true n f1.type [a1] = some y1 := by simpa [o1, k1, Value.cells] using hfs 1 f1 rfl
    have g2 : DataW.trod enc P W 0 (fun _ => true) true n f2.type [a2] = some y2 := by simpa [o2, k2, Value.cells] using hfs 2 f2 rfl
    have g3 : DataW.trod enc P W 0 (fun _ => true) true n f3.type [a3] = some y3 := by simpa [o3, k3, Value.cells] using hfs 3 f3 rfl
    obtain ⟨A, c, ps, e0, hp, hc0, hr0, -⟩ := open_digs h0 he hu hc hCe g0
    obtain ⟨b1, e1, -, -⟩ := DataW.trod_string h1 g1
    obtain ⟨b2, e2, -, -⟩ := DataW.trod_string h2 g2
    obtain ⟨B, k, os, e3, ho, hc3, hr3, -⟩ := open_ops h3 hs g3
    obtain rfl : a0 = .slice A ps.length c := by simpa using e0
    obtain rfl : a1 = .string b1 := by simpa using e1
    obtain rfl : a2 = .string b2 := by simpa using e2
    obtain rfl : a3 = .slice B os.length k := by simpa using e3
    exact ⟨A, c, B, k, ⟨ps, b1.data.toList, b2.data.toList, os⟩, rfl, hc0, hc3, hr0, hr3, hp, ho⟩
end
end Go.Proofs.Ytebfocfeehajjaa
