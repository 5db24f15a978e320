/- Rows of many cells: an element; loads of one under worlds that grow. -/
import Derived.Test.YtjgegggcbjecbaaDoorRRight
namespace Go.Proofs.YtjgegggcbjecbaaDoor
open Go Go.RowKit

theorem rows_get {α : Type} {cells : α → List Value} {k : Nat} : ∀ (L : List α), (∀ s ∈ L, (cells s).length = k) → ∀ (i j : Nat) (x : α), L[i]? = some x → j < k → (rows cells L)[i * k + j]? = (cells x)[j]? := by
  intro L
  induction L with
  | nil => intro _ i j x hx; cases hx
  | cons y L ih =>
    intro hy i j x hx hj
    have hyl := hy y (by simp)
    cases i with
    | zero =>
      obtain rfl : y = x := by simpa using hx
      unfold rows
      rw [List.flatMap_cons, Nat.zero_mul, Nat.zero_add, List.getElem?_append_left (by rw [hyl]; exact hj)]
    | succ i =>
      have ih' := ih (fun s hs => hy s (by simp [hs])) i j x (by simpa using hx) hj
      unfold rows at ih' ⊢
      rw [List.flatMap_cons, List.getElem?_append_right (by rw [hyl, Nat.add_mul]; omega), hyl, Nat.add_mul, Nat.one_mul, show i * k + k + j - k = i * k + j by omega]
      exact ih'
theorem rows_append {α : Type} (cells : α → List Value) (L M : List α) : rows cells (L ++ M) = rows cells L ++ rows cells M := List.flatMap_append
theorem rows_one {α : Type} (cells : α → List Value) (x : α) : rows cells [x] = cells x := by unfold rows; simp
theorem rows_len {α : Type} {cells : α → List Value} {k : Nat} {L : List α} (h : ∀ s ∈ L, (cells s).length = k) : (rows cells L).length = L.length * k := by
  induction L with
  | nil => simp [rows]
  | cons y L ih =>
    have := ih (fun s hs => h s (by simp [hs]))
    unfold rows at this ⊢
    rw [List.flatMap_cons, List.length_append, h y (by simp), this, List.length_cons, Nat.add_mul, Nat.one_mul, Nat.add_comm]
/-- An element of a row that reads. -/
theorem Rd.elem {α : Type} {cells : α → List Value} {k : Nat} {w : World} {B : Nat} {A : Option Addr} {L : List α} (hk : 0 < k) (hl : ∀ s ∈ L, (cells s).length = k) (h : Rd w B A (L.length * k) (rows cells L)) {i : Nat} {x : α} (hx : L[i]? = some x) :
    ∃ ad, A = some ad ∧ ad.block < B ∧ ∀ j v, (cells x)[j]? = some v → w.cell? ((ad.add (i * k)).add j) = some v := by
  have hi : i < L.length := (List.getElem?_eq_some_iff.1 hx).1
  obtain ⟨ad, hA, hB, hc⟩ := h.2 (Nat.mul_pos (by omega) hk)
  refine ⟨ad, hA, hB, fun j v hv => ?_⟩
  have hj : j < k := by
    have := (List.getElem?_eq_some_iff.1 hv).1
    rwa [hl x (List.mem_of_getElem? hx)] at this
  rw [add_add']
  exact hc _ _ (by rw [rows_get L hl i j x hx hj, hv])
theorem grw_cells {w w' : World} {ad : Addr} {cs : List Value} (hb : Below w.heap.size w w') (hB : ad.block < w.heap.size) (h : ∀ j v, cs[j]? = some v → w.cell? (ad.add j) = some v) : ∀ j v, cs[j]? = some v → w'.cell? (ad.add j) = some v :=
  fun j v hv => (hb.cell (by rw [block_add]; exact hB)).trans (h j v hv)

theorem quiet_load_any {P : Program} {ops : Array Oper} {w : World} {Q : Act → Prop} {rest : List Oper} {o : Oper} {a : Act} (hw : Region.wanted o (yielded ops a.tmps) = true) (ty : TypeId) (x : Operand) (ho : o.op = .load ty x)
    (ad : Addr) (hx : a.eval x = .pointer (some ad)) (cs : List Value) (hc : ∀ u : Grw w, ∀ j v, cs[j]? = some v → u.val.cell? (ad.add j) = some v) (d : TypeDesc)
    (hu : P.underlying ty = some d) (hd : d.isRow = true) (hi : (P.info? ty).map (·.size) = some cs.length)
    (h : wpQuiet P ops (fun w' => ∃ u : Grw w, w' = u.val) Q rest (a.put o.dst (.agg cs.toArray))) : wpQuiet P ops (fun w' => ∃ u : Grw w, w' = u.val) Q (o :: rest) a := by
  rw [wpQuiet, if_pos hw]
  refine ⟨_, ?_, h⟩
  rintro _ ⟨u, rfl⟩
  unfold Oper.quietAt execOp
  simp only [ho, hx, Instr.loadAt, Instr.sureAddr, Sem.run_bind, Sem.run_pure, Result.andThen_ok, run_loadVar_any u.val ad ty cs d (hc u) hu hd hi]
  exact ⟨rfl, rfl⟩
end Go.Proofs.YtjgegggcbjecbaaDoor
