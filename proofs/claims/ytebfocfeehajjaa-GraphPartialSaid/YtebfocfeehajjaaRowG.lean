/- Rows of digests and of other things of many cells: an element, pieces, loads under worlds that grow; results that lie in a cell. -/
import Derived.Test.YtebfocfeehajjaaDg
import Derived.Test.YtebfocfeehajjaaOpenC
import Derived.Test.YtebfocfeehajjaaSort
import Derived.Great.BuildSlice
import Derived.Deep.WholeRow
import Derived.Laws.StructEq
import Derived.ScopeJumps
namespace Go.Proofs.Ytebfocfeehajjaa
open Go Go.RowKit

theorem rows_get {α : Type} {cells : α → List Value} {k : Nat} : ∀ (L : List α), (∀ s ∈ L, (cells s).length = k) → ∀ (i j : Nat) (x : α), L[i]? = some x → j < k → (rows cells L)[i * k + j]? = (cells x)[j]? := by
  intro L
  induction L with
  | nil => intro _ i j x hx; cases hx
  | cons y L ih =>
    intro hy i j x hx hj
    have hyl := hy y (by simp)
    cases i with
    | zero =>
      obtain rfl : y = x := by simpa using hx
      unfold rows
      rw [List.flatMap_cons, Nat.zero_mul, Nat.zero_add, List.getElem?_append_left (by rw [hyl]; exact hj)]
    | succ i =>
      have ih' := ih (fun s hs => hy s (by simp [hs])) i j x (by simpa using hx) hj
      unfold rows at ih' ⊢
      rw [List.flatMap_cons, List.getElem?_append_right (by rw [hyl, Nat.add_mul]; omega), hyl, Nat.add_mul, Nat.one_mul, show i * k + k + j - k = i * k + j by omega]
      exact ih'
theorem rows_append {α : Type} (cells : α → List Value) (L M : List α) : rows cells (L ++ M) = rows cells L ++ rows cells M := List.flatMap_append
theorem rows_one {α : Type} (cells : α → List Value) (x : α) : rows cells [x] = cells x := by unfold rows; simp
theorem rows_len {α : Type} {cells : α → List Value} {k : Nat} {L : List α} (h : ∀ s ∈ L, (cells s).length = k) : (rows cells L).length = L.length * k := by
  induction L with
  | nil => simp [rows]
  | cons y L ih =>
    have := ih (fun s hs => h s (by simp [hs]))
    unfold rows at this ⊢
    rw [List.flatMap_cons, List.length_append, h y (by simp), this, List.length_cons, Nat.add_mul, Nat.one_mul, Nat.add_comm]
/-- An element of a row that reads. -/
theorem Rd.elem {α : Type} {cells : α → List Value} {k : Nat} {w : World} {B : Nat} {A : Option Addr} {L : List α} (hk : 0 < k) (hl : ∀ s ∈ L, (cells s).length = k) (h : Rd w B A (L.length * k) (rows cells L)) {i : Nat} {x : α} (hx : L[i]? = some x) :
    ∃ ad, A = some ad ∧ ad.block < B ∧ ∀ j v, (cells x)[j]? = some v → w.cell? ((ad.add (i * k)).add j) = some v := by
  have hi : i < L.length := (List.getElem?_eq_some_iff.1 hx).1
  obtain ⟨ad, hA, hB, hc⟩ := h.2 (Nat.mul_pos (by omega) hk)
  refine ⟨ad, hA, hB, fun j v hv => ?_⟩
  have hj : j < k := by
    have := (List.getElem?_eq_some_iff.1 hv).1
    rwa [hl x (List.mem_of_getElem? hx)] at this
  rw [add_add']
  exact hc _ _ (by rw [rows_get L hl i j x hx hj, hv])
theorem grw_cells {w w' : World} {ad : Addr} {cs : List Value} (hb : Below w.heap.size w w') (hB : ad.block < w.heap.size) (h : ∀ j v, cs[j]? = some v → w.cell? (ad.add j) = some v) : ∀ j v, cs[j]? = some v → w'.cell? (ad.add j) = some v :=
  fun j v hv => (hb.cell (by rw [block_add]; exact hB)).trans (h j v hv)

theorem quiet_load_any {P : Program} {ops : Array Oper} {w : World} {Q : Act → Prop} {rest : List Oper} {o : Oper} {a : Act} (hw : Region.wanted o (yielded ops a.tmps) = true) (ty : TypeId) (x : Operand) (ho : o.op = .load ty x)
    (ad : Addr) (hx : a.eval x = .pointer (some ad)) (cs : List Value) (hc : ∀ u : Grw w, ∀ j v, cs[j]? = some v → u.val.cell? (ad.add j) = some v) (d : TypeDesc)
    (hu : P.underlying ty = some d) (hd : d.isRow = true) (hi : (P.info? ty).map (·.size) = some cs.length)
    (h : wpQuiet P ops (fun w' => ∃ u : Grw w, w' = u.val) Q rest (a.put o.dst (.agg cs.toArray))) : wpQuiet P ops (fun w' => ∃ u : Grw w, w' = u.val) Q (o :: rest) a := by
  rw [wpQuiet, if_pos hw]
  refine ⟨_, ?_, h⟩
  rintro _ ⟨u, rfl⟩
  unfold Oper.quietAt execOp
  simp only [ho, hx, Instr.loadAt, Instr.sureAddr, Sem.run_bind, Sem.run_pure, Result.andThen_ok, run_loadVar_any u.val ad ty cs d (hc u) hu hd hi]
  exact ⟨rfl, rfl⟩
theorem infoDg : (Try.prog.info? 47).map (fun i => (i.zero, i.size, i.bytes)) = some (some (.agg (bv Cm.zero32).toArray), 32, 32) := by kernel_rfl
theorem run_one_slice {P : Program} (t e : TypeId) (ie : TypeInfo) (z : Value) (D : Array Value) (hu : P.underlying t = some (.slice e)) (hie : P.info? e = some ie) (hz : ie.zero = some z) (hs : ie.size = D.size) (h0 : 0 < D.size) (hl : D.size ≤ 16777216) (w : World) :
    (Instr.buildSlice t 1 #[(0, .agg D)]).run P w = .ok (.slice (some ⟨w.heap.size, 0, none⟩) 1 1) (w.alloc (.cells D e)) := by
  refine run_buildSlice w t e 1 _ D ie z hu hie hz (by rw [hs]; omega) (by rw [hs]; omega) ?_
  have h := Go.Great.fill_whole (s := D.size) h0 [Value.agg D] ((Array.range (1 * ie.size)).map (z.cells[· % z.cells.size]!)) (by intro v hv; rw [List.mem_singleton.1 hv]; rfl) (by simp [hs])
  rw [hs] at h ⊢
  rw [show (#[(0, Value.agg D)] : Array (Nat × Value)).toList = (([Value.agg D].zipIdx 0).map fun x => (x.2, x.1)) from rfl, h]
  simp [Value.cells]
theorem wpList_one_slice {P : Program} {ops : Array Oper} {rest : List Oper} {o : Oper} {a : Act} {w : World} {Q : Exit → Act → World → Prop} (hg : o.guard = none) (t e : TypeId) (x : Operand) (ho : o.op = .buildSlice t 1 #[(0, x)]) (ie : TypeInfo) (z : Value) (D : Array Value) (hx : a.eval x = .agg D)
    (hu : P.underlying t = some (.slice e)) (hie : P.info? e = some ie) (hz : ie.zero = some z) (hs : ie.size = D.size) (h0 : 0 < D.size) (hl : D.size ≤ 16777216)
    (h : wpList P ops Q rest (a.put o.dst (.slice (some ⟨w.heap.size, 0, none⟩) 1 1)) (w.alloc (.cells D e))) : wpList P ops Q (o :: rest) a w := by
  refine wpList_plain hg fun _ hK => ?_
  unfold Oper.wp execOp
  have hr := run_one_slice (P := P) t e ie z D hu hie hz hs h0 hl w
  rw [← hx] at hr
  simp only [ho, List.map_toArray, List.map_cons, List.map_nil, Sem.run_bind, hr, Result.andThen_ok]
  exact hK _ _ h
theorem one_dig (D : Array Value) (hs : D.size = 32) (w : World) : (Instr.buildSlice 30 1 #[(0, .agg D)]).run Try.prog w = .ok (.slice (some ⟨w.heap.size, 0, none⟩) 1 1) (w.alloc (.cells D 47)) := by
  obtain ⟨i0, hi, hz0, hz1, hz2⟩ := info_parts infoDg
  exact run_one_slice (P := Try.prog) _ _ i0 _ D Try.underlying30 hi hz0 (by rw [hz1, hs]) (by omega) (by omega) w
theorem row_own_ne {B g n k : Nat} {e t : TypeId} {xs : List Value} {v : Value} {cs : Array Value} {w : World} (ho : w.ownsRow B e k v n xs) (hg : Blk w g t cs) (ht : t ≠ e) : v.ownBlock ≠ some g := by
  rcases ho.2 with ⟨rfl, _⟩ | ⟨q, cap, cur, rfl, _, hq, _⟩
  · simp [Value.ownBlock]
  · intro h
    simp only [Value.ownBlock, Option.some.injEq] at h
    subst h
    unfold Blk at hg
    rw [hq] at hg
    simp only [Option.some.injEq, Obj.cells.injEq] at hg
    exact ht hg.2.1.symm
/-- Rows of unlike types lie in unlike blocks. -/
theorem rows_apart {B B' n n' k k' : Nat} {e e' : TypeId} {xs xs' : List Value} {v v' : Value} {w : World} (ho : w.ownsRow B e k v n xs) (ho' : w.ownsRow B' e' k' v' n' xs') (ht : e ≠ e') : v.ownBlock = none ∨ v.ownBlock ≠ v'.ownBlock := by
  rcases ho.2 with ⟨rfl, _⟩ | ⟨q, cap, cur, rfl, _, hq, _⟩
  · exact .inl rfl
  · right
    rcases ho'.2 with ⟨rfl, _⟩ | ⟨q', cap', cur', rfl, _, hq', _⟩
    · simp [Value.ownBlock]
    · intro h
      simp only [Value.ownBlock, Option.some.injEq] at h
      subst h
      rw [hq] at hq'
      simp only [Option.some.injEq, Obj.cells.injEq] at hq'
      exact ht hq'.2.1
/-- A row, and a store elsewhere. -/
theorem row_set {B g i n k : Nat} {e t : TypeId} {xs : List Value} {v x : Value} {cs : Array Value} {w : World} (ho : w.ownsRow B e k v n xs) (hg : Blk w g t cs) (ht : t ≠ e) : (w.setCell ⟨g, i, none⟩ x).ownsRow B e k v n xs :=
  ho.kept (row := some g) ⟨rfl, rfl, rfl, by simp [World.setCell], fun j _ hj => Below.heap_setCell _ _ _ _ (fun e => hj (by simp [e]))⟩ (Or.inr (row_own_ne ho hg ht))
theorem row_row {B g n k : Nat} {e t : TypeId} {xs : List Value} {v : Value} {cs cs' : Array Value} {w : World} (ho : w.ownsRow B e k v n xs) (hg : Blk w g t cs) (ht : t ≠ e) : (w.setRow g cs').ownsRow B e k v n xs :=
  ho.kept (row := some g) ⟨rfl, rfl, rfl, by rw [size_setRow]; exact Nat.le_refl _, fun j _ hj => setRow_other w g j cs' (fun e => hj (by rw [e]))⟩ (Or.inr (row_own_ne ho hg ht))

abbrev RawHd := Nat × (List (List UInt8) × (List UInt8 × List UInt8))
theorem own_base {B B' n k : Nat} {e : TypeId} {v : Value} {xs : List Value} {w : World} (h : w.ownsRow B e k v n xs) (hB : B' ≤ B) : w.ownsRow B' e k v n xs := by
  refine ⟨h.1, ?_⟩
  rcases h.2 with h | ⟨g, cap, cur, h1, h2, h3⟩
  · exact .inl h
  · exact .inr ⟨g, cap, cur, h1, Nat.le_trans hB h2, h3⟩
theorem rows_ones {α : Type} {cells : α → List Value} (h : ∀ x, ∀ u ∈ cells x, u.oneCell' = true) (L : List α) : ∀ u ∈ rows cells L, u.oneCell' = true := by
  intro u hu
  unfold rows at hu
  obtain ⟨x, -, hx⟩ := List.mem_flatMap.1 hu
  exact h x u hx
theorem results_row_only {P : Program} {fn : Func} {p : Tmp} {ty : TypeId} (h : fn.results = #[.cell p ty]) (tmps : Array Value) (w : World) (g : Nat) (u : TypeId) (cs : Array Value) (fr : Nat × Nat) (d : TypeDesc)
    (hp : tmps.getD p undef = .pointer (some ⟨g, 0, none⟩)) (hg : w.heap[g]? = some (.cells cs u fr))
    (hu : P.underlying ty = some d) (hd : (match d with | .struct _ | .array _ _ => true | _ => false) = true) (hi : (P.info? ty).map (·.size) = some cs.size) : (results fn tmps).run P w = .ok (.agg cs) w := by
  have hp' : tmps[p]?.getD undef = .pointer (some ⟨g, 0, none⟩) := by simpa using hp
  simp [results, h, hp', asAddr, run_loadVar_row w g u ty cs fr d hg hu hd hi]
theorem take_more {α : Type} {L L' : List α} {k : Nat} {x y : α} (hx : L[k]? = some x) (hy : L'[k]? = some y) (ht : L.take k = L'.take k) (h : x = y) : L.take (k + 1) = L'.take (k + 1) := by
  rw [List.take_add_one, List.take_add_one, hx, hy, ht, h]
theorem ret_bool {a b : Bool} (h : a = b) : Ending.returned (.bool a) = .returned (.bool b) := by rw [h]
theorem run_equal_dig {a b : List UInt8} (ha : a.length = 32) (hb : b.length = 32) (w : World) : (Op.equalIn 10000 47 (.agg (bv a).toArray) (.agg (bv b).toArray)).run Try.prog w = .ok (decide (a = b)) w :=
  run_equal_bytes (P := Try.prog) Try.underlying47 Try.underlying5 infoU81 ha hb w
theorem below_row {B g : Nat} {a w : World} (h : Below B a w) (hg : B ≤ g) (cs : Array Value) : Below B a (w.setRow g cs) :=
  ⟨h.os, h.tape, h.output, by rw [size_setRow]; exact h.size, fun i hi => (setRow_other w g i cs (by omega)).trans (h.block i hi)⟩
theorem take_snoc {α : Type} {L : List α} {i : Nat} {x : α} (h : L[i]? = some x) : L.take (i + 1) = L.take i ++ [x] := by
  rw [List.take_add_one, h]; rfl
theorem sort_step {L M : List (List UInt8)} {i : Nat} {x : List UInt8} (h : L[i]? = some x) (hM : M = (L.take i).foldl (So.ins Tx.less) []) : So.ins Tx.less M x = (L.take (i + 1)).foldl (So.ins Tx.less) [] := by
  rw [take_snoc h, List.foldl_append, ← hM]; rfl
theorem rows_take {L : List (List UInt8)} (hD : ∀ s ∈ L, s.length = 32) (k : Nat) : (rows bv L).take (k * 32) = rows bv (L.take k) := by
  by_cases h : k ≤ L.length
  · have h1 : rows bv L = rows bv (L.take k) ++ rows bv (L.drop k) := by rw [← rows_append, List.take_append_drop]
    rw [h1, List.take_left']
    rw [rows_len (k := 32) (fun s hs => by rw [bv_length]; exact hD s (List.mem_of_mem_take hs)), List.length_take, Nat.min_eq_left h]
  · rw [List.take_of_length_le (l := L) (by omega), List.take_of_length_le]
    rw [rows_len (k := 32) (fun s hs => by rw [bv_length]; exact hD s hs)]
    have := Nat.mul_le_mul_right 32 (show L.length ≤ k by omega); omega
theorem rows_drop {L : List (List UInt8)} (hD : ∀ s ∈ L, s.length = 32) (k : Nat) : (rows bv L).drop (k * 32) = rows bv (L.drop k) := by
  by_cases h : k ≤ L.length
  · have h1 : rows bv L = rows bv (L.take k) ++ rows bv (L.drop k) := by rw [← rows_append, List.take_append_drop]
    rw [h1, List.drop_left']
    rw [rows_len (k := 32) (fun s hs => by rw [bv_length]; exact hD s (List.mem_of_mem_take hs)), List.length_take, Nat.min_eq_left h]
  · rw [@List.drop_eq_nil_of_le _ L k (by omega), List.drop_eq_nil_of_le]
    · rfl
    · rw [rows_len (k := 32) (fun s hs => by rw [bv_length]; exact hD s hs)]
      have := Nat.mul_le_mul_right 32 (show L.length ≤ k by omega); omega
theorem place_is {α : Type} (less : α → α → Bool) (d : α) : ∀ (M : List α) (k : Nat), k ≤ M.length → (∀ j x, j < k → M[j]? = some x → less x d = true) → (∀ x, M[k]? = some x → less x d = false) → So.place less d M = k
  | [], k, hk, _, _ => by simp at hk; subst hk; rfl
  | x :: M, 0, _, _, h2 => by
    have := h2 x rfl
    rw [So.place, if_neg (by rw [this]; decide)]
  | x :: M, k + 1, hk, h1, h2 => by
    rw [So.place, if_pos (h1 0 x (by omega) rfl), place_is less d M k (by simpa using hk) (fun j y hj hy => h1 (j + 1) y (by omega) (by simpa using hy)) (fun y hy => h2 y (by simpa using hy))]
theorem blk_cells {w : World} {g : Nat} {t : TypeId} {X : List Value} (h : Blk w g t X.toArray) : ∀ j v, X[j]? = some v → w.cell? ((⟨g, 0, none⟩ : Addr).add j) = some v := by
  intro j v hj; rw [Addr.add_lit, Nat.zero_add, h.cell, List.getElem?_toArray, hj]
/-- A load of a block's cells, where it is wanted (it may be guarded). -/
theorem wpList_load_boxed {P : Program} {ops : Array Oper} {rest : List Oper} {op : Oper} {a : Act} {w : World} {Q : Exit → Act → World → Prop} (hw : Region.wanted op (yielded ops a.tmps) = true) (ty : TypeId) (x : Operand) (ho : op.op = .load ty x)
    (g : Nat) (hx : a.eval x = .pointer (some ⟨g, 0, none⟩)) (X : Array Value) {t : TypeId} (hB : Blk w g t X) (d : TypeDesc) (hu : P.underlying ty = some d) (hd : d.isRow = true) (hi : (P.info? ty).map (·.size) = some X.size)
    (h : wpList P ops Q rest (a.put op.dst (.agg X)) w) : wpList P ops Q (op :: rest) a w := by
  obtain ⟨L⟩ := X
  exact wpList_load_any hw ty x ho ⟨g, 0, none⟩ hx L d (blk_cells hB) hu hd hi h
section
variable {P : Program} {md : Region.Mode} {ops : Array Oper} {S : World → Prop} {Q : Exit → Act → World → Prop}
/-- A load of many cells, taken first. -/
theorem held_load {i : Nat} {oi : Oper} {fuel : Nat} {listed : Array Bool} {a : Act} {w : World} (hi : ops[i]? = some oi) (hs : Region.noSelect ops = true) (hf : Region.free md ops listed i = true) (hr : (Region.ready md ops listed).contains i = true)
    (ty : TypeId) (x : Operand) (ho : oi.op = .load ty x) (ad : Addr) (cs : List Value) (hx : a.eval x = .pointer (some ad)) (hc : ∀ w, S w → ∀ j v, cs[j]? = some v → w.cell? (ad.add j) = some v) {d : TypeDesc} (hu : P.underlying ty = some d) (hd : d.isRow = true) (hz : (P.info? ty).map (·.size) = some cs.length)
    (hw : Region.wanted oi (yielded ops a.tmps) = true) (hQ : ∀ c a w, Q (.panic c) (a.put oi.dst (.agg cs.toArray)) w → Q (.panic c) a w) (hS : S w)
    (h : wpAnyH P md ops Q S fuel (listed.setIfInBounds i true) (a.put oi.dst (.agg cs.toArray)) w) : wpAnyH P md ops Q S (fuel + 1) listed a w :=
  wpAnyH_take hi hs hf hr hQ (Or.inl ⟨hw, fun w hS => by
    unfold execOp
    simp only [ho, hx, Instr.loadAt, Instr.sureAddr, Sem.run_bind, Sem.run_pure, Result.andThen_ok, run_loadVar_any w ad ty cs d (hc w hS) hu hd hz]⟩) hS h
end
section
variable {P : Program}
/-- Results: what lies in a variable that is a row, and one or two of one cell. -/
theorem results_row_tmp {fn : Func} {p t : Tmp} {ty : TypeId} (h : fn.results = #[.cell p ty, .tmp t]) (tmps : Array Value) (w : World) (g : Nat) (u : TypeId) (cs : Array Value) (fr : Nat × Nat) (d : TypeDesc)
    (hp : tmps.getD p undef = .pointer (some ⟨g, 0, none⟩)) (hg : w.heap[g]? = some (.cells cs u fr))
    (hu : P.underlying ty = some d) (hd : (match d with | .struct _ | .array _ _ => true | _ => false) = true) (hi : (P.info? ty).map (·.size) = some cs.size)
    (v : Value) (hv : tmps.getD t undef = v) : (results fn tmps).run P w = .ok (.tuple #[.agg cs, v]) w := by
  have hv' : tmps[t]?.getD undef = v := by simpa using hv
  have hp' : tmps[p]?.getD undef = .pointer (some ⟨g, 0, none⟩) := by simpa using hp
  simp [results, h, hp', hv', asAddr, run_loadVar_row w g u ty cs fr d hg hu hd hi]
theorem results_row_tmp2 {fn : Func} {p t t' : Tmp} {ty : TypeId} (h : fn.results = #[.cell p ty, .tmp t, .tmp t']) (tmps : Array Value) (w : World) (g : Nat) (u : TypeId) (cs : Array Value) (fr : Nat × Nat) (d : TypeDesc)
    (hp : tmps.getD p undef = .pointer (some ⟨g, 0, none⟩)) (hg : w.heap[g]? = some (.cells cs u fr))
    (hu : P.underlying ty = some d) (hd : (match d with | .struct _ | .array _ _ => true | _ => false) = true) (hi : (P.info? ty).map (·.size) = some cs.size)
    (v v' : Value) (hv : tmps.getD t undef = v) (hv' : tmps.getD t' undef = v') : (results fn tmps).run P w = .ok (.tuple #[.agg cs, v, v']) w := by
  have h1 : tmps[t]?.getD undef = v := by simpa using hv
  have h2 : tmps[t']?.getD undef = v' := by simpa using hv'
  have hp' : tmps[p]?.getD undef = .pointer (some ⟨g, 0, none⟩) := by simpa using hp
  simp [results, h, hp', h1, h2, asAddr, run_loadVar_row w g u ty cs fr d hg hu hd hi]
end
section
variable {P : Program}
theorem wpList_build_as {ops : Array Oper} {rest : List Oper} {o : Oper} {a : Act} {w : World} {Q : Exit → Act → World → Prop} (hg : o.guard = none) (t : TypeId) (parts : Array (Nat × Operand)) (ho : o.op = .build t parts)
    (ps : List (Nat × Value)) (hps : (parts.toList.map fun p => (p.1, a.eval p.2)) = ps) (cs : Array Value) (hcs : P.built t ps = some cs)
    (h : wpList P ops Q rest (a.put o.dst (.agg cs)) w) : wpList P ops Q (o :: rest) a w :=
  have e : (parts.map fun (i, x) => (i, a.eval x)).toList = ps := by rw [Array.toList_map]; exact hps
  wpList_build hg t parts ho (by rw [e, hcs]; rfl) (by rw [e, hcs]; exact h)
end
end Go.Proofs.Ytebfocfeehajjaa
