/- Commits in boxes: what they hold; small facts. -/
import Derived.Test.YtjgegggcbjecbaaDoorAliv
import Derived.Test.YtjgegggcbjecbaaDoorOpenD
namespace Go.Proofs.YtjgegggcbjecbaaDoor
open Go Go.RowKit

theorem blk_cells {w : World} {g : Nat} {t : TypeId} {X : List Value} (h : Blk w g t X.toArray) : ∀ j v, X[j]? = some v → w.cell? ((⟨g, 0, none⟩ : Addr).add j) = some v := by
  intro j v hj; rw [Addr.add_lit, Nat.zero_add, h.cell, List.getElem?_toArray, hj]
theorem conv_str (w : World) (B : Nat) (A : Option Addr) (n c : Nat) (l : List UInt8) (hr : Rd w B A n (bv l)) : (convert 27 9 (.slice A n c)).run Tryd.prog w = .ok (.string (sB l)) w :=
  hr.str (P := Tryd.prog) c Tryd.underlying27 Tryd.underlying5 Tryd.underlying9
/-- The cells of a commit of the call's own. -/
theorem OwnCm.cells {B : Nat} {w : World} {v : Value} {m : Cm.Cm} (h : OwnCm B w v m) : ∃ (X : Array Value), v = .agg X ∧ X.size = 4 ∧ X.all (·.oneCell') = true ∧ (Tryd.prog.info? 25).map (·.size) = some X.size := by
  obtain ⟨A, A', c, c', rfl, -⟩ := h
  exact ⟨_, rfl, rfl, bx_all, bx_info⟩
theorem OwnCm.later {B : Nat} {w w' : World} {v : Value} {m : Cm.Cm} (h : OwnCm B w v m) (hb : Below w.heap.size w w') : OwnCm B w' v m := by
  obtain ⟨A, A', c, c', h0, h1, h2, h3, h4⟩ := h
  exact ⟨A, A', c, c', h0, own_below h1 hb, own_below h2 hb, h3, h4⟩
/-- A load of a block's cells, where it is wanted (it may be guarded). -/
theorem wpList_load_boxed {P : Program} {ops : Array Oper} {rest : List Oper} {op : Oper} {a : Act} {w : World} {Q : Exit → Act → World → Prop} (hw : Region.wanted op (yielded ops a.tmps) = true) (ty : TypeId) (x : Operand) (ho : op.op = .load ty x)
    (g : Nat) (hx : a.eval x = .pointer (some ⟨g, 0, none⟩)) (X : Array Value) {t : TypeId} (hB : Blk w g t X) (d : TypeDesc) (hu : P.underlying ty = some d) (hd : d.isRow = true) (hi : (P.info? ty).map (·.size) = some X.size)
    (h : wpList P ops Q rest (a.put op.dst (.agg X)) w) : wpList P ops Q (op :: rest) a w := by
  obtain ⟨L⟩ := X
  exact wpList_load_any hw ty x ho ⟨g, 0, none⟩ hx L d (blk_cells hB) hu hd hi h
/-- The cells of a commit that came in. -/
def cmX (m : Cm.Cm) (A : Option Addr) (c : Nat) (B : Option Addr) (d : Nat) : List Value := [.slice A m.parents.length c, .string (sB m.author), .string (sB m.note), .slice B m.ops.length d]
theorem cmX_info {m : Cm.Cm} {A : Option Addr} {c : Nat} {B : Option Addr} {d : Nat} : (Tryd.prog.info? 25).map (·.size) = some (cmX m A c B d).length := infoC4
section
variable {P : Program} {md : Region.Mode} {ops : Array Oper} {S : World → Prop} {Q : Exit → Act → World → Prop}
/-- A load of many cells, taken first. -/
theorem held_load {i : Nat} {oi : Oper} {fuel : Nat} {listed : Array Bool} {a : Act} {w : World} (hi : ops[i]? = some oi) (hs : Region.noSelect ops = true) (hf : Region.free md ops listed i = true) (hr : (Region.ready md ops listed).contains i = true)
    (ty : TypeId) (x : Operand) (ho : oi.op = .load ty x) (ad : Addr) (cs : List Value) (hx : a.eval x = .pointer (some ad)) (hc : ∀ w, S w → ∀ j v, cs[j]? = some v → w.cell? (ad.add j) = some v) {d : TypeDesc} (hu : P.underlying ty = some d) (hd : d.isRow = true) (hz : (P.info? ty).map (·.size) = some cs.length)
    (hw : Region.wanted oi (yielded ops a.tmps) = true) (hQ : ∀ c a w, Q (.panic c) (a.put oi.dst (.agg cs.toArray)) w → Q (.panic c) a w) (hS : S w)
    (h : wpAnyH P md ops Q S fuel (listed.setIfInBounds i true) (a.put oi.dst (.agg cs.toArray)) w) : wpAnyH P md ops Q S (fuel + 1) listed a w :=
  wpAnyH_take hi hs hf hr hQ (Or.inl ⟨hw, fun w hS => by
    unfold execOp
    simp only [ho, hx, Instr.loadAt, Instr.sureAddr, Sem.run_bind, Sem.run_pure, Result.andThen_ok, run_loadVar_any w ad ty cs d (hc w hS) hu hd hz]⟩) hS h
end
theorem OwnCm.gb {B g : Nat} {w w' : World} {v : Value} {m : Cm.Cm} (h : OwnCm B w v m) (hg : w.grownBy w' (some g)) (hB : g < B) : OwnCm B w' v m := by
  obtain ⟨A, A', c, c', h0, h1, h2, h3, h4⟩ := h
  exact ⟨A, A', c, c', h0, own_gb h1 hg hB, own_gb h2 hg hB, h3, h4⟩

theorem okM_small (l : List UInt8) : (okM (Cm.decC (Cm.may Tx.less) l)).parents.length ≤ 8 ∧ (okM (Cm.decC (Cm.may Tx.less) l)).ops.length ≤ 2000 := by
  cases h : Cm.decC (Cm.may Tx.less) l with
  | error e => exact ⟨Nat.zero_le _, Nat.zero_le _⟩
  | ok m =>
    have h1 := Cm.may_ops (Cm.encode_decode h).1
    exact ⟨h1.1, h1.2.2.2.2.1⟩
end Go.Proofs.YtjgegggcbjecbaaDoor
