/- More laws at one operation: a struct built; a row read and written in the midst of a block that is known whole. -/
import Derived.Test.YtkgkllpecpcgjaaDoorStill
import Derived.Deep.MidRow
import Derived.Deep.Cut
import Derived.Deep.DeepMust
namespace Go.Proofs.YtkgkllpecpcgjaaDoor
open Go Go.RowKit

section
variable {P : Program}
theorem wpList_build_as {ops : Array Oper} {rest : List Oper} {o : Oper} {a : Act} {w : World} {Q : Exit → Act → World → Prop} (hg : o.guard = none) (t : TypeId) (parts : Array (Nat × Operand)) (ho : o.op = .build t parts)
    (ps : List (Nat × Value)) (hps : (parts.toList.map fun p => (p.1, a.eval p.2)) = ps) (cs : Array Value) (hcs : P.built t ps = some cs)
    (h : wpList P ops Q rest (a.put o.dst (.agg cs)) w) : wpList P ops Q (o :: rest) a w :=
  have e : (parts.map fun (i, x) => (i, a.eval x)).toList = ps := by rw [Array.toList_map]; exact hps
  wpList_build hg t parts ho (by rw [e, hcs]; rfl) (by rw [e, hcs]; exact h)
end
/-- Two blocks whose element types differ. -/
theorem Blk.ne_ {w : World} {g g' : Nat} {t t' : TypeId} {cs cs' : Array Value} (h : Blk w g t cs) (h' : Blk w g' t' cs') (hne : t ≠ t') : g ≠ g' := by
  rintro rfl
  unfold Blk at h h'
  rw [h] at h'
  injection h' with h'
  injection h' with _ ht
  exact hne ht
end Go.Proofs.YtkgkllpecpcgjaaDoor
