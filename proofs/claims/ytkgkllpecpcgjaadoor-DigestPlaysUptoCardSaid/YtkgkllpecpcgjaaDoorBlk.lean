/- Blocks that are known whole; arrays as values; rows of words and bytes in them. -/
import Derived.Test.YtkgkllpecpcgjaaDoorTurn
import Derived.Below
import Derived.Laws.OwnMore
import Derived.Deep.Draws
import Derived.Laws.Rows
import Derived.Laws.Tables
namespace Go.Proofs.YtkgkllpecpcgjaaDoor
open Go Go.RowKit

/-- Block g is just these cells, of this element type, none of them frozen. -/
def Blk (w : World) (g : Nat) (t : TypeId) (cs : Array Value) : Prop := w.heap[g]? = some (.cells cs t (0, 0))

section
variable {w w' : World} {g : Nat} {t : TypeId} {cs : Array Value}
theorem Blk.lt (h : Blk w g t cs) : g < w.heap.size := by
  rcases Nat.lt_or_ge g w.heap.size with hlt | hge
  · exact hlt
  · unfold Blk at h; rw [Array.getElem?_eq_none hge] at h; cases h
theorem Blk.cell (h : Blk w g t cs) (i : Nat) : w.cell? ⟨g, i, none⟩ = cs[i]? := cell_of_row w g i cs t (0, 0) h
theorem Blk.frozen (h : Blk w g t cs) (i : Nat) : w.frozen? ⟨g, i, none⟩ = false := by
  unfold Blk at h
  simp [World.frozen?, h]
theorem Blk.new (w : World) (t : TypeId) (cs : Array Value) : Blk (w.alloc (.cells cs t)) w.heap.size t cs := heap_alloc_new w _
theorem Blk.drew (h : Blk w g t cs) : Blk w.drew g t cs := h
theorem Blk.drewN (h : Blk w g t cs) (n : Nat) : Blk (w.drewN n) g t cs := h
theorem Blk.alloc (h : Blk w g t cs) (o : Obj) : Blk (w.alloc o) g t cs := (Below.heap_alloc w o g h.lt).trans h
theorem Blk.set_ (h : Blk w g t cs) (i : Nat) (u : Value) : Blk (w.setCell ⟨g, i, none⟩ u) g t (cs.setIfInBounds i u) := by
  unfold Blk at h ⊢
  simp [World.setCell, Array.getElem?_modify, h]
theorem Blk.far (h : Blk w g t cs) {p : Addr} (hp : g ≠ p.block) (u : Value) : Blk (w.setCell p u) g t cs := (Below.heap_setCell w p u g hp).trans h
theorem Blk.below {B : Nat} (h : Blk w g t cs) (hb : Below B w w') (hg : g < B) : Blk w' g t cs := (hb.block g hg).trans h
theorem Blk.later (h : Blk w g t cs) (hb : Below w.heap.size w w') : Blk w' g t cs := h.below hb h.lt
theorem Blk.grown {row : Option Nat} (h : Blk w g t cs) (hb : w.grownBy w' row) (hg : some g ≠ row) : Blk w' g t cs := (hb.block g h.lt hg).trans h
theorem Blk.row (h : Blk w g t cs) (cs' : Array Value) : Blk (w.setRow g cs') g t cs' := setRow_heap w g cs cs' t (0, 0) h
theorem Blk.farRow {g' : Nat} (h : Blk w g t cs) (hg : g ≠ g') (cs' : Array Value) : Blk (w.setRow g' cs') g t cs := (setRow_other w g' g cs' hg).trans h
theorem below_setRow {B : Nat} {a w : World} (h : Below B a w) {g : Nat} (hg : B ≤ g) (cs : Array Value) : Below B a (w.setRow g cs) :=
  ⟨h.os, h.tape, h.output, by rw [size_setRow]; exact h.size, fun i hi => (setRow_other w g i cs (by omega)).trans (h.block i hi)⟩
end

theorem bv_at (l : List UInt8) {p : Nat} (h : p < l.length) : (bv l).toArray[p]? = some (.int .u8 (Sh.byteAt l p : Int)) := by
  unfold bv Sh.byteAt
  rw [List.getElem?_toArray, List.getElem?_map, List.getElem?_eq_getElem h, List.getD_eq_getElem?_getD, List.getElem?_eq_getElem h]
  rfl
theorem uv_at' (l : List Nat) {p : Nat} (h : p < l.length) : (uv l).toArray[p]? = some (.int .u32 (l.getD p 0 : Int)) := by
  rw [List.getElem?_toArray]; exact uv_at l h
theorem uv_size (l : List Nat) : (uv l).toArray.size = l.length := by rw [List.size_toArray, uv_length]
theorem bv_size (l : List UInt8) : (bv l).toArray.size = l.length := by rw [List.size_toArray, bv_length]
theorem uv_all (l : List Nat) : (uv l).toArray.all (·.oneCell') = true := Array.all_eq_true_iff_forall_mem.2 (fun v hv => uv_one l v (by simpa using hv))
theorem bv_all (l : List UInt8) : (bv l).toArray.all (·.oneCell') = true := Array.all_eq_true_iff_forall_mem.2 (fun v hv => bv_one l v (by simpa using hv))

/-- Words so far, with noughts behind them, in a row of n. -/
def wz (l : List Nat) (n : Nat) : Array Value := (uv (l ++ List.replicate (n - l.length) 0)).toArray
theorem wz_nil (n : Nat) : wz [] n = (uv (List.replicate n 0)).toArray := rfl
theorem wz_full {l : List Nat} {n : Nat} (h : l.length = n) : wz l n = (uv l).toArray := by unfold wz; rw [h, Nat.sub_self, List.replicate_zero, List.append_nil]
theorem wz_size {l : List Nat} {n : Nat} (h : l.length ≤ n) : (wz l n).size = n := by
  unfold wz; rw [uv_size, List.length_append, List.length_replicate]; omega
theorem wz_at {l : List Nat} {n p : Nat} (h : p < l.length) : (wz l n)[p]? = some (.int .u32 (l.getD p 0 : Int)) := by
  unfold wz
  rw [uv_at' _ (by rw [List.length_append]; omega), List.getD_eq_getElem?_getD, List.getD_eq_getElem?_getD, List.getElem?_append_left h]
theorem wz_in {l : List Nat} {n p : Nat} (hl : l.length ≤ p) (h : p < n) : (wz l n)[p]? = some (.int .u32 0) := by
  unfold wz
  rw [uv_at' _ (by rw [List.length_append, List.length_replicate]; omega), List.getD_eq_getElem?_getD, List.getElem?_append_right hl, List.getElem?_replicate, if_pos (by omega)]
  rfl
theorem wz_set {l : List Nat} {n : Nat} (h : l.length < n) (x : Nat) : (wz l n).setIfInBounds l.length (.int .u32 (x : Int)) = wz (l ++ [x]) n := by
  unfold wz uv
  rw [List.setIfInBounds_toArray, List.length_append, List.length_cons, List.length_nil]
  congr 1
  rw [show n - l.length = (n - (l.length + (0 + 1))) + 1 by omega, List.replicate_succ]
  simp [List.map_append]
end Go.Proofs.YtkgkllpecpcgjaaDoor
