/- A list's nodes as they lie in memory: the digests, the parents' numbers, the map, and the row of marks. -/
import Derived.Test.YtebfocfeehajjaaDMap
import Derived.Test.YtebfocfeehajjaaGm
namespace Go.Proofs.Ytebfocfeehajjaa
open Go Go.RowKit

def nv (L : List Nat) : List Value := L.map fun (n : Nat) => Value.int .i64 (n : Int)
def bl (bs : List Bool) : Array Value := (bs.map Value.bool).toArray
theorem nv_length (L : List Nat) : (nv L).length = L.length := List.length_map _
theorem nv_append (L M : List Nat) : nv (L ++ M) = nv L ++ nv M := List.map_append
theorem nv_one (L : List Nat) : ∀ u ∈ nv L, u.oneCell' = true := by
  intro u hu
  obtain ⟨c, -, rfl⟩ := List.mem_map.1 hu
  rfl
theorem nv_at {L : List Nat} {i x : Nat} (h : L[i]? = some x) : (nv L)[i]? = some (.int .i64 (x : Int)) := by unfold nv; rw [List.getElem?_map, h]; rfl
theorem bl_size (bs : List Bool) : (bl bs).size = bs.length := by unfold bl; simp
theorem bl_at {bs : List Bool} {i : Nat} (h : i < bs.length) : (bl bs)[i]? = some (.bool (bs.getD i false)) := by
  unfold bl
  rw [List.getElem?_toArray, List.getElem?_map, List.getD_eq_getElem?_getD, List.getElem?_eq_getElem h]; rfl
theorem bl_set (bs : List Bool) (i : Nat) (b : Bool) : (bl bs).setIfInBounds i (.bool b) = bl (bs.set i b) := by
  unfold bl
  rw [List.map_set]
  simp
theorem infoI : (Try.prog.info? 3).map (fun i => (i.zero, i.size, i.bytes)) = some (some (.int .i64 0), 1, 8) := by kernel_rfl
theorem infoB : (Try.prog.info? 4).map (fun i => (i.zero, i.size, i.bytes)) = some (some (.bool false), 1, 1) := by kernel_rfl
theorem infoS : (Try.prog.info? 64).map (fun i => (i.zero, i.size, i.bytes)) = some (some (.slice none 0 0), 1, 24) := by kernel_rfl
theorem infoNd : (Try.prog.info? 78).map (·.size) = some 4 := by kernel_rfl

theorem blk_ne {w : World} {g g' : Nat} {t t' : TypeId} {cs cs' : Array Value} (h : Blk w g t cs) (h' : Blk w g' t' cs') (ht : t ≠ t') : g ≠ g' := by
  rintro rfl
  unfold Blk at h h'
  rw [h] at h'
  injection h' with h'
  injection h' with _ h2
  exact ht h2
theorem grown_of {w w' : World} (hb : Below w.heap.size w w') (row : Option Nat) : w.grownBy w' row := ⟨hb.os, hb.tape, hb.output, hb.size, fun k hk _ => hb.block k hk⟩

structure GM (base gb db mb : Nat) (A : Option Addr) (c : Nat) (B : Option Addr) (d : Nat) (V : List Value) (ids : List (List UInt8)) (ns : List (List Nat)) (bs : List Bool) (w : World) : Prop where
  cells : Blk w gb 78 #[.slice A ids.length c, .slice B ids.length d, .map (some mb), .slice (some ⟨db, 0, none⟩) bs.length bs.length]
  own : w.ownsRow base 47 32 (.slice A ids.length c) ids.length (rows bv ids)
  dig : ∀ s ∈ ids, s.length = 32
  pown : w.ownsRow base 64 1 (.slice B ids.length d) ids.length V
  plen : ns.length = ids.length
  prow : ∀ (i : Nat) (L : List Nat), ns[i]? = some L → ∃ A' c', V[i]? = some (.slice A' L.length c') ∧ w.ownsRow base 3 1 (.slice A' L.length c') L.length (nv L)
  due : Blk w db 4 (bl bs)
  map : DMap w mb ids
  geo : base ≤ gb ∧ base ≤ db ∧ base ≤ mb

section
variable {base gb db mb : Nat} {A : Option Addr} {c : Nat} {B : Option Addr} {d : Nat} {V : List Value} {ids : List (List UInt8)} {ns : List (List Nat)} {bs bs' : List Bool} {w w' : World}
theorem GM.marks (h : GM base gb db mb A c B d V ids ns bs w) (hg : w.grownBy w' (some db)) (hb : Blk w' db 4 (bl bs')) (hl : bs'.length = bs.length) : GM base gb db mb A c B d V ids ns bs' w' where
  cells := by rw [hl]; exact h.cells.grown hg (fun e => blk_ne h.cells h.due (by decide) (Option.some.inj e))
  own := h.own.kept hg (.inr (row_own_ne h.own h.due (by decide)))
  dig := h.dig
  pown := h.pown.kept hg (.inr (row_own_ne h.pown h.due (by decide)))
  plen := h.plen
  prow := fun i L hL => by
    obtain ⟨A', c', h1, h2⟩ := h.prow i L hL
    exact ⟨A', c', h1, h2.kept hg (.inr (row_own_ne h2 h.due (by decide)))⟩
  due := hb
  map := h.map.kept hg (fun e => h.map.ne h.due (Option.some.inj e).symm)
  geo := h.geo
theorem GM.below (h : GM base gb db mb A c B d V ids ns bs w) (hb : Below w.heap.size w w') : GM base gb db mb A c B d V ids ns bs w' :=
  h.marks (grown_of hb _) (h.due.later hb) rfl
theorem GM.lt (h : GM base gb db mb A c B d V ids ns bs w) : gb < w.heap.size ∧ db < w.heap.size ∧ mb < w.heap.size := ⟨h.cells.lt, h.due.lt, h.map.lt⟩
end
end Go.Proofs.Ytebfocfeehajjaa
