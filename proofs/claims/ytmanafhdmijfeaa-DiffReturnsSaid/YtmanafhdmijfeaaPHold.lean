/- A slice of edits of the call's own, held in a captured variable. -/
import Derived.Test.YtmanafhdmijfeaaPOver
import Derived.Test.YtmanafhdmijfeaaZed
namespace Go.Proofs.Ytmanafhdmijfeaa
open Go Go.RowKit

/-- It stands in the one cell of block B; its row lies in a block from B on, below T. -/
structure Boxed (B : Nat) (K : List Ed) (T : Nat) (v : Value) (w : World) : Prop where
  blk : Blk w B 22 #[v]
  own : w.ownsRow B 32 3 v K.length (ev K)
  low : ∀ g, v.ownBlock = some g → g < T
  hB : B < T

theorem Boxed.later {B T : Nat} {K : List Ed} {v : Value} {w w' : World} (h : Boxed B K T v w) (hb : Below w.heap.size w w') : Boxed B K T v w' :=
  ⟨h.blk.later hb, h.own.kept (row := none) ⟨hb.os, hb.tape, hb.output, hb.size, fun j hj _ => hb.block j hj⟩ (by cases hv : v.ownBlock <;> simp), h.low, h.hB⟩
theorem own_ne {B g : Nat} {K : List Ed} {v : Value} {cs : Array Value} {t : TypeId} {w : World} (ho : w.ownsRow B 32 3 v K.length (ev K)) (hg : Blk w g t cs) (ht : t ≠ 32) : v.ownBlock ≠ some g := by
  rcases ho.2 with ⟨rfl, _⟩ | ⟨q, cap, cur, rfl, _, hq, _⟩
  · simp [Value.ownBlock]
  · intro h
    simp only [Value.ownBlock, Option.some.injEq] at h
    subst h
    unfold Blk at hg
    rw [hq] at hg
    simp only [Option.some.injEq, Obj.cells.injEq] at hg
    exact ht hg.2.1.symm
theorem Boxed.ne {B T : Nat} {K : List Ed} {v : Value} {w : World} (h : Boxed B K T v w) : v.ownBlock ≠ some B := own_ne h.own h.blk (by decide)
theorem Boxed.drew {B T : Nat} {K : List Ed} {v : Value} {w : World} (h : Boxed B K T v w) : Boxed B K T v w.drew := ⟨h.blk.drew, h.own.drew, h.low, h.hB⟩
theorem Boxed.size {B T : Nat} {K : List Ed} {v : Value} {w : World} (h : Boxed B K T v w) : B < w.heap.size := h.blk.lt

/-- What an append and the store behind it leave. -/
structure Held (B : Nat) (K : List Ed) (T : Nat) (w : World) (v : Value) (w' : World) : Prop where
  box : Boxed B K w'.heap.size v w'
  hb : Below B w w'
  hBT : B < T
  stay : ∀ g t cs, (t ≠ 32 ∨ T ≤ g) → g ≠ B → Blk w g t cs → Blk w' g t cs

theorem held_next {B T : Nat} {K K' : List Ed} {v v' : Value} {w w1 w2 : World} (h : Boxed B K T v w) (hb : Below w.heap.size w w1) (ho : w2.ownsRow B 32 3 v' K'.length (ev K')) (hg : w1.grownBy w2 v.ownBlock) : Held B K' T w v' (w2.setCell ⟨B, 0, none⟩ v') := by
  have hB1 : Below B w w1 := hb.mono (Nat.le_of_lt h.size)
  have hbk2 : Blk w2 B 22 #[v] := (h.blk.later hb).grown hg (fun e => h.ne e.symm)
  have hne' : v'.ownBlock ≠ some B := own_ne ho hbk2 (by decide)
  have hsz : (w2.setCell ⟨B, 0, none⟩ v').heap.size = w2.heap.size := by simp [World.setCell]
  have hB2 : Below B w w2 := hB1.grown hg (Nat.le_trans (Nat.le_of_lt h.size) hb.size) (fun q hq => (h.own.lt q hq).1)
  refine ⟨⟨hbk2.set_ 0 v', ?_, fun g hg' => by rw [hsz]; exact (ho.lt g hg').2, by rw [hsz]; exact Nat.lt_of_lt_of_le h.size hB2.size⟩, hB2.setCell (p := ⟨B, 0, none⟩) (Nat.le_refl _) v', h.hB, fun g t cs h1 h0 h2 => ?_⟩
  · exact ho.kept (row := some B) ⟨rfl, rfl, rfl, by simp [World.setCell], fun k _ hk => Below.heap_setCell _ _ _ _ (fun e => hk (by simp [e]))⟩ (Or.inr hne')
  · refine ((h2.later hb).grown hg (fun e => ?_)).far (p := ⟨B, 0, none⟩) h0 v'
    rcases h1 with h1 | h1
    · exact own_ne h.own h2 h1 e.symm
    · have := h.low g e.symm
      omega
end Go.Proofs.Ytmanafhdmijfeaa
