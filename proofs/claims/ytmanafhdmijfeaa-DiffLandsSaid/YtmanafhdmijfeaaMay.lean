/- The document's May: may an edit be? -/
import Derived.Test.YtmanafhdmijfeaaEd
namespace Go.Proofs.Ytmanafhdmijfeaa
open Go Go.RowKit

def mayB (e : Ed) : Bool := if e.kind = 3 then decide (e.n = 0) && !e.text.isEmpty else (decide (e.kind = 1) || decide (e.kind = 2)) && decide (0 < e.n) && e.text.isEmpty

set_option maxHeartbeats 400000 in
theorem may_any (e : Ed) (w : World) : Calls Try.prog 32 #[edV e] w fun x w' => x = .returned (.bool (mayB e)) ∧ Below w.heap.size w w' := by
  obtain ⟨kd, n, t⟩ := e
  unfold edV
  by_cases k3 : kd = 3
  · subst k3
    go_enter Try.func32, Try.ntmps32
    go_wp2_with fail
    all_goals
      go_ret
      refine ⟨?_, (Below.refl _ _).alloc (Nat.le_refl _) _⟩
      first | (simp [mayB, *]; done) | (simp [mayB, *]; intro h; omega) | (simp [mayB, *]; rw [sB_toList])
  · go_enter Try.func32, Try.ntmps32
    have b3 : (kd == 3) = false := by simpa using k3
    go_wp2_with fail
    all_goals
      go_ret
      refine ⟨?_, (Below.refl _ _).alloc (Nat.le_refl _) _⟩
      first | (simp [mayB, *]; done) | (simp [mayB, *]; intro h; omega) | (simp [mayB, *]; rw [sB_toList])
end Go.Proofs.Ytmanafhdmijfeaa
