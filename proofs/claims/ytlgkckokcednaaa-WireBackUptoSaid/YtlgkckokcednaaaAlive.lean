/- The contract of alive: what must come does come. -/
import Derived.Test.YtlgkckokcednaaaHeld
namespace Go.Proofs.Ytlgkckokcednaaa
open Go Go.RowKit

theorem num_300 : Wi.num 300 = [172, 2] := by rw [Wi.num_big (by decide), Wi.num_small (by decide)]; rfl
theorem get_300 : Wi.getNum [172, 2, 7] 0 = (300, 2, 0) := by decide
theorem get_form : Wi.getNum [128, 0] 0 = (0, 0, 7) := by decide

theorem new_rd (w : World) (l : List UInt8) (cs : Array Value) (h : cs = (bv l).toArray) : Rd (w.alloc (.cells cs 5)) (w.heap.size + 1) (some ⟨w.heap.size, 0, none⟩) l.length (bv l) := by
  subst h
  exact ⟨bv_length l, fun _ => ⟨_, rfl, Nat.lt_succ_self _, World.news_of_block (heap_alloc_new w _)⟩⟩

theorem get300_any (W : World) (b : Nat) (hr : Rd W (b + 1) (some ⟨b, 0, none⟩) 3 (bv [172, 2, 7])) : Calls Try.prog 16 #[.slice (some ⟨b, 0, none⟩) 3 3, .int .i64 0] W fun e w' => e = .returned (.tuple #[.int .i64 300, .int .i64 2, .int .i64 0]) ∧ W = w' := by
  have h := getNum_any (some ⟨b, 0, none⟩) 3 (b + 1) 0 [172, 2, 7] W hr (Nat.le_refl _) (by decide)
  rw [get_300] at h
  exact h

theorem getForm_any (W : World) (b : Nat) (hr : Rd W (b + 1) (some ⟨b, 0, none⟩) 2 (bv [128, 0])) : Calls Try.prog 16 #[.slice (some ⟨b, 0, none⟩) 2 2, .int .i64 0] W fun e w' => e = .returned (.tuple #[.int .i64 0, .int .i64 0, .int .i64 7]) ∧ W = w' := by
  have h := getNum_any (some ⟨b, 0, none⟩) 2 (b + 1) 0 [128, 0] W hr (Nat.le_refl _) (by decide)
  rw [get_form] at h
  exact h

/-- The worlds in the midst of alive. -/
def aliveW (w : World) : World := w.alloc (.cells #[.int .u8 172, .int .u8 2, .int .u8 7] 5)
def aliveX (w : World) : World := (w.alloc (.cells #[.int .u8 172, .int .u8 2, .int .u8 7] 5)).alloc (.cells #[.int .u8 128, .int .u8 0] 5)
theorem aliveW_rd (w : World) : Rd (aliveW w) (w.heap.size + 1) (some ⟨w.heap.size, 0, none⟩) 3 (bv [172, 2, 7]) := new_rd w [172, 2, 7] _ rfl
theorem aliveX_rd (w : World) : Rd (aliveX w) (w.heap.size + 1 + 1) (some ⟨w.heap.size + 1, 0, none⟩) 2 (bv [128, 0]) := by
  have h := new_rd (aliveW w) [128, 0] _ rfl
  have e : (aliveW w).heap.size = w.heap.size + 1 := by unfold aliveW; simp
  rw [e] at h
  exact h

set_option maxRecDepth 100000 in
set_option maxHeartbeats 400000 in
theorem alive_any (w : World) : Calls Try.prog 13 #[] w (Ret (.bool true) w) := by
  have C := Lib.hid (num_any 300 w (by decide))
  rw [num_300] at C
  go_enter Try.func13, Try.ntmps13
  go_wp2_with fail
  refine C.out.mono ?_; rintro e w1 ⟨A, c, rfl, hc, hr, hb1⟩
  have h1 : Rd (w1.alloc (.cells #[.int .u8 172, .int .u8 2, .int .u8 7] 5)) w1.heap.size A 2 (bv [172, 2]) := hr.alloc (Nat.le_refl _) _
  have h2 := h1.alloc (o := .cells #[.int .u8 128, .int .u8 0] 5) (by simp)
  have hcv := h2.str (P := Try.prog) c Try.underlying22 Try.underlying5 Try.underlying9
  clear h1 h2 hr hc
  go_wp2_with fail
  refine (get300_any _ _ (aliveW_rd w1)).mono ?_; rintro e w2 ⟨rfl, rfl⟩
  unfold aliveW
  go_wp2_with fail
  refine (getForm_any _ _ (aliveX_rd w1)).mono ?_; rintro e w2 ⟨rfl, rfl⟩
  unfold aliveX
  go_wp2_with fail
  go_ret
  exact ⟨rfl, (hb1.alloc hb1.size _).alloc (by have := hb1.size; simp; omega) _⟩
end Go.Proofs.Ytlgkckokcednaaa
