/- The program's own contracts: Make, Apply, Cost, Invert. -/
import Derived.Test.YtmanafhdmijfeaaPAlong
import Derived.Test.YtmanafhdmijfeaaPInv
import Derived.Test.YtmanafhdmijfeaaPAppl
import Derived.Test.YtmanafhdmijfeaaDoes2
namespace Go.Proofs.Ytmanafhdmijfeaa
open Go Go.RowKit

set_option maxRecDepth 100000 in
set_option maxHeartbeats 2000000 in
theorem pmake_any (a b : List UInt8) (w : World) (_hal : a.length ≤ 4611686018427387904) (_hbl : b.length ≤ 4611686018427387904) : Calls Try.prog 12 #[.string (sB a), .string (sB b)] w (OwnEd (makeR a b).1 (makeR a b).2 w) := by
  have hsa := sB_size a
  have hsb := sB_size b
  by_cases ha : 1000 < a.length
  · rw [show makeR a b = ([], 3) from by unfold makeR; rw [if_pos (.inl ha)]]
    have hd : decide ((1000 : Int) < (a.length : Int)) = true := decide_eq_true (by omega)
    clear ha
    go_enter Try.func12, Try.ntmps12
    go_wp2_with fail
    go_ret2
    exact ⟨_, rfl, World.ownsRow_nil _ _ _ _, Below.refl _ _⟩
  by_cases hb : 1000 < b.length
  · rw [show makeR a b = ([], 3) from by unfold makeR; rw [if_pos (.inr hb)]]
    have hd0 : decide ((1000 : Int) < (a.length : Int)) = false := decide_eq_false (by omega)
    have hd : decide ((1000 : Int) < (b.length : Int)) = true := decide_eq_true (by omega)
    clear ha hb
    go_enter Try.func12, Try.ntmps12
    go_wp2_with fail
    go_ret2
    exact ⟨_, rfl, World.ownsRow_nil _ _ _ _, Below.refl _ _⟩
  rw [show makeR a b = (scriptS a b, 0) from by unfold makeR; rw [if_neg (by omega)]]
  have hd0 : decide ((1000 : Int) < (a.length : Int)) = false := decide_eq_false (by omega)
  have hd1 : decide ((1000 : Int) < (b.length : Int)) = false := decide_eq_false (by omega)
  have hb0 := below_alloc w (.cells #[.slice none 0 0] 22)
  have hlt : w.heap.size < (w.alloc (.cells #[.slice none 0 0] 22)).heap.size := by simp
  have HAL := Lib.hid (along_any a b (by omega) (by omega) w.heap.size _ _ (w.alloc (.cells #[.slice none 0 0] 22)) ⟨Blk.new w _ _, World.ownsRow_nil _ _ _ _, fun g hg => (by cases hg), hlt⟩ (Nat.le_refl _))
  have HB0 := Lib.hid hb0
  have hmf : ∀ (fn : Fn) (first cap : Array Value) (w : World), (Instr.makeFunc fn first cap).run Try.prog w = .ok (.func fn first cap) w := fun _ _ _ _ => rfl
  clear ha hb hb0
  go_enter Try.func12, Try.ntmps12
  go_wp2_with fail
  refine HAL.out.mono ?_; rintro e w1 ⟨rfl, hB1, v, T, hX⟩
  have HB1 := Lib.hid (HB0.out.trans hB1)
  have c0 := hX.blk.cell 0
  simp only [List.getElem?_toArray, List.getElem?_cons_zero] at c0
  have HX := Lib.hid hX
  clear hB1 hX
  go_wp2_with fail
  go_ret2
  exact ⟨v, rfl, HX.out.own, HB1.out⟩
theorem pcost_any (A : Option Addr) (c : Nat) (L : List Ed) (w : World) (h : Rd w w.heap.size A (L.length * 3) (ev L)) (hl : L.length ≤ 4611686018427387904) (_hc : L.length ≤ c ∧ c ≤ 9223372036854775807) :
    Calls Try.prog 18 #[.slice A L.length c] w fun x w' => x = .returned (costR L) ∧ Below w.heap.size w w' := pcost_all A c L w h hl
end Go.Proofs.Ytmanafhdmijfeaa
