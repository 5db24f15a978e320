/- The walk of DigestOrders. -/
import Derived.Test.YtkgkllpecpcgjaaDoorQuiet
namespace Go.Proofs.YtkgkllpecpcgjaaDoor
open Go Go.RowKit

set_option maxRecDepth 100000 in
set_option maxHeartbeats 2000000 in
theorem digestOrders_walk (a b : List UInt8) (w : World) (ha : a.length = 32) (hb : b.length = 32) (hk : KT w) :
    Calls Tryd.prog 6 #[.agg (bv a).toArray, .agg (bv b).toArray] w fun e w' => e = .returned (.bool true) ∧ Below w.heap.size w w' := by
  have HSA := Lib.hid ((bv_size a).trans ha)
  have HSB := Lib.hid ((bv_size b).trans hb)
  have HL := Lib.hid (fun W : World => pless_any a b W ha hb)
  have HR := Lib.hid (fun W : World => rless_any a b W ha hb)
  have HK := Lib.hid hk
  have hglt := hk.lt
  clear ha hb hk
  generalize Tx.less a b = r at *
  generalize (bv a).toArray = X at *
  generalize (bv b).toArray = Y at *
  have s1 : (w.alloc (.cells X 24)).heap.size = w.heap.size + 1 := by simp
  have hX0 : Blk ((w.alloc (.cells X 24)).alloc (.cells Y 24)) w.heap.size 24 X := (Blk.new w _ _).alloc _
  have hY0 : Blk ((w.alloc (.cells X 24)).alloc (.cells Y 24)) (w.heap.size + 1) 24 Y := s1 ▸ Blk.new (w.alloc (.cells X 24)) 24 Y
  have hW0 : Below w.heap.size w ((w.alloc (.cells X 24)).alloc (.cells Y 24)) := ((Below.refl _ _).alloc (Nat.le_refl _) _).alloc (by simp) _
  have hK0 := HK.out.below hW0 hglt
  have hrr : (r == r) = true := beq_self_eq_true r
  clear s1
  go_enter Tryd.func6, Tryd.ntmps6
  go_wp2_with fail
  generalize (w.alloc (.cells X 24)).alloc (.cells Y 24) = wa at *
  have AL := Lib.hid (fun u : Grw wa => alive_any u.val (hK0.grw u))
  refine wp_region_grow (by kernel_rfl) (by kernel_rfl) ?_
  refine quiet_load_row (by rfl) 24 (.tmp 2) rfl w.heap.size rfl _ X hX0.grw _ Tryd.underlying24 rfl (by rw [HSA.out]; exact infoD32) ?_; go_simp
  refine quiet_load_row (by rfl) 24 (.tmp 3) rfl (w.heap.size + 1) rfl _ Y hY0.grw _ Tryd.underlying24 rfl (by rw [HSB.out]; exact infoD32) ?_; go_simp
  go_big_quiet_step ((go_at_call 19; exact grow_call (HL.out _)))
  refine quiet_load_row (by rfl) 24 (.tmp 2) rfl w.heap.size rfl _ X hX0.grw _ Tryd.underlying24 rfl (by rw [HSA.out]; exact infoD32) ?_; go_simp
  refine quiet_load_row (by rfl) 24 (.tmp 3) rfl (w.heap.size + 1) rfl _ Y hY0.grw _ Tryd.underlying24 rfl (by rw [HSB.out]; exact infoD32) ?_; go_simp
  go_big_quiet_step ((go_at_call 20; exact grow_call (HR.out _)))
  go_big_quiet_step (fail)
  go_big_quiet_step (fail)
  go_big_quiet_step ((go_at_call 14; exact grow_call (AL.out _)))
  go_big_quiet_step (fail)
  go_big_quiet_step (fail)
  refine wpQuiet_nil ?_
  first | (intro _ hw'; obtain ⟨u, hw''⟩ := hw'; subst hw'') | intro u
  have hu : Below wa.heap.size wa u.val := u.prop
  go_wp2_with fail
  go_ret
  exact ⟨rfl, hW0.trans (hu.mono hW0.size)⟩
end Go.Proofs.YtkgkllpecpcgjaaDoor
