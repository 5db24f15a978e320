/- The walk of DigestHexes. -/
import Derived.Test.YtkgkllpecpcgjaaDoorQuiet
namespace Go.Proofs.YtkgkllpecpcgjaaDoor
open Go Go.RowKit

theorem parse_length (s : List UInt8) : (Tx.parse s).1.length = 32 := by
  unfold Tx.parse
  split
  · exact Tx.pr_length s
  · simp

set_option maxRecDepth 100000 in
set_option maxHeartbeats 2000000 in
theorem digestHexes_walk (d : List UInt8) (s : ByteArray) (w : World) (hd : d.length = 32) (hk : KT w) :
    Calls Tryd.prog 5 #[.agg (bv d).toArray, .string s] w fun e w' => e = .returned (.bool true) ∧ Below w.heap.size w w' := by
  have HSD := Lib.hid ((bv_size d).trans hd)
  have HX1 := Lib.hid (fun W : World => phex_any d W hd)
  have HX2 := Lib.hid (fun W : World => rhex_any d W hd)
  have P1 := Lib.hid (fun W : World => pparse_any s W)
  have P2 := Lib.hid (fun W : World => rparse_any s W)
  have hzl := parse_length s.data.toList
  unfold ParseV at P1 P2
  have hEQ := run_eql_bytes (P := Tryd.prog) Tryd.underlying24 Tryd.underlying5 (by kernel_rfl) hzl hzl
  have HSZ := Lib.hid ((bv_size (Tx.parse s.data.toList).1).trans hzl)
  have HZA := Lib.hid (bv_all (Tx.parse s.data.toList).1)
  rw [show decide ((Tx.parse s.data.toList).1 = (Tx.parse s.data.toList).1) = true from decide_eq_true rfl] at hEQ
  generalize (bv (Tx.parse s.data.toList).1).toArray = Z at *
  generalize (Tx.parse s.data.toList).2 = ok at *
  generalize sB (Tx.hex d) = T at *
  have HK := Lib.hid hk
  have hglt := hk.lt
  have htt : (T.toList == T.toList) = true := beq_self_eq_true _
  have hoo : (ok == ok) = true := beq_self_eq_true _
  clear hd hk hzl
  generalize (bv d).toArray = X at *
  have hX0 : Blk (w.alloc (.cells X 24)) w.heap.size 24 X := Blk.new w _ _
  have hW0 : Below w.heap.size w (w.alloc (.cells X 24)) := (Below.refl _ _).alloc (Nat.le_refl _) _
  go_enter Tryd.func5, Tryd.ntmps5
  go_wp2_with fail
  refine (P1.out _).mono ?_; rintro e w1 ⟨rfl, hb1⟩
  have hX1 := hX0.later hb1
  have hB1 := hW0.trans (hb1.mono hW0.size)
  clear hX0 hW0 hb1
  go_wp2_with (refine at_sto 24 (.tmp 5) (.tmp 12) rfl ?_; go_must (refine wpList_store_row rfl 24 (.tmp 5) (.tmp 12) rfl _ Z rfl rfl _ _ (Blk.new w1 _ _) (by rw [HSZ.out]; exact infoD32) (by rw [HSZ.out]; rfl) HZA.out ?_; generalize hq : World.setRow _ _ _ = w2))
  have hlt1 := hX1.lt
  have hX2 : Blk w2 w.heap.size 24 X := hq ▸ (hX1.alloc _).farRow (by omega) _
  have hZ2 : Blk w2 w1.heap.size 24 Z := hq ▸ (Blk.new w1 _ _).row _
  have hB2 : Below w.heap.size w w2 := hq ▸ below_setRow (hB1.alloc hB1.size _) hB1.size _
  clear hq hX1 hB1
  generalize w1.heap.size = g1 at *
  refine (P2.out _).mono ?_; rintro e w3 ⟨rfl, hb3⟩
  have hX3 := hX2.later hb3
  have hZ3 := hZ2.later hb3
  have hB3 := hB2.trans (hb3.mono hB2.size)
  clear hX2 hZ2 hB2 hb3
  go_wp2_with (refine at_sto 24 (.tmp 7) (.tmp 17) rfl ?_; go_must (refine wpList_store_row rfl 24 (.tmp 7) (.tmp 17) rfl _ Z rfl rfl _ _ (Blk.new w3 _ _) (by rw [HSZ.out]; exact infoD32) (by rw [HSZ.out]; rfl) HZA.out ?_; generalize hq : World.setRow _ _ _ = w4))
  have hlt3 := hX3.lt
  have hlt4 := hZ3.lt
  have hX4 : Blk w4 w.heap.size 24 X := hq ▸ (hX3.alloc _).farRow (by omega) _
  have hZ4 : Blk w4 g1 24 Z := hq ▸ (hZ3.alloc _).farRow (by omega) _
  have hY4 : Blk w4 w3.heap.size 24 Z := hq ▸ (Blk.new w3 _ _).row _
  have hB4 : Below w.heap.size w w4 := hq ▸ below_setRow (hB3.alloc hB3.size _) hB3.size _
  clear hq hX3 hZ3 hB3
  generalize w3.heap.size = g3 at *
  have hK4 := HK.out.below hB4 hglt
  have AL := Lib.hid (fun u : Grw w4 => alive_any u.val (hK4.grw u))
  refine wp_region_grow (by kernel_rfl) (by kernel_rfl) ?_
  refine quiet_load_row (by rfl) 24 (.tmp 2) rfl w.heap.size rfl _ X hX4.grw _ Tryd.underlying24 rfl (by rw [HSD.out]; exact infoD32) ?_; go_simp
  go_big_quiet_step ((go_at_call 15; exact grow_call (HX1.out _)))
  refine quiet_load_row (by rfl) 24 (.tmp 2) rfl w.heap.size rfl _ X hX4.grw _ Tryd.underlying24 rfl (by rw [HSD.out]; exact infoD32) ?_; go_simp
  go_big_quiet_step ((go_at_call 18; exact grow_call (HX2.out _)))
  go_big_quiet_step (fail)
  go_big_quiet_step (fail)
  refine quiet_load_row (by rfl) 24 (.tmp 5) rfl g1 rfl _ Z hZ4.grw _ Tryd.underlying24 rfl (by rw [HSZ.out]; exact infoD32) ?_; go_simp
  refine quiet_load_row (by rfl) 24 (.tmp 7) rfl g3 rfl _ Z hY4.grw _ Tryd.underlying24 rfl (by rw [HSZ.out]; exact infoD32) ?_; go_simp
  go_big_quiet_step (fail)
  go_big_quiet_step (fail)
  go_big_quiet_step (fail)
  go_big_quiet_step (fail)
  go_big_quiet_step (fail)
  go_big_quiet_step (fail)
  go_big_quiet_step (fail)
  go_big_quiet_step (fail)
  go_big_quiet_step ((go_at_call 14; exact grow_call (AL.out _)))
  go_big_quiet_step (fail)
  go_big_quiet_step (fail)
  refine wpQuiet_nil ?_
  first | (intro _ hw'; obtain ⟨u, hw''⟩ := hw'; subst hw'') | intro u
  have hu : Below w4.heap.size w4 u.val := u.prop
  go_wp2_with fail
  go_ret
  exact ⟨rfl, hB4.trans (hu.mono hB4.size)⟩
end Go.Proofs.YtkgkllpecpcgjaaDoor
