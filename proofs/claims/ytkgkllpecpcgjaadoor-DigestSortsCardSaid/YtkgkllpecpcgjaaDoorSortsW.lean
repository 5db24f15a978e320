/- The walk of DigestSorts. -/
import Derived.Test.YtkgkllpecpcgjaaDoorQuiet
namespace Go.Proofs.YtkgkllpecpcgjaaDoor
open Go Go.RowKit

set_option maxRecDepth 100000 in
set_option maxHeartbeats 2000000 in
theorem sorts_ff (a b c : List UInt8) (w : World) (ha : a.length = 32) (hb : b.length = 32) (hc : c.length = 32) (hk : KT w)
    (hp : Tx.less a b = false) (hq : Tx.less b a = false) (he : (!decide (a = b)) = false) :
    Calls Tryd.prog 9 #[.agg (bv a).toArray, .agg (bv b).toArray, .agg (bv c).toArray] w fun e w' => e = .returned (.bool true) ∧ Below w.heap.size w w' := by
  have HSA := Lib.hid ((bv_size a).trans ha)
  have HSB := Lib.hid ((bv_size b).trans hb)
  have HSC := Lib.hid ((bv_size c).trans hc)
  have L1 := Lib.hid (fun W : World => pless_any a b W ha hb)
  have L2 := Lib.hid (fun W : World => pless_any b a W hb ha)
  have L3 := Lib.hid (fun W : World => pless_any b c W hb hc)
  have L4 := Lib.hid (fun W : World => pless_any a c W ha hc)
  have hNE := run_neq_bytes (P := Tryd.prog) Tryd.underlying24 Tryd.underlying5 (by kernel_rfl) ha hb
  rw [hp] at L1
  rw [hq] at L2
  rw [he] at hNE
  have HK := Lib.hid hk
  have hglt := hk.lt
  clear ha hb hc hk hp hq he
  generalize (bv a).toArray = X at *
  generalize (bv b).toArray = Y at *
  generalize (bv c).toArray = Z at *
  have s1 : (w.alloc (.cells X 24)).heap.size = w.heap.size + 1 := by simp
  have s2 : ((w.alloc (.cells X 24)).alloc (.cells Y 24)).heap.size = w.heap.size + 1 + 1 := by simp
  have hX0 : Blk (((w.alloc (.cells X 24)).alloc (.cells Y 24)).alloc (.cells Z 24)) w.heap.size 24 X := ((Blk.new w _ _).alloc _).alloc _
  have hY0 : Blk (((w.alloc (.cells X 24)).alloc (.cells Y 24)).alloc (.cells Z 24)) (w.heap.size + 1) 24 Y := s1 ▸ (Blk.new (w.alloc (.cells X 24)) 24 Y).alloc _
  have hZ0 : Blk (((w.alloc (.cells X 24)).alloc (.cells Y 24)).alloc (.cells Z 24)) (w.heap.size + 1 + 1) 24 Z := s2 ▸ Blk.new ((w.alloc (.cells X 24)).alloc (.cells Y 24)) 24 Z
  have hW0 : Below w.heap.size w (((w.alloc (.cells X 24)).alloc (.cells Y 24)).alloc (.cells Z 24)) := (((Below.refl _ _).alloc (Nat.le_refl _) _).alloc (by simp) _).alloc (by simp; omega) _
  clear s1 s2
  go_enter Tryd.func9, Tryd.ntmps9
  go_wp2_with fail
  generalize ((w.alloc (.cells X 24)).alloc (.cells Y 24)).alloc (.cells Z 24) = wa at *
  refine wp_region_grow (by kernel_rfl) (by kernel_rfl) ?_
  refine quiet_load_row (by rfl) 24 (.tmp 3) rfl (w.heap.size) rfl _ X hX0.grw _ Tryd.underlying24 rfl (by rw [HSA.out]; exact infoD32) ?_; go_simp
  refine quiet_load_row (by rfl) 24 (.tmp 4) rfl (w.heap.size + 1) rfl _ Y hY0.grw _ Tryd.underlying24 rfl (by rw [HSB.out]; exact infoD32) ?_; go_simp
  go_big_quiet_step ((go_at_call 19; exact grow_call (L1.out _)))
  refine quiet_load_row (by rfl) 24 (.tmp 4) rfl (w.heap.size + 1) rfl _ Y hY0.grw _ Tryd.underlying24 rfl (by rw [HSB.out]; exact infoD32) ?_; go_simp
  refine quiet_load_row (by rfl) 24 (.tmp 3) rfl (w.heap.size) rfl _ X hX0.grw _ Tryd.underlying24 rfl (by rw [HSA.out]; exact infoD32) ?_; go_simp
  go_big_quiet_step ((go_at_call 19; exact grow_call (L2.out _)))
  go_big_quiet_step (fail)
  go_big_quiet_step (fail)
  refine wpQuiet_nil ?_
  first | (intro _ hw'; obtain ⟨u, hw''⟩ := hw'; subst hw'') | intro u
  have hX1 := hX0.grw u
  have hY1 := hY0.grw u
  have hZ1 := hZ0.grw u
  have hB1 := hW0.trans (u.prop.mono hW0.size)
  clear hX0 hY0 hZ0 hW0
  generalize u.val = w1 at *
  go_wp2_with (first
    | (refine at_dst 25 rfl ?_; go_must (refine wpList_load_row_g (by rfl) 24 (.tmp 3) rfl _ rfl _ _ _ (hX1) Tryd.underlying24 rfl (by rw [HSA.out]; exact infoD32) ?_))
    | (refine at_dst 26 rfl ?_; go_must (refine wpList_load_row_g (by rfl) 24 (.tmp 4) rfl _ rfl _ _ _ (hY1) Tryd.underlying24 rfl (by rw [HSB.out]; exact infoD32) ?_))
    | (go_at_call 14; refine (alive_any _ (HK.out.below hB1 hglt)).mono ?_; rintro e w9 ⟨rfl, hb9⟩; have hB9 := hB1.trans (hb9.mono hB1.size)))
  go_ret
  exact ⟨rfl, hB9⟩

set_option maxRecDepth 100000 in
set_option maxHeartbeats 2000000 in
theorem sorts_ft (a b c : List UInt8) (w : World) (ha : a.length = 32) (hb : b.length = 32) (hc : c.length = 32) (hk : KT w)
    (hp : Tx.less a b = false) (hq : Tx.less b a = true) (he : (!decide (a = b)) = true) :
    Calls Tryd.prog 9 #[.agg (bv a).toArray, .agg (bv b).toArray, .agg (bv c).toArray] w fun e w' => e = .returned (.bool true) ∧ Below w.heap.size w w' := by
  have HSA := Lib.hid ((bv_size a).trans ha)
  have HSB := Lib.hid ((bv_size b).trans hb)
  have HSC := Lib.hid ((bv_size c).trans hc)
  have L1 := Lib.hid (fun W : World => pless_any a b W ha hb)
  have L2 := Lib.hid (fun W : World => pless_any b a W hb ha)
  have L3 := Lib.hid (fun W : World => pless_any b c W hb hc)
  have L4 := Lib.hid (fun W : World => pless_any a c W ha hc)
  have hNE := run_neq_bytes (P := Tryd.prog) Tryd.underlying24 Tryd.underlying5 (by kernel_rfl) ha hb
  rw [hp] at L1
  rw [hq] at L2
  rw [he] at hNE
  have HK := Lib.hid hk
  have hglt := hk.lt
  clear ha hb hc hk hp hq he
  generalize (bv a).toArray = X at *
  generalize (bv b).toArray = Y at *
  generalize (bv c).toArray = Z at *
  have s1 : (w.alloc (.cells X 24)).heap.size = w.heap.size + 1 := by simp
  have s2 : ((w.alloc (.cells X 24)).alloc (.cells Y 24)).heap.size = w.heap.size + 1 + 1 := by simp
  have hX0 : Blk (((w.alloc (.cells X 24)).alloc (.cells Y 24)).alloc (.cells Z 24)) w.heap.size 24 X := ((Blk.new w _ _).alloc _).alloc _
  have hY0 : Blk (((w.alloc (.cells X 24)).alloc (.cells Y 24)).alloc (.cells Z 24)) (w.heap.size + 1) 24 Y := s1 ▸ (Blk.new (w.alloc (.cells X 24)) 24 Y).alloc _
  have hZ0 : Blk (((w.alloc (.cells X 24)).alloc (.cells Y 24)).alloc (.cells Z 24)) (w.heap.size + 1 + 1) 24 Z := s2 ▸ Blk.new ((w.alloc (.cells X 24)).alloc (.cells Y 24)) 24 Z
  have hW0 : Below w.heap.size w (((w.alloc (.cells X 24)).alloc (.cells Y 24)).alloc (.cells Z 24)) := (((Below.refl _ _).alloc (Nat.le_refl _) _).alloc (by simp) _).alloc (by simp; omega) _
  clear s1 s2
  go_enter Tryd.func9, Tryd.ntmps9
  go_wp2_with fail
  generalize ((w.alloc (.cells X 24)).alloc (.cells Y 24)).alloc (.cells Z 24) = wa at *
  refine wp_region_grow (by kernel_rfl) (by kernel_rfl) ?_
  refine quiet_load_row (by rfl) 24 (.tmp 3) rfl (w.heap.size) rfl _ X hX0.grw _ Tryd.underlying24 rfl (by rw [HSA.out]; exact infoD32) ?_; go_simp
  refine quiet_load_row (by rfl) 24 (.tmp 4) rfl (w.heap.size + 1) rfl _ Y hY0.grw _ Tryd.underlying24 rfl (by rw [HSB.out]; exact infoD32) ?_; go_simp
  go_big_quiet_step ((go_at_call 19; exact grow_call (L1.out _)))
  refine quiet_load_row (by rfl) 24 (.tmp 4) rfl (w.heap.size + 1) rfl _ Y hY0.grw _ Tryd.underlying24 rfl (by rw [HSB.out]; exact infoD32) ?_; go_simp
  refine quiet_load_row (by rfl) 24 (.tmp 3) rfl (w.heap.size) rfl _ X hX0.grw _ Tryd.underlying24 rfl (by rw [HSA.out]; exact infoD32) ?_; go_simp
  go_big_quiet_step ((go_at_call 19; exact grow_call (L2.out _)))
  go_big_quiet_step (fail)
  go_big_quiet_step (fail)
  refine wpQuiet_nil ?_
  first | (intro _ hw'; obtain ⟨u, hw''⟩ := hw'; subst hw'') | intro u
  have hX1 := hX0.grw u
  have hY1 := hY0.grw u
  have hZ1 := hZ0.grw u
  have hB1 := hW0.trans (u.prop.mono hW0.size)
  clear hX0 hY0 hZ0 hW0
  generalize u.val = w1 at *
  go_wp2_with (first
    | (refine at_dst 25 rfl ?_; go_must (refine wpList_load_row_g (by rfl) 24 (.tmp 3) rfl _ rfl _ _ _ (hX1) Tryd.underlying24 rfl (by rw [HSA.out]; exact infoD32) ?_))
    | (refine at_dst 26 rfl ?_; go_must (refine wpList_load_row_g (by rfl) 24 (.tmp 4) rfl _ rfl _ _ _ (hY1) Tryd.underlying24 rfl (by rw [HSB.out]; exact infoD32) ?_))
    | (go_at_call 14; refine (alive_any _ (HK.out.below hB1 hglt)).mono ?_; rintro e w9 ⟨rfl, hb9⟩; have hB9 := hB1.trans (hb9.mono hB1.size)))
  go_ret
  exact ⟨rfl, hB9⟩

set_option maxRecDepth 100000 in
set_option maxHeartbeats 2000000 in
theorem sorts_tf (a b c : List UInt8) (w : World) (ha : a.length = 32) (hb : b.length = 32) (hc : c.length = 32) (hk : KT w)
    (hp : Tx.less a b = true) (hq : Tx.less b a = false) (he : (!decide (a = b)) = true) (hr : Tx.less b c = false) :
    Calls Tryd.prog 9 #[.agg (bv a).toArray, .agg (bv b).toArray, .agg (bv c).toArray] w fun e w' => e = .returned (.bool true) ∧ Below w.heap.size w w' := by
  have HSA := Lib.hid ((bv_size a).trans ha)
  have HSB := Lib.hid ((bv_size b).trans hb)
  have HSC := Lib.hid ((bv_size c).trans hc)
  have L1 := Lib.hid (fun W : World => pless_any a b W ha hb)
  have L2 := Lib.hid (fun W : World => pless_any b a W hb ha)
  have L3 := Lib.hid (fun W : World => pless_any b c W hb hc)
  have L4 := Lib.hid (fun W : World => pless_any a c W ha hc)
  have hNE := run_neq_bytes (P := Tryd.prog) Tryd.underlying24 Tryd.underlying5 (by kernel_rfl) ha hb
  rw [hp] at L1
  rw [hq] at L2
  rw [he] at hNE
  rw [hr] at L3
  clear hr
  have HK := Lib.hid hk
  have hglt := hk.lt
  clear ha hb hc hk hp hq he
  generalize (bv a).toArray = X at *
  generalize (bv b).toArray = Y at *
  generalize (bv c).toArray = Z at *
  have s1 : (w.alloc (.cells X 24)).heap.size = w.heap.size + 1 := by simp
  have s2 : ((w.alloc (.cells X 24)).alloc (.cells Y 24)).heap.size = w.heap.size + 1 + 1 := by simp
  have hX0 : Blk (((w.alloc (.cells X 24)).alloc (.cells Y 24)).alloc (.cells Z 24)) w.heap.size 24 X := ((Blk.new w _ _).alloc _).alloc _
  have hY0 : Blk (((w.alloc (.cells X 24)).alloc (.cells Y 24)).alloc (.cells Z 24)) (w.heap.size + 1) 24 Y := s1 ▸ (Blk.new (w.alloc (.cells X 24)) 24 Y).alloc _
  have hZ0 : Blk (((w.alloc (.cells X 24)).alloc (.cells Y 24)).alloc (.cells Z 24)) (w.heap.size + 1 + 1) 24 Z := s2 ▸ Blk.new ((w.alloc (.cells X 24)).alloc (.cells Y 24)) 24 Z
  have hW0 : Below w.heap.size w (((w.alloc (.cells X 24)).alloc (.cells Y 24)).alloc (.cells Z 24)) := (((Below.refl _ _).alloc (Nat.le_refl _) _).alloc (by simp) _).alloc (by simp; omega) _
  clear s1 s2
  go_enter Tryd.func9, Tryd.ntmps9
  go_wp2_with fail
  generalize ((w.alloc (.cells X 24)).alloc (.cells Y 24)).alloc (.cells Z 24) = wa at *
  refine wp_region_grow (by kernel_rfl) (by kernel_rfl) ?_
  refine quiet_load_row (by rfl) 24 (.tmp 3) rfl (w.heap.size) rfl _ X hX0.grw _ Tryd.underlying24 rfl (by rw [HSA.out]; exact infoD32) ?_; go_simp
  refine quiet_load_row (by rfl) 24 (.tmp 4) rfl (w.heap.size + 1) rfl _ Y hY0.grw _ Tryd.underlying24 rfl (by rw [HSB.out]; exact infoD32) ?_; go_simp
  go_big_quiet_step ((go_at_call 19; exact grow_call (L1.out _)))
  refine quiet_load_row (by rfl) 24 (.tmp 4) rfl (w.heap.size + 1) rfl _ Y hY0.grw _ Tryd.underlying24 rfl (by rw [HSB.out]; exact infoD32) ?_; go_simp
  refine quiet_load_row (by rfl) 24 (.tmp 3) rfl (w.heap.size) rfl _ X hX0.grw _ Tryd.underlying24 rfl (by rw [HSA.out]; exact infoD32) ?_; go_simp
  go_big_quiet_step ((go_at_call 19; exact grow_call (L2.out _)))
  go_big_quiet_step (fail)
  go_big_quiet_step (fail)
  refine wpQuiet_nil ?_
  first | (intro _ hw'; obtain ⟨u, hw''⟩ := hw'; subst hw'') | intro u
  have hX1 := hX0.grw u
  have hY1 := hY0.grw u
  have hZ1 := hZ0.grw u
  have hB1 := hW0.trans (u.prop.mono hW0.size)
  clear hX0 hY0 hZ0 hW0
  generalize u.val = w1 at *
  go_wp2_with (first
    | (refine at_dst 25 rfl ?_; go_must (refine wpList_load_row_g (by rfl) 24 (.tmp 3) rfl _ rfl _ _ _ (hX1) Tryd.underlying24 rfl (by rw [HSA.out]; exact infoD32) ?_))
    | (refine at_dst 26 rfl ?_; go_must (refine wpList_load_row_g (by rfl) 24 (.tmp 4) rfl _ rfl _ _ _ (hY1) Tryd.underlying24 rfl (by rw [HSB.out]; exact infoD32) ?_))
    | (refine at_dst 34 rfl ?_; go_must (refine wpList_load_row_g (by rfl) 24 (.tmp 4) rfl _ rfl _ _ _ (hY1) Tryd.underlying24 rfl (by rw [HSB.out]; exact infoD32) ?_))
    | (refine at_dst 35 rfl ?_; go_must (refine wpList_load_row_g (by rfl) 24 (.tmp 5) rfl _ rfl _ _ _ (hZ1) Tryd.underlying24 rfl (by rw [HSC.out]; exact infoD32) ?_))
    | (go_at_call_of 19 (Value.agg Y); refine (L3.out _).mono ?_; rintro e w2 ⟨rfl, hb2⟩; have hB2 := hB1.trans (hb2.mono hB1.size); have hX2 := hX1.later hb2; have hZ2 := hZ1.later hb2)
    | (go_at_call 14; refine (alive_any _ (HK.out.below hB2 hglt)).mono ?_; rintro e w9 ⟨rfl, hb9⟩; have hB9 := hB2.trans (hb9.mono hB2.size)))
  go_ret
  exact ⟨rfl, hB9⟩

set_option maxRecDepth 100000 in
set_option maxHeartbeats 2000000 in
theorem sorts_tt (a b c : List UInt8) (w : World) (ha : a.length = 32) (hb : b.length = 32) (hc : c.length = 32) (hk : KT w)
    (hp : Tx.less a b = true) (hq : Tx.less b a = false) (he : (!decide (a = b)) = true) (hr : Tx.less b c = true) (ht : Tx.less a c = true) :
    Calls Tryd.prog 9 #[.agg (bv a).toArray, .agg (bv b).toArray, .agg (bv c).toArray] w fun e w' => e = .returned (.bool true) ∧ Below w.heap.size w w' := by
  have HSA := Lib.hid ((bv_size a).trans ha)
  have HSB := Lib.hid ((bv_size b).trans hb)
  have HSC := Lib.hid ((bv_size c).trans hc)
  have L1 := Lib.hid (fun W : World => pless_any a b W ha hb)
  have L2 := Lib.hid (fun W : World => pless_any b a W hb ha)
  have L3 := Lib.hid (fun W : World => pless_any b c W hb hc)
  have L4 := Lib.hid (fun W : World => pless_any a c W ha hc)
  have hNE := run_neq_bytes (P := Tryd.prog) Tryd.underlying24 Tryd.underlying5 (by kernel_rfl) ha hb
  rw [hp] at L1
  rw [hq] at L2
  rw [he] at hNE
  rw [hr] at L3
  clear hr
  rw [ht] at L4
  clear ht
  have HK := Lib.hid hk
  have hglt := hk.lt
  clear ha hb hc hk hp hq he
  generalize (bv a).toArray = X at *
  generalize (bv b).toArray = Y at *
  generalize (bv c).toArray = Z at *
  have s1 : (w.alloc (.cells X 24)).heap.size = w.heap.size + 1 := by simp
  have s2 : ((w.alloc (.cells X 24)).alloc (.cells Y 24)).heap.size = w.heap.size + 1 + 1 := by simp
  have hX0 : Blk (((w.alloc (.cells X 24)).alloc (.cells Y 24)).alloc (.cells Z 24)) w.heap.size 24 X := ((Blk.new w _ _).alloc _).alloc _
  have hY0 : Blk (((w.alloc (.cells X 24)).alloc (.cells Y 24)).alloc (.cells Z 24)) (w.heap.size + 1) 24 Y := s1 ▸ (Blk.new (w.alloc (.cells X 24)) 24 Y).alloc _
  have hZ0 : Blk (((w.alloc (.cells X 24)).alloc (.cells Y 24)).alloc (.cells Z 24)) (w.heap.size + 1 + 1) 24 Z := s2 ▸ Blk.new ((w.alloc (.cells X 24)).alloc (.cells Y 24)) 24 Z
  have hW0 : Below w.heap.size w (((w.alloc (.cells X 24)).alloc (.cells Y 24)).alloc (.cells Z 24)) := (((Below.refl _ _).alloc (Nat.le_refl _) _).alloc (by simp) _).alloc (by simp; omega) _
  clear s1 s2
  go_enter Tryd.func9, Tryd.ntmps9
  go_wp2_with fail
  generalize ((w.alloc (.cells X 24)).alloc (.cells Y 24)).alloc (.cells Z 24) = wa at *
  refine wp_region_grow (by kernel_rfl) (by kernel_rfl) ?_
  refine quiet_load_row (by rfl) 24 (.tmp 3) rfl (w.heap.size) rfl _ X hX0.grw _ Tryd.underlying24 rfl (by rw [HSA.out]; exact infoD32) ?_; go_simp
  refine quiet_load_row (by rfl) 24 (.tmp 4) rfl (w.heap.size + 1) rfl _ Y hY0.grw _ Tryd.underlying24 rfl (by rw [HSB.out]; exact infoD32) ?_; go_simp
  go_big_quiet_step ((go_at_call 19; exact grow_call (L1.out _)))
  refine quiet_load_row (by rfl) 24 (.tmp 4) rfl (w.heap.size + 1) rfl _ Y hY0.grw _ Tryd.underlying24 rfl (by rw [HSB.out]; exact infoD32) ?_; go_simp
  refine quiet_load_row (by rfl) 24 (.tmp 3) rfl (w.heap.size) rfl _ X hX0.grw _ Tryd.underlying24 rfl (by rw [HSA.out]; exact infoD32) ?_; go_simp
  go_big_quiet_step ((go_at_call 19; exact grow_call (L2.out _)))
  go_big_quiet_step (fail)
  go_big_quiet_step (fail)
  refine wpQuiet_nil ?_
  first | (intro _ hw'; obtain ⟨u, hw''⟩ := hw'; subst hw'') | intro u
  have hX1 := hX0.grw u
  have hY1 := hY0.grw u
  have hZ1 := hZ0.grw u
  have hB1 := hW0.trans (u.prop.mono hW0.size)
  clear hX0 hY0 hZ0 hW0
  generalize u.val = w1 at *
  go_wp2_with (first
    | (refine at_dst 25 rfl ?_; go_must (refine wpList_load_row_g (by rfl) 24 (.tmp 3) rfl _ rfl _ _ _ (hX1) Tryd.underlying24 rfl (by rw [HSA.out]; exact infoD32) ?_))
    | (refine at_dst 26 rfl ?_; go_must (refine wpList_load_row_g (by rfl) 24 (.tmp 4) rfl _ rfl _ _ _ (hY1) Tryd.underlying24 rfl (by rw [HSB.out]; exact infoD32) ?_))
    | (refine at_dst 34 rfl ?_; go_must (refine wpList_load_row_g (by rfl) 24 (.tmp 4) rfl _ rfl _ _ _ (hY1) Tryd.underlying24 rfl (by rw [HSB.out]; exact infoD32) ?_))
    | (refine at_dst 35 rfl ?_; go_must (refine wpList_load_row_g (by rfl) 24 (.tmp 5) rfl _ rfl _ _ _ (hZ1) Tryd.underlying24 rfl (by rw [HSC.out]; exact infoD32) ?_))
    | (go_at_call_of 19 (Value.agg Y); refine (L3.out _).mono ?_; rintro e w2 ⟨rfl, hb2⟩; have hB2 := hB1.trans (hb2.mono hB1.size); have hX2 := hX1.later hb2; have hZ2 := hZ1.later hb2)
    | (refine at_dst 40 rfl ?_; go_must (refine wpList_load_row_g (by rfl) 24 (.tmp 3) rfl _ rfl _ _ _ (hX2) Tryd.underlying24 rfl (by rw [HSA.out]; exact infoD32) ?_))
    | (refine at_dst 41 rfl ?_; go_must (refine wpList_load_row_g (by rfl) 24 (.tmp 5) rfl _ rfl _ _ _ (hZ2) Tryd.underlying24 rfl (by rw [HSC.out]; exact infoD32) ?_))
    | (go_at_call_of 19 (Value.agg X); refine (L4.out _).mono ?_; rintro e w3 ⟨rfl, hb3⟩; have hB3 := hB2.trans (hb3.mono hB2.size))
    | (go_at_call 14; refine (alive_any _ (HK.out.below hB3 hglt)).mono ?_; rintro e w9 ⟨rfl, hb9⟩; have hB9 := hB3.trans (hb9.mono hB3.size)))
  go_ret
  exact ⟨rfl, hB9⟩

theorem digestSorts_walk (a b c : List UInt8) (w : World) (ha : a.length = 32) (hb : b.length = 32) (hc : c.length = 32) (hk : KT w) :
    Calls Tryd.prog 9 #[.agg (bv a).toArray, .agg (bv b).toArray, .agg (bv c).toArray] w fun e w' => e = .returned (.bool true) ∧ Below w.heap.size w w' := by
  have h1 := Tx.less_both a b
  have h2 := Tx.less_one a b (ha.trans hb.symm)
  have h3 := Tx.less_trans a b c
  have h4 : (a != b) = !decide (a = b) := by by_cases h : a = b <;> simp [h]
  rw [h4] at h2
  clear h4
  cases hp : Tx.less a b
  · rw [hp, Bool.false_or] at h2
    cases hq : Tx.less b a
    · exact sorts_ff a b c w ha hb hc hk hp hq (by rw [← h2, hq])
    · exact sorts_ft a b c w ha hb hc hk hp hq (by rw [← h2, hq])
  · rw [hp, Bool.true_or] at h2
    rw [hp, Bool.true_and] at h1
    cases hr : Tx.less b c
    · exact sorts_tf a b c w ha hb hc hk hp h1 h2.symm hr
    · exact sorts_tt a b c w ha hb hc hk hp h1 h2.symm hr (h3 hp hr)
end Go.Proofs.YtkgkllpecpcgjaaDoor
