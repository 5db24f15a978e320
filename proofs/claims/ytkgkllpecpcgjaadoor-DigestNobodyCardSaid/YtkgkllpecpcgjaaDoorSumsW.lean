/- The walk of DigestSums. -/
import Derived.Test.YtkgkllpecpcgjaaDoorQuiet
namespace Go.Proofs.YtkgkllpecpcgjaaDoor
open Go Go.RowKit

section
variable {P : Program}
theorem add_zero_map (A : Option Addr) : A.map (fun a => a.add 0) = A := by cases A <;> simp [Addr.add]
theorem run_slice_to {t e : TypeId} (ht : P.underlying t = some (.slice e)) (hs : (P.info? e).map (·.size) = some 1) (A : Option Addr) (len cap h : Nat) (hh : h ≤ cap) (W : World) :
    (Instr.slice t (.slice A len cap) none (some (.int .i64 (h : Int))) none).run P W = .ok (.slice A h cap) W := by
  have hel : P.elem t = e := by unfold Program.elem; rw [ht]
  cases hq : P.info? e with
  | none => simp [hq] at hs
  | some i =>
    have hi : i.size = 1 := by simpa [hq] using hs
    have hsz : (sizeOf e).run P W = .ok 1 W := by simp [sizeOf, typeInfo, hq, hi]
    rw [run_slice_h W t A len cap (by rw [hel]; exact ht) .i64 (h : Int) (by omega) (by omega), hel, hsz]
    simp only [Result.andThen_ok, sliced, Int.toNat_natCast, Nat.zero_mul, Nat.sub_zero, add_zero_map, ite_self]
end

set_option maxRecDepth 100000 in
set_option maxHeartbeats 4000000 in
theorem digestSums_walk (A : Option Addr) (c : Nat) (bs : List UInt8) (w : World) (hr : Rd w w.heap.size A bs.length (bv bs)) (hl : bs.length ≤ 140737488351232) (hk : KT w) :
    Calls Tryd.prog 3 #[.slice A bs.length c] w fun e w' => e = .returned (.bool true) ∧ Below w.heap.size w w' := by
  obtain ⟨i0, hi, hz0, hz1, hz2⟩ := info_parts infoU8
  have HR := Lib.hid hr
  have HK := Lib.hid hk
  have hglt := hk.lt
  clear hr hk
  go_enter Tryd.func3, Tryd.ntmps3
  go_wp2_with (first
    | (at_builtin; (refine wp_app' _ rfl (.tmp 5) (.tmp 6) 22 22 rfl w.heap.size 5 i0 _ 1 Tryd.underlying22 hi hz0 hz1 hz2 rfl (.slice (some ⟨w.heap.size, 0, none⟩) 0 0) 0 [] rfl (World.ownsRow_made w #[] 0 (Nat.le_refl _) (Nat.zero_le _) rfl) (.slice A bs.length c) bs.length (bv bs) rfl ((HR.out.alloc (Nat.le_refl _) _).src Tryd.underlying22 c (bv_one bs)) (by unfold maxLen; omega) (by omega) (by simp) ?_); intro v1 w1 ho1 hb1; rw [Nat.zero_add, List.nil_append] at ho1; have hB1 := (Below.refl w.heap.size w).alloc (Nat.le_refl _) _ |>.trans hb1; have hs1 := hB1.size; clear hb1)
    | (at_builtin; go_must (refine wp_app' _ rfl (.tmp 7) (.tmp 8) 22 22 rfl w.heap.size 5 i0 _ 1 Tryd.underlying22 hi hz0 hz1 hz2 rfl v1 bs.length (bv bs) rfl (ho1.alloc _) _ 1 [Value.int .u8 9] rfl (new_src Tryd.underlying22 w1 [Value.int .u8 9] 1 1 5 (0, 0) rfl (by intro u hu; simp at hu; subst hu; rfl)) (by unfold maxLen; omega) (by omega) (by simp; omega) ?_); intro v2 w2 ho2 hb2; have hB2 := (hB1.alloc hs1 _).trans hb2; obtain ⟨Ax, cx, hv2, hcx, hcm, -⟩ := own_form ho2; subst hv2; have hsl := run_slice_to (P := Tryd.prog) Tryd.underlying22 infoU81 Ax (bs.length + 1) cx bs.length (by omega)))
  rw [show [Value.int .u8 9] = bv [9] from rfl, ← bv_append] at ho2
  have hRx := Rd.of_own ho2
  have hRt := hRx.take (k := bs.length) (by omega)
  rw [← bv_take, List.take_left] at hRt
  have hKx := HK.out.below hB2 hglt
  have S := Lib.hid (psum_any bs Ax cx w2 hKx hRt ⟨by omega, by simpa [maxLen] using hcm⟩ (by omega))
  have hRb := (HR.out.below hB2).more hB2.size
  have hEQ := run_eql_bytes (P := Tryd.prog) Tryd.underlying24 Tryd.underlying5 (by kernel_rfl) (sum_length bs) (sum_length bs)
  rw [show decide (Sh.sum bs = Sh.sum bs) = true from decide_eq_true rfl] at hEQ
  have HSZ := Lib.hid ((bv_size (Sh.sum bs)).trans (sum_length bs))
  have HZA := Lib.hid (bv_all (Sh.sum bs))
  have RS := Lib.hid (fun (W : World) (h : Rd W W.heap.size A bs.length (bv bs)) => rsum_any bs A c W h hl)
  generalize (bv (Sh.sum bs)).toArray = Z at *
  clear ho1 hB1 hs1 ho2 hRt
  refine S.out.mono ?_; rintro e w3 ⟨rfl, hb3⟩
  have hB3 := hB2.trans (hb3.mono hB2.size)
  have hRx3 := hRx.later hb3
  have hRb3 := hRb.later hb3
  clear hB2 hRx hRb hKx S hsl
  go_wp2_with (refine at_sto 24 (.tmp 4) (.tmp 14) rfl ?_; go_must (refine wpList_store_row rfl 24 (.tmp 4) (.tmp 14) rfl _ Z rfl rfl _ _ (Blk.new w3 _ _) (by rw [HSZ.out]; exact infoD32) (by rw [HSZ.out]; rfl) HZA.out ?_; generalize hq : World.setRow _ _ _ = w4))
  have hb4 : Below w3.heap.size w3 w4 := hq ▸ below_setRow ((Below.refl _ _).alloc (Nat.le_refl _) _) (Nat.le_refl _) _
  have hZ4 : Blk w4 w3.heap.size 24 Z := hq ▸ (Blk.new w3 _ _).row _
  clear hq hb3
  have hB4 := hB3.trans (hb4.mono hB3.size)
  have hRx4 := hRx3.later hb4
  have hRb4 := hRb3.later hb4
  generalize w3.heap.size = g at *
  clear hRx3 hRb3 hb4 hB3
  have hK4 := HK.out.below hB4 hglt
  have AL := Lib.hid (fun u : Grw w4 => alive_any u.val (hK4.grw u))
  have RS4 := Lib.hid (fun u : Grw w4 => RS.out u.val (hRb4.later u.prop))
  have hc1 : ∀ u : Grw w4, (convert 22 9 (.slice Ax (bs.length + 1) cx)).run Tryd.prog u.val = .ok (.string (sB (bs ++ [9]))) u.val := fun u => Rd.str (P := Tryd.prog) (src := 22) (dst := 9) (hRx4.later u.prop) cx Tryd.underlying22 Tryd.underlying5 Tryd.underlying9
  have hc2 : ∀ u : Grw w4, (convert 22 9 (.slice A bs.length c)).run Tryd.prog u.val = .ok (.string (sB bs)) u.val := fun u => Rd.str (P := Tryd.prog) (src := 22) (dst := 9) (hRb4.later u.prop) c Tryd.underlying22 Tryd.underlying5 Tryd.underlying9
  have ha : sB bs ++ (⟨#[9]⟩ : ByteArray) = sB (bs ++ [9]) := (sB_append bs [9]).symm
  have hz : ¬ 9223372036854775807 < (sB bs).size + (⟨#[9]⟩ : ByteArray).size := by rw [sB_size, show (⟨#[9]⟩ : ByteArray).size = 1 from rfl]; omega
  have htt : ((sB (bs ++ [9])).toList == (sB (bs ++ [9])).toList) = true := beq_self_eq_true _
  generalize sB (bs ++ [9]) = T at *
  generalize sB bs = S at *
  clear hRx4 hRb4
  refine wp_region_grow (by kernel_rfl) (by kernel_rfl) ?_
  refine quiet_load_row (by rfl) 24 (.tmp 4) rfl g rfl _ Z hZ4.grw _ Tryd.underlying24 rfl (by rw [HSZ.out]; exact infoD32) ?_; go_simp
  go_big_quiet_step (fail)
  go_big_quiet_step ((go_at_call 13; exact grow_call (RS4.out _)))
  go_big_quiet_step (fail)
  go_big_quiet_step (fail)
  go_big_quiet_step (fail)
  go_big_quiet_step (fail)
  go_big_quiet_step (fail)
  go_big_quiet_step (fail)
  go_big_quiet_step (fail)
  go_big_quiet_step (fail)
  go_big_quiet_step (fail)
  go_big_quiet_step (fail)
  go_big_quiet_step ((go_at_call 14; exact grow_call (AL.out _)))
  go_big_quiet_step (fail)
  go_big_quiet_step (fail)
  refine wpQuiet_nil ?_
  first | (intro _ hw'; obtain ⟨u, hw''⟩ := hw'; subst hw'') | intro u
  have hu : Below w4.heap.size w4 u.val := u.prop
  go_wp2_with fail
  go_ret
  exact ⟨rfl, hB4.trans (hu.mono hB4.size)⟩
end Go.Proofs.YtkgkllpecpcgjaaDoor
