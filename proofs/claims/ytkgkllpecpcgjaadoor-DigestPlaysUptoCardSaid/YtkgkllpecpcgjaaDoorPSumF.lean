/- The contract of the program's Sum. -/
import Derived.Test.YtkgkllpecpcgjaaDoorPWrite
namespace Go.Proofs.YtkgkllpecpcgjaaDoor
open Go Go.RowKit

/-- What writes into a block that is new, alone, leaves what there was. -/
theorem below_only {B g : Nat} {w0 a w : World} (hb : Below B w0 a) (h : a.grownBy w (some g)) (hg : B ≤ g) (hB : B ≤ w0.heap.size := by exact Nat.le_refl _) : Below B w0 w :=
  ⟨h.os.trans hb.os, h.tape.trans hb.tape, h.output.trans hb.output, Nat.le_trans hb.size h.size, fun i hi => (h.block i (Nat.lt_of_lt_of_le hi (Nat.le_trans hB hb.size)) (fun e => by have := Option.some.inj e; omega)).trans (hb.block i hi)⟩

set_option maxRecDepth 100000 in
set_option maxHeartbeats 2000000 in
theorem psum_any (bs : List UInt8) (A : Option Addr) (c : Nat) (w : World) (hk : KT w) (hr : Rd w w.heap.size A bs.length (bv bs)) (hc : bs.length ≤ c ∧ c ≤ 9223372036854775807) (hl : bs.length ≤ 1152921504606846975) :
    Calls Tryd.prog 12 #[.slice A bs.length c] w fun e w' => e = .returned (.agg (bv (Sh.sum bs)).toArray) ∧ Below w.heap.size w w' := by
  have N := Lib.hid new_any
  have HK := Lib.hid hk
  have HR := Lib.hid hr
  obtain ⟨hc1, hc2⟩ := hc
  have hglt := hk.lt
  clear hk hr
  go_enter Tryd.func12, Tryd.ntmps12
  have hB0 : Below w.heap.size w (w.alloc (.cells (bz [] 32) 24)) := (Below.refl _ _).alloc (Nat.le_refl _) _
  have hZ0 : Blk (w.alloc (.cells (bz [] 32) 24)) w.heap.size 24 (bz [] 32) := Blk.new w _ _
  have hs0 : (w.alloc (.cells (bz [] 32) 24)).heap.size = w.heap.size + 1 := by simp
  have HS0 := Lib.hid hs0
  clear hs0
  go_wp2_with fail
  refine (N.out _).mono ?_; rintro e w1 ⟨g, rfl, hg, hH, hb1⟩
  have hB1 := hB0.trans (hb1.mono hB0.size)
  have hZ1 := hZ0.later hb1
  have hg' : w.heap.size < g := by rw [World.size_alloc] at hg; omega
  have hK1 := HK.out.below hB1 hglt
  have hR1 := (HR.out.below hB1)
  have W := Lib.hid (write_any [] bs g A c w1 hH hK1 (hR1.more hB1.size) (fun ad h0 hA => by obtain ⟨x, hx, hb, -⟩ := hR1.2 h0; rw [hA] at hx; cases hx; omega) ⟨hc1, hc2⟩ (by simp; omega))
  clear hH hb1 hB0 hZ0 hg HS0 N
  go_wp2_with fail
  refine W.out.mono ?_; rintro e w2 ⟨rfl, hH2, hg2⟩
  rw [List.nil_append] at hH2
  have hB2 := below_only hB1 hg2 (by omega)
  have hZ2 := only_blk hZ1 hg2 (by omega)
  have S := Lib.hid (hsum_any bs g w2 hH2 (HK.out.below hB2 hglt) hl)
  clear hH2 hg2 hB1 hZ1 hK1 hR1 W
  go_wp2_with (first
    | (go_at_call 23; refine S.out.mono ?_; rintro e w3 ⟨rfl, hb3⟩; have hZ3 := hZ2.later hb3)
    | (refine at_sto 24 (.tmp 2) (.tmp 9) rfl ?_; go_must (refine wpList_store_row rfl 24 (.tmp 2) (.tmp 9) rfl _ (bv (Sh.sum bs)).toArray rfl rfl _ _ hZ3 (by rw [bv_size]; exact infoD32) (by rw [bv_size]; rfl) (bv_all _) ?_)))
  exact bodyPost_ret (v := .agg (bv (Sh.sum bs)).toArray) (results_cell_row rfl _ _ w.heap.size _ _ _ _ rfl (hZ3.row _) Tryd.underlying24 rfl (by rw [bv_size]; exact infoD32)) rfl ⟨rfl, below_setRow (hB2.trans (hb3.mono hB2.size)) (Nat.le_refl _) _⟩
end Go.Proofs.YtkgkllpecpcgjaaDoor
