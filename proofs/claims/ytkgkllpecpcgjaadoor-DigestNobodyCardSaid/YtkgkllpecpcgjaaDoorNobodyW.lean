/- The walk of DigestNobody. -/
import Derived.Test.YtkgkllpecpcgjaaDoorSumsW
namespace Go.Proofs.YtkgkllpecpcgjaaDoor
open Go Go.RowKit

set_option maxRecDepth 100000 in
set_option maxHeartbeats 1000000 in
theorem hsum_nil (w : World) : Calls Tryd.prog 23 #[.pointer none] w fun e w' => e = .returned (.agg (bz [] 32)) ∧ Below w.heap.size w w' := by
  have M := Lib.hid made_nil
  have hz2 : (bz [] 32).size = 32 := bz_size (by decide)
  have HZ2 := Lib.hid hz2
  have hZ0 : Blk (w.alloc (.cells (bz [] 32) 24)) w.heap.size 24 (bz [] 32) := Blk.new w _ _
  have hB0 : Below w.heap.size w (w.alloc (.cells (bz [] 32) 24)) := (Below.refl _ _).alloc (Nat.le_refl _) _
  clear hz2
  go_enter Tryd.func23, Tryd.ntmps23
  go_wp2_with fail
  refine (M.out _).mono ?_; rintro e w' ⟨rfl, rfl⟩
  go_wp2_with (first
    | (refine at_dst 11 rfl ?_; go_must (refine wpList_build_as rfl 24 _ rfl [] rfl (bz [] 32) (by kernel_rfl) ?_))
    | (refine at_sto 24 (.tmp 2) (.tmp 11) rfl ?_; go_must (refine wpList_store_row rfl 24 (.tmp 2) (.tmp 11) rfl _ (bz [] 32) rfl rfl _ _ hZ0 (by rw [HZ2.out]; exact infoD32) rfl (bv_all _) ?_)))
  exact bodyPost_ret (v := .agg (bz [] 32)) (results_cell_row rfl _ _ w.heap.size _ _ _ _ rfl (hZ0.row _) Tryd.underlying24 rfl (by rw [HZ2.out]; exact infoD32)) rfl ⟨rfl, below_setRow hB0 (Nat.le_refl _) _⟩
set_option maxRecDepth 100000 in
set_option maxHeartbeats 1000000 in
theorem hsum_not (w : World) (g : Nat) (cs : Array Value) (h : Blk w g 52 cs) (hc : cs[0]? = some (.bool false)) : Calls Tryd.prog 23 #[.pointer (some ⟨g, 0, none⟩)] w fun e w' => e = .returned (.agg (bz [] 32)) ∧ Below w.heap.size w w' := by
  have hz2 : (bz [] 32).size = 32 := bz_size (by decide)
  have HZ2 := Lib.hid hz2
  have hZ0 : Blk (w.alloc (.cells (bz [] 32) 24)) w.heap.size 24 (bz [] 32) := Blk.new w _ _
  have hB0 : Below w.heap.size w (w.alloc (.cells (bz [] 32) 24)) := (Below.refl _ _).alloc (Nat.le_refl _) _
  have M := Lib.hid (made_any _ g false cs (h.alloc (.cells (bz [] 32) 24)) hc)
  clear hz2 h hc
  go_enter Tryd.func23, Tryd.ntmps23
  go_wp2_with fail
  refine M.out.mono ?_; rintro e w' ⟨rfl, rfl⟩
  go_wp2_with (first
    | (refine at_dst 11 rfl ?_; go_must (refine wpList_build_as rfl 24 _ rfl [] rfl (bz [] 32) (by kernel_rfl) ?_))
    | (refine at_sto 24 (.tmp 2) (.tmp 11) rfl ?_; go_must (refine wpList_store_row rfl 24 (.tmp 2) (.tmp 11) rfl _ (bz [] 32) rfl rfl _ _ hZ0 (by rw [HZ2.out]; exact infoD32) rfl (bv_all _) ?_)))
  exact bodyPost_ret (v := .agg (bz [] 32)) (results_cell_row rfl _ _ w.heap.size _ _ _ _ rfl (hZ0.row _) Tryd.underlying24 rfl (by rw [HZ2.out]; exact infoD32)) rfl ⟨rfl, below_setRow hB0 (Nat.le_refl _) _⟩

set_option maxRecDepth 100000 in
set_option maxHeartbeats 4000000 in
theorem digestNobody_walk (A : Option Addr) (c : Nat) (n : Nat) (w : World) (hk : KT w) :
    Calls Tryd.prog 11 #[.slice A n c] w fun e w' => e = .returned (.bool true) ∧ Below w.heap.size w w' := by
  have HK := Lib.hid hk
  have hglt := hk.lt
  have HMADE := Lib.hid HN_made
  have hbuilt : Tryd.prog.built 52 [] = some HN := by kernel_rfl
  have HBU := Lib.hid hbuilt
  have hNE := run_neq_bytes (P := Tryd.prog) Tryd.underlying24 Tryd.underlying5 (by kernel_rfl) (a := List.replicate 32 0) (b := List.replicate 32 0) (by simp) (by simp)
  rw [show (!decide (List.replicate 32 (0 : UInt8) = List.replicate 32 0)) = false from by simp, show (bv (List.replicate 32 0)).toArray = bz [] 32 from rfl] at hNE
  have S0 := Lib.hid hsum_nil
  have S1 := Lib.hid (fun (W : World) (g : Nat) (h : Blk W g 52 HN) => hsum_not W g HN h HN_made)
  have W0 := Lib.hid write_nil
  have W1 := Lib.hid (fun (v : Value) (W : World) (g : Nat) (h : Blk W g 52 HN) => write_not v W g HN h HN_made)
  have L0 := Lib.hid len_nil
  have L1 := Lib.hid (fun (W : World) (g : Nat) (h : Blk W g 52 HN) => len_not W g HN h HN_made)
  have C0 := Lib.hid copy_nil
  have C1 := Lib.hid (fun (W : World) (g : Nat) (h : Blk W g 52 HN) => copy_not W g HN h HN_made)
  clear hk hbuilt
  generalize HN = Z at *
  go_enter Tryd.func11, Tryd.ntmps11
  go_wp2_with (refine at_dst 5 rfl ?_; go_must (refine wpList_build_as rfl 52 _ rfl [] rfl Z HBU.out ?_))
  have s1 : (w.alloc (.cells Z 52)).heap.size = w.heap.size + 1 := by simp
  have hZ0 := (Blk.new w 52 Z).alloc (.cells #[.pointer none, .pointer (some ⟨w.heap.size, 0, none⟩)] 34)
  have hP0 := Blk.new (w.alloc (.cells Z 52)) 34 #[.pointer none, .pointer (some ⟨w.heap.size, 0, none⟩)]
  have hB0 : Below w.heap.size w ((w.alloc (.cells Z 52)).alloc (.cells #[.pointer none, .pointer (some ⟨w.heap.size, 0, none⟩)] 34)) := ((Below.refl _ _).alloc (Nat.le_refl _) _).alloc (by simp) _
  rw [s1] at hP0
  clear s1
  go_loopw [9] (fun i wr => (i = .int .i64 0 ∨ i = .int .i64 1 ∨ i = .int .i64 2) ∧ Blk wr w.heap.size 52 Z ∧ Blk wr (w.heap.size + 1) 34 #[.pointer none, .pointer (some ⟨w.heap.size, 0, none⟩)] ∧ Below w.heap.size w wr) (fun i _ => 2 - (intOf i).toNat)
  case atStart => exact ⟨.inl rfl, hZ0, hP0, hB0⟩
  case round =>
    obtain ⟨hi, hZ, hP, hB⟩ := hrel
    clear hZ0 hP0 hB0
    have c0 := hP.cell 0
    have c1 := hP.cell 1
    simp only [List.getElem?_toArray, List.getElem?_cons_zero, List.getElem?_cons_succ] at c0 c1
    rcases hi with rfl | rfl | rfl
    · clear c1
      go_wp2_with (first
        | (go_at_call 22; refine (W0.out _ _).mono ?_; rintro e w1 ⟨rfl, rfl⟩)
        | (go_at_call 23; refine (S0.out _).mono ?_; rintro e w1 ⟨rfl, hb1⟩; have hZ1 := hZ.later hb1; have hP1 := hP.later hb1; have hB1 := hB.trans (hb1.mono hB.size))
        | (go_at_call 24; refine (L0.out _).mono ?_; rintro e w2 ⟨rfl, rfl⟩)
        | (go_at_call 25; refine (C0.out _).mono ?_; rintro e w3 ⟨rfl, rfl⟩)
        | (refine at_dst 18 rfl ?_; go_must (refine wpList_build_as rfl 24 _ rfl [] rfl (bz [] 32) (by kernel_rfl) ?_)))
      go_roundw
      case rel => exact ⟨.inr (.inl rfl), hZ1, hP1, hB1⟩
      case measure => simp [intOf]
    · clear c0
      go_wp2_with (first
        | (go_at_call 22; refine (W1.out _ _ _ hZ).mono ?_; rintro e w1 ⟨rfl, rfl⟩)
        | (go_at_call 23; refine (S1.out _ _ hZ).mono ?_; rintro e w1 ⟨rfl, hb1⟩; have hZ1 := hZ.later hb1; have hP1 := hP.later hb1; have hB1 := hB.trans (hb1.mono hB.size))
        | (go_at_call 24; refine (L1.out _ _ hZ1).mono ?_; rintro e w2 ⟨rfl, rfl⟩)
        | (go_at_call 25; refine (C1.out _ _ hZ1).mono ?_; rintro e w3 ⟨rfl, rfl⟩)
        | (refine at_dst 18 rfl ?_; go_must (refine wpList_build_as rfl 24 _ rfl [] rfl (bz [] 32) (by kernel_rfl) ?_)))
      go_roundw
      case rel => exact ⟨.inr (.inr rfl), hZ1, hP1, hB1⟩
      case measure => simp [intOf]
    · clear c0 c1
      go_wp2_with (go_at_call 14; refine (alive_any _ (HK.out.below hB hglt)).mono ?_; rintro e w9 ⟨rfl, hb9⟩)
      go_ret
      exact ⟨rfl, hB.trans (hb9.mono hB.size)⟩
end Go.Proofs.YtkgkllpecpcgjaaDoor
