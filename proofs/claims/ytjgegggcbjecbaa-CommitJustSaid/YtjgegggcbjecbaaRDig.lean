/- The document's digest: the one that stands at a place of a text. -/
import Derived.Test.YtjgegggcbjecbaaByts
namespace Go.Proofs.Ytjgegggcbjecbaa
open Go Go.RowKit

set_option maxRecDepth 100000 in
set_option maxHeartbeats 8000000 in
theorem rdig_any (b : List UInt8) (p : Nat) (w : World) (hb : b.length ≤ 4611686018427387904) (hp : p ≤ b.length) :
    Calls Try.prog 61 #[.string (sB b), .int .i64 (p : Int)] w (Ret (rdgV b p) w) := by
  have hsb := sB_size b
  have hz1 := bv_size Cm.zero32
  rw [Cm.zero32_length] at hz1
  have HZS := Lib.hid hz1
  have HZA := Lib.hid (bv_all Cm.zero32)
  have hw1 : IntKind.i64.wrap ((b.length : Int) - (p : Int)) = (b.length : Int) - (p : Int) := IntWalk.i64_in _ (by omega)
  obtain ⟨Z, hZ⟩ : ∃ Z, Z = (bv Cm.zero32).toArray := ⟨_, rfl⟩
  rw [← hZ] at HZS HZA
  obtain ⟨wa, hwa⟩ : ∃ y, y = (w.alloc (.cells Z 47)).alloc (.cells Z 47) := ⟨_, rfl⟩
  have hs1 : (w.alloc (.cells Z 47)).heap.size = w.heap.size + 1 := by simp
  have HA := Lib.hid (show Blk wa w.heap.size 47 Z by rw [hwa]; exact (Blk.new w _ _).alloc _)
  have HB := Lib.hid (show Blk wa (w.heap.size + 1) 47 Z by rw [hwa]; exact hs1 ▸ Blk.new (w.alloc (.cells Z 47)) 47 Z)
  have HW := Lib.hid (show Below w.heap.size w wa by rw [hwa]; exact ((Below.refl _ _).alloc (Nat.le_refl _) _).alloc (by simp) _)
  have HZE := Lib.hid hZ
  have hzl := zero_lit
  rw [← hZ] at hzl
  have hzl2 := hzl.symm
  clear hs1 hz1 hZ hzl
  replace hwa := hwa.symm
  by_cases hlen : b.length < p + 32
  · have hd : decide ((b.length : Int) - (p : Int) < 32) = true := decide_eq_true (by omega)
    have HV := Lib.hid (show rdgV b p = .tuple #[digV Cm.zero32, .bool false] by unfold rdgV; rw [if_pos hlen])
    have HD32 := Lib.hid (show (Try.prog.info? 47).map (·.size) = some Z.size by rw [HZS.out]; exact infoD32)
    go_enter Try.func61, Try.ntmps61
    go_wp2_with (first | (refine at_lod 47 (.tmp 6) rfl ?_; go_must (refine wpList_load_row rfl 47 (.tmp 6) rfl (w.heap.size + 1) rfl _ Z (0, 0) _ HB.out Try.underlying47 rfl HD32.out ?_)) | (refine at_sto 47 (.tmp 4) (.tmp 13) rfl ?_; go_must (refine wpList_store_row rfl 47 (.tmp 4) (.tmp 13) rfl w.heap.size Z rfl rfl _ Z HA.out HD32.out rfl HZA.out ?_)))
    exact bodyPost_ret (v := .tuple #[.agg Z, .bool false]) (results_row_tmp rfl _ _ w.heap.size _ _ _ _ rfl (HA.out.row _) Try.underlying47 rfl HD32.out _ rfl) rfl ⟨by rw [HV.out]; unfold digV; rw [HZE.out], below_row HW.out (Nat.le_refl _) _⟩
  · have hd : decide ((b.length : Int) - (p : Int) < 32) = false := decide_eq_false (by omega)
    obtain ⟨T, hT⟩ : ∃ T, T = (b.drop p).take 32 := ⟨_, rfl⟩
    have hTl : T.length = 32 := by rw [hT, List.length_take, List.length_drop]; omega
    have HV := Lib.hid (show rdgV b p = .tuple #[digV T, .bool true] by unfold rdgV; rw [if_neg hlen, hT])
    have HTA := Lib.hid (show ∀ i (h : i < 32), b[p + i]'(by omega) = T.getD i 0 from fun i h => by
      rw [hT, List.getD_eq_getElem?_getD, List.getElem?_take_of_lt h, List.getElem?_drop, List.getElem?_eq_getElem (by omega)]; rfl)
    have HTL := Lib.hid hTl
    have hZ0 : Z = (bv (part32 T 0)).toArray := by rw [part32_zero]; exact HZE.out
    rw [hZ0] at HB
    have HD32 := Lib.hid (show (Try.prog.info? 47).map (·.size) = some (bv T).toArray.size by rw [bv_size, hTl]; exact infoD32)
    have HT1 := Lib.hid (bv_all T)
    have HT2 := Lib.hid (show Z.size = (bv T).toArray.size by rw [HZS.out, bv_size, hTl])
    clear hT hTl hZ0
    go_enter Try.func61, Try.ntmps61
    go_wp2_with fail
    clear hwa hzl2
    go_loopw [7] (fun iv wr => ∃ i : Nat, i ≤ 32 ∧ iv = .int .i64 (i : Int) ∧ Blk wr w.heap.size 47 Z ∧ Blk wr (w.heap.size + 1) 47 (bv (part32 T i)).toArray ∧ Below w.heap.size w wr) (fun iv _ => 32 - (intOf iv).toNat)
    case atStart => exact ⟨0, Nat.zero_le _, rfl, HA.out, HB.out, HW.out⟩
    clear HA HB HW
    case round =>
      obtain ⟨i, hi, rfl, hA, hB, hW⟩ := hrel
      have HA := Lib.hid hA
      have HB := Lib.hid hB
      have HW := Lib.hid hW
      by_cases hlt : i < 32
      · have hltI : (i : Int) < 32 := by omega
        have hw2 : IntKind.i64.wrap ((p : Int) + (i : Int)) = (p : Int) + (i : Int) := IntWalk.i64_in _ (by omega)
        have hix := fun w => run_str_index (P := Try.prog) Try.underlying9 b (p + i) (by omega) w
        rw [HTA.out i hlt, Int.natCast_add] at hix
        have HST := Lib.hid (part32_set HTL.out hlt)
        have hpl := part32_len (T := T) HTL.out hi
        have c0 : wr.cell? ⟨w.heap.size + 1, i, none⟩ = some (.int .u8 (((part32 T i).getD i 0).toNat : Int)) := by rw [hB.cell, bv_at _ (by omega)]
        have f0 := hB.frozen i
        obtain ⟨x, hx⟩ : ∃ x, x = T.getD i 0 := ⟨_, rfl⟩
        obtain ⟨y, hy⟩ : ∃ y, y = (part32 T i).getD i 0 := ⟨_, rfl⟩
        rw [← hx] at hix HST
        rw [← hy] at c0
        clear hA hB hW hx hy hpl
        go_wp2_with fail
        go_roundw
        case rel => exact ⟨i + 1, by omega, by go_num, HA.out.far (p := ⟨w.heap.size + 1, i, none⟩) (by simp) _, by have h := HB.out.set_ i (.int .u8 (x.toNat : Int)); rw [HST.out] at h; exact h, HW.out.setCell (p := ⟨w.heap.size + 1, i, none⟩) (Nat.le_succ _) _⟩
        case measure => simp [intOf] <;> omega
      · have hltI : ¬ (i : Int) < 32 := by omega
        have hB2 := hB
        rw [show i = 32 by omega, part32_full HTL.out] at hB2
        have HB2 := Lib.hid hB2
        clear hA hB hW hB2
        go_wp2_with (first | (refine at_lod 47 (.tmp 6) rfl ?_; go_must (refine wpList_load_row rfl 47 (.tmp 6) rfl (w.heap.size + 1) rfl _ (bv T).toArray (0, 0) _ HB2.out Try.underlying47 rfl HD32.out ?_)) | (refine at_sto 47 (.tmp 4) (.tmp 25) rfl ?_; go_must (refine wpList_store_row rfl 47 (.tmp 4) (.tmp 25) rfl w.heap.size (bv T).toArray rfl rfl _ Z HA.out HD32.out HT2.out HT1.out ?_)))
        exact bodyPost_ret (v := .tuple #[.agg (bv T).toArray, .bool true]) (results_row_tmp rfl _ _ w.heap.size _ _ _ _ rfl (HA.out.row _) Try.underlying47 rfl HD32.out _ rfl) rfl ⟨by rw [HV.out]; rfl, below_row HW.out (Nat.le_refl _) _⟩
end Go.Proofs.Ytjgegggcbjecbaa
