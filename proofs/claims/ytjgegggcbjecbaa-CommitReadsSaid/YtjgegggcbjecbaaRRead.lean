/- The document's readOp. -/
import Derived.Test.YtjgegggcbjecbaaRDig
import Derived.Test.YtjgegggcbjecbaaGetR
namespace Go.Proofs.Ytjgegggcbjecbaa
open Go Go.RowKit

set_option maxRecDepth 100000 in
set_option maxHeartbeats 16000000 in
theorem rread_any (b : List UInt8) (p : Nat) (w : World) (hb : b.length ≤ 4611686018427387904) :
    Calls Try.prog 43 #[.string (sB b), .int .i64 (p : Int)] w (Ret (rdoV (Cm.opP b p)) w) := by
  have hsb := sB_size b
  have HG := Lib.hid (fun (p : Nat) (w : World) => refGetNum_any (sB b) (p : Int) w (by omega))
  simp only [sB_data] at HG
  have HOZ := Lib.hid (opCells_all op0)
  have hzl := op0_lit 0 false
  obtain ⟨Z, hZ⟩ : ∃ Z, Z = (opCells op0).toArray := ⟨_, rfl⟩
  have HZS := Lib.hid (show Z.size = 37 by rw [hZ]; exact opA_size rfl)
  rw [← hZ] at HOZ
  have HZI := Lib.hid (show (Try.prog.info? 58).map (·.size) = some Z.size by rw [HZS.out]; exact infoO37)
  have hzl2 := (show Z = _ from hZ.trans hzl).symm
  have HZE := Lib.hid hZ
  clear hzl hZ
  obtain ⟨w1, hw1⟩ : ∃ y, y = w.alloc (.cells Z 58) := ⟨_, rfl⟩
  have hs1 : w1.heap.size = w.heap.size + 1 := by rw [hw1]; simp
  have HZ1 := Lib.hid (show Blk w1 w.heap.size 58 Z by rw [hw1]; exact Blk.new w _ _)
  have HW1 := Lib.hid (show Below w.heap.size w w1 by rw [hw1]; exact below_alloc w _)
  replace hw1 := hw1.symm
  obtain ⟨⟨n, p1, e⟩, hg⟩ : ∃ x, x = Wi.getNum b p := ⟨_, rfl⟩
  have hgs := hg.symm
  have HG1 := Lib.hid (HG.out p w1)
  rw [← hg] at HG1
  unfold getV at HG1
  simp only [] at HG1
  clear hg
  have HOP := Lib.hid (opP_num hgs)
  by_cases he : e = 0
  · subst he
    obtain ⟨hn63, hp1⟩ := getNum_lim' hgs
    by_cases hn : 11 < n
    · have HR := Lib.hid (HOP.out.2 rfl hn)
      have hd : decide ((11 : Int) < (n : Int)) = true := decide_eq_true (by omega)
      have hd2 : decide (11 < n) = true := decide_eq_true hn
      clear hgs hn
      go_enter Try.func43, Try.ntmps43
      go_wp2_with fail
      refine HG1.out.mono ?_; rintro e' w1' ⟨rfl, rfl⟩
      go_wp2_with ((refine at_sto 58 (.tmp 4) (.tmp 29) rfl ?_; go_must (refine wpList_store_row rfl 58 (.tmp 4) (.tmp 29) rfl w.heap.size Z rfl rfl _ Z HZ1.out HZI.out rfl HOZ.out ?_)))
      exact bodyPost_ret (v := .tuple #[.agg Z, .int .i64 0, .int .i64 7]) (results_row_tmp2 rfl _ _ w.heap.size _ _ _ _ rfl (HZ1.out.row _) Try.underlying58 rfl HZI.out _ _ rfl rfl) rfl ⟨by rw [HR.out, HZE.out]; rfl, below_row HW1.out (Nat.le_refl _) _⟩
    have hd : decide ((11 : Int) < (n : Int)) = false := decide_eq_false (by omega)
    have hd2 : decide (11 < n) = false := decide_eq_false hn
    have hn11 : n ≤ 11 := by omega
    have hr1 : n % 2 < 2 := Nat.mod_lt _ (by decide)
    have hm1 : (n : Int).tmod 2 = ((n % 2 : Nat) : Int) := by rw [Int.tmod_eq_emod_of_nonneg (by omega)]; omega
    have hm2 : (n : Int).tdiv 2 = ((n / 2 : Nat) : Int) := by rw [Int.tdiv_eq_ediv_of_nonneg (by omega)]; omega
    have hm3 : ((n / 2 : Nat) : Int).tmod 2 = ((n / 2 % 2 : Nat) : Int) := by rw [Int.tmod_eq_emod_of_nonneg (by omega)]; omega
    have hm4 : (n : Int).tdiv 4 = ((n / 4 : Nat) : Int) := by rw [Int.tdiv_eq_ediv_of_nonneg (by omega)]; omega
    have hq3 : n / 4 < 3 := by omega
    obtain ⟨lf, hlf⟩ : ∃ l, l = decide (n / 2 % 2 = 1) := ⟨_, rfl⟩
    have HLF := Lib.hid hlf
    have hlb : (((n / 2 % 2 : Nat) : Int) == 1) = lf := by rw [hlf, Bool.eq_iff_iff, beq_iff_eq, decide_eq_true_iff]; omega
    obtain ⟨r1, hr1e⟩ : ∃ r, r = n % 2 := ⟨_, rfl⟩
    obtain ⟨h2, hh2⟩ : ∃ r, r = n / 2 := ⟨_, rfl⟩
    obtain ⟨r2, hr2e⟩ : ∃ r, r = n / 2 % 2 := ⟨_, rfl⟩
    obtain ⟨q, hqe⟩ : ∃ r, r = n / 4 := ⟨_, rfl⟩
    have HR1 := Lib.hid hr1e
    have HQ := Lib.hid hqe
    rw [← hh2] at hm2 hm3
    rw [← hh2] at hr2e hlb
    rw [← hr1e] at hm1 hr1
    rw [← hr2e] at hm3 hlb
    rw [← hqe] at hm4 hq3
    have hv1 : IntKind.i64.wrap ((n : Int) / 2) = (h2 : Int) := by rw [show (n : Int) / 2 = (h2 : Int) by omega]; exact IntWalk.i64_in _ (by omega)
    have hv2 : IntKind.i64.wrap ((n : Int) / 4) = (q : Int) := by rw [show (n : Int) / 4 = (q : Int) by omega]; exact IntWalk.i64_in _ (by omega)
    have hv3 : IntKind.i64.wrap (1 + (r1 : Int)) = 1 + (r1 : Int) := IntWalk.i64_in _ (by omega)
    have hxl := op0_lit (1 + (r1 : Int)) lf
    obtain ⟨X, hX⟩ : ∃ X, X = (opCells ⟨1 + (r1 : Int), lf, ⟨false, Cm.zero32, 0⟩, 0⟩).toArray := ⟨_, rfl⟩
    have hxl2 := (hX.trans hxl).symm
    have HXE := Lib.hid hX
    have hbd := build_op (1 + (r1 : Int)) lf
    rw [← hX] at hbd
    have hh2l : h2 ≤ 6 := by omega
    obtain ⟨w2, hw2⟩ : ∃ y, y = w1.alloc (.cells X 58) := ⟨_, rfl⟩
    have HX2 := Lib.hid (show Blk w2 (w.heap.size + 1) 58 X by rw [hw2, ← hs1]; exact Blk.new w1 _ _)
    have HZ2 := Lib.hid (show Blk w2 w.heap.size 58 Z by rw [hw2]; exact HZ1.out.alloc _)
    have HW2 := Lib.hid (show Below w.heap.size w w2 by rw [hw2]; exact HW1.out.trans ((below_alloc w1 _).mono HW1.out.size))
    replace hw2 := hw2.symm
    have HGS := Lib.hid hgs
    clear hxl hX hlf hr1e hh2 hr2e hqe hgs hn
    have hqc : q = 0 ∨ q = 1 ∨ q = 2 := by omega
    go_enter Try.func43, Try.ntmps43
    go_wp2_with fail
    refine HG1.out.mono ?_; rintro e' w1' ⟨rfl, rfl⟩
    have HXS2 := Lib.hid (show X.size = 37 by rw [HXE.out]; exact opA_size rfl)
    have HXI2 := Lib.hid (show (Try.prog.info? 58).map (·.size) = some X.size by rw [HXS2.out]; exact infoO37)
    have HXA2 := Lib.hid (show X.all (·.oneCell') = true by rw [HXE.out]; exact opCells_all _)
    have HAZ := Lib.hid (show (w1.alloc (.cells Z 58)).heap[w.heap.size + 1]? = some (.cells Z 58 (0, 0)) by rw [← hs1]; exact heap_alloc_new w1 _)
    have HAX := Lib.hid (show (w1.alloc (.cells Z 58)).setRow (w.heap.size + 1) X = w1.alloc (.cells X 58) by rw [← hs1]; exact World.setRow_alloc_new w1 _ _ _)
    clear hw1 HW1 HZ1
    rcases hqc with rfl | rfl | rfl
    · have HD := Lib.hid (show (if n / 4 = 2 then Pa.digP 32 else Pa.noneP Cm.zero32) b p1 = .ok (Cm.zero32, p1) by rw [if_neg (by rw [← HQ.out]; decide)]; rfl)
      have HK := Lib.hid (show (if 0 < n / 4 then Pa.posP 7 else Pa.noneP 0) b p1 = .ok (0, p1) by rw [if_neg (by rw [← HQ.out]; decide)]; rfl)
      have c0 : w2.cell? ⟨w.heap.size + 1, 0, none⟩ = some (.int .i64 (1 + (r1 : Int))) := by rw [HX2.out.cell, HXE.out, List.getElem?_toArray]; rfl
      have HF0 := Lib.hid (show ∀ b', (opCells ⟨1 + (r1 : Int), lf, ⟨false, Cm.zero32, 0⟩, b'⟩).toArray.size = 37 from fun b' => opA_size rfl)
      by_cases hr0 : r1 = 0
      · have hk1 : ((1 + (r1 : Int)) == 1) = true := by rw [beq_iff_eq]; omega
        by_cases hl : p1 < b.length
        · have hlI : (p1 : Int) < (b.length : Int) := by omega
          have hge : decide ((b.length : Int) ≤ (p1 : Int)) = false := decide_eq_false (by omega)
          have hge2 : decide (b.length ≤ p1) = false := decide_eq_false (by omega)
          have hix := fun w => run_str_index (P := Try.prog) Try.underlying9 b p1 hl w
          have hwp : IntKind.i64.wrap ((p1 : Int) + 1) = (p1 : Int) + 1 := IntWalk.i64_in _ (by omega)
          have HR := Lib.hid (opP_ok HGS.out hn11 HD.out HK.out (p4 := p1 + 1) (y := [b[p1]]) (by rw [if_pos (by rw [← HR1.out]; exact hr0)]; unfold Pa.digP; rw [if_neg (by omega), List.drop_eq_getElem_cons hl]; rfl))
          obtain ⟨y, hy⟩ : ∃ y, y = b[p1] := ⟨_, rfl⟩
          rw [← hy] at hix HR
          have HTO := Lib.hid (show Cm.toOp (n, (Cm.zero32, (0, [y]))) = ⟨1 + (r1 : Int), lf, ⟨false, Cm.zero32, 0⟩, y⟩ by unfold Cm.toOp; simp only []; rw [← HR1.out, ← HLF.out, ← HQ.out]; rfl)
          obtain ⟨Y, hY⟩ : ∃ Y, Y = (opCells ⟨1 + (r1 : Int), lf, ⟨false, Cm.zero32, 0⟩, y⟩).toArray := ⟨_, rfl⟩
          have HYE := Lib.hid hY
          have HXY := Lib.hid (show Blk (w2.setCell ⟨w.heap.size + 1, 36, none⟩ (.int .u8 (y.toNat : Int))) (w.heap.size + 1) 58 Y by have h := HX2.out.set_ 36 (.int .u8 (y.toNat : Int)); rw [HXE.out, op_byte _ _ _ _ _ _ _ rfl, ← hY] at h; exact h)
          have HZY := Lib.hid (HZ2.out.far (p := ⟨w.heap.size + 1, 36, none⟩) (by simp) (.int .u8 (y.toNat : Int)))
          have HWY := Lib.hid (HW2.out.setCell (p := ⟨w.heap.size + 1, 36, none⟩) (Nat.le_succ _) (.int .u8 (y.toNat : Int)))
          have HYS := Lib.hid (show Z.size = Y.size by rw [HZS.out, hY, HF0.out])
          have HYI := Lib.hid (show (Try.prog.info? 58).map (·.size) = some Y.size by rw [hY, HF0.out]; exact infoO37)
          have HYA := Lib.hid (show Y.all (·.oneCell') = true by rw [hY]; exact opCells_all _)
          have c36 : ∃ v, w2.cell? ⟨w.heap.size + 1, 36, none⟩ = some v := by rw [HX2.out.cell, HXE.out]; exact ⟨_, Array.getElem?_eq_getElem (by rw [HF0.out]; decide)⟩
          obtain ⟨v36, c36⟩ := c36
          have f36 := HX2.out.frozen 36
          clear hy hY hl hr0
          go_wp2_with (first | (refine at_dst 37 rfl ?_; go_must (refine wpList_build_as rfl 58 _ rfl [(0, .int .i64 (1 + (r1 : Int))), (1, .bool lf)] rfl (opCells ⟨1 + (r1 : Int), lf, ⟨false, Cm.zero32, 0⟩, 0⟩).toArray (by kernel_rfl) ?_); rw [← HXE.out]) | (refine at_sto 58 (.tmp 10) (.tmp 37) rfl ?_; go_must (refine wpList_store_row rfl 58 (.tmp 10) (.tmp 37) rfl (w.heap.size + 1) X rfl rfl 58 Z HAZ.out HXI2.out (by rw [HXS2.out]; exact HZS.out) HXA2.out ?_); rw [HAX.out]) | (refine at_lod 58 (.tmp 10) rfl ?_; go_must (refine wpList_load_row rfl 58 (.tmp 10) rfl (w.heap.size + 1) rfl _ Y (0, 0) _ HXY.out Try.underlying58 rfl HYI.out ?_)) | (refine at_sto 58 (.tmp 4) (.tmp 95) rfl ?_; go_must (refine wpList_store_row rfl 58 (.tmp 4) (.tmp 95) rfl w.heap.size Y rfl rfl _ Z HZY.out HYI.out HYS.out HYA.out ?_)))
          exact bodyPost_ret (v := .tuple #[.agg Y, .int .i64 ((p1 : Int) + 1), .int .i64 0]) (results_row_tmp2 rfl _ _ w.heap.size _ _ _ _ rfl (HZY.out.row _) Try.underlying58 rfl HYI.out _ _ rfl rfl) rfl ⟨by rw [HR.out]; unfold rdoV; simp only []; rw [HTO.out, ← HYE.out]; first | done | rfl, below_row HWY.out (Nat.le_refl _) _⟩
        · have hlI : ¬ (p1 : Int) < (b.length : Int) := by omega
          have hge : decide ((b.length : Int) ≤ (p1 : Int)) = true := decide_eq_true (by omega)
          have hge2 : decide (b.length ≤ p1) = true := decide_eq_true (by omega)
          have HR := Lib.hid (opP_byte HGS.out hn11 HD.out HK.out (e := 8) (by rw [if_pos (by rw [← HR1.out]; exact hr0)]; unfold Pa.digP; rw [if_pos (by omega)]))
          clear hl hr0
          go_wp2_with (first | (refine at_dst 37 rfl ?_; go_must (refine wpList_build_as rfl 58 _ rfl [(0, .int .i64 (1 + (r1 : Int))), (1, .bool lf)] rfl (opCells ⟨1 + (r1 : Int), lf, ⟨false, Cm.zero32, 0⟩, 0⟩).toArray (by kernel_rfl) ?_); rw [← HXE.out]) | (refine at_sto 58 (.tmp 10) (.tmp 37) rfl ?_; go_must (refine wpList_store_row rfl 58 (.tmp 10) (.tmp 37) rfl (w.heap.size + 1) X rfl rfl 58 Z HAZ.out HXI2.out (by rw [HXS2.out]; exact HZS.out) HXA2.out ?_); rw [HAX.out]) | (refine at_sto 58 (.tmp 4) (.tmp 88) rfl ?_; go_must (refine wpList_store_row rfl 58 (.tmp 4) (.tmp 88) rfl w.heap.size Z rfl rfl _ Z HZ2.out HZI.out rfl HOZ.out ?_)))
          exact bodyPost_ret (v := .tuple #[.agg Z, .int .i64 0, .int .i64 8]) (results_row_tmp2 rfl _ _ w.heap.size _ _ _ _ rfl (HZ2.out.row _) Try.underlying58 rfl HZI.out _ _ rfl rfl) rfl ⟨by rw [HR.out, HZE.out]; rfl, below_row HW2.out (Nat.le_refl _) _⟩
      · have hk1 : ((1 + (r1 : Int)) == 1) = false := by rw [beq_eq_false_iff_ne]; omega
        have HR := Lib.hid (opP_ok HGS.out hn11 HD.out HK.out (p4 := p1) (y := []) (by rw [if_neg (by rw [← HR1.out]; exact hr0)]; rfl))
        have HTO := Lib.hid (show Cm.toOp (n, (Cm.zero32, (0, ([] : List UInt8)))) = ⟨1 + (r1 : Int), lf, ⟨false, Cm.zero32, 0⟩, 0⟩ by unfold Cm.toOp; simp only []; rw [← HR1.out, ← HLF.out, ← HQ.out]; rfl)
        have HYE := HXE
        have HYS := Lib.hid (show Z.size = X.size by rw [HZS.out, HXE.out, HF0.out])
        have HYI := Lib.hid (show (Try.prog.info? 58).map (·.size) = some X.size by rw [HXE.out, HF0.out]; exact infoO37)
        have HYA := Lib.hid (show X.all (·.oneCell') = true by rw [HXE.out]; exact opCells_all _)
        clear hr0
        go_wp2_with (first | (refine at_dst 37 rfl ?_; go_must (refine wpList_build_as rfl 58 _ rfl [(0, .int .i64 (1 + (r1 : Int))), (1, .bool lf)] rfl (opCells ⟨1 + (r1 : Int), lf, ⟨false, Cm.zero32, 0⟩, 0⟩).toArray (by kernel_rfl) ?_); rw [← HXE.out]) | (refine at_sto 58 (.tmp 10) (.tmp 37) rfl ?_; go_must (refine wpList_store_row rfl 58 (.tmp 10) (.tmp 37) rfl (w.heap.size + 1) X rfl rfl 58 Z HAZ.out HXI2.out (by rw [HXS2.out]; exact HZS.out) HXA2.out ?_); rw [HAX.out]) | (refine at_lod 58 (.tmp 10) rfl ?_; go_must (refine wpList_load_row rfl 58 (.tmp 10) rfl (w.heap.size + 1) rfl _ X (0, 0) _ HX2.out Try.underlying58 rfl HYI.out ?_)) | (refine at_sto 58 (.tmp 4) (.tmp 95) rfl ?_; go_must (refine wpList_store_row rfl 58 (.tmp 4) (.tmp 95) rfl w.heap.size X rfl rfl _ Z HZ2.out HYI.out HYS.out HYA.out ?_)))
        exact bodyPost_ret (v := .tuple #[.agg X, .int .i64 (p1 : Int), .int .i64 0]) (results_row_tmp2 rfl _ _ w.heap.size _ _ _ _ rfl (HZ2.out.row _) Try.underlying58 rfl HYI.out _ _ rfl rfl) rfl ⟨by rw [HR.out]; unfold rdoV; simp only []; rw [HTO.out, ← HYE.out]; first | done | rfl, below_row HW2.out (Nat.le_refl _) _⟩
    · have HD := Lib.hid (show (if n / 4 = 2 then Pa.digP 32 else Pa.noneP Cm.zero32) b p1 = .ok (Cm.zero32, p1) by rw [if_neg (by rw [← HQ.out]; decide)]; rfl)
      obtain ⟨⟨k, pk, f⟩, hgk⟩ : ∃ x, x = Wi.getNum b ((p1 : Nat) : Int) := ⟨_, rfl⟩
      have HGK := Lib.hid (posP_is hgk.symm)
      have hgks := hgk.symm
      have HGN := Lib.hid (HG.out (p1) w2)
      rw [← hgk] at HGN
      unfold getV at HGN
      simp only [] at HGN
      clear hgk
      go_wp2_with (first | (refine at_dst 37 rfl ?_; go_must (refine wpList_build_as rfl 58 _ rfl [(0, .int .i64 (1 + (r1 : Int))), (1, .bool lf)] rfl (opCells ⟨1 + (r1 : Int), lf, ⟨false, Cm.zero32, 0⟩, 0⟩).toArray (by kernel_rfl) ?_); rw [← HXE.out]) | (refine at_sto 58 (.tmp 10) (.tmp 37) rfl ?_; go_must (refine wpList_store_row rfl 58 (.tmp 10) (.tmp 37) rfl (w.heap.size + 1) X rfl rfl 58 Z HAZ.out HXI2.out (by rw [HXS2.out]; exact HZS.out) HXA2.out ?_); rw [HAX.out]) | (refine at_dst 37 rfl ?_; go_must (refine wpList_build_as rfl 58 _ rfl [(0, .int .i64 (1 + (r1 : Int))), (1, .bool lf)] rfl (opCells ⟨1 + (r1 : Int), lf, ⟨false, Cm.zero32, 0⟩, 0⟩).toArray (by kernel_rfl) ?_); rw [← HXE.out]) | (refine at_sto 58 (.tmp 10) (.tmp 37) rfl ?_; go_must (refine wpList_store_row rfl 58 (.tmp 10) (.tmp 37) rfl (w.heap.size + 1) X rfl rfl 58 Z HAZ.out HXI2.out (by rw [HXS2.out]; exact HZS.out) HXA2.out ?_); rw [HAX.out]))
      refine HGN.out.mono ?_; rintro e'' w9 ⟨rfl, rfl⟩
      by_cases hf : f = 0
      · subst hf
        obtain ⟨hk63, hpk⟩ := getNum_lim' hgks
        clear hgks
        by_cases hk0 : k = 0
        · subst hk0
          have HR := Lib.hid (opP_pos HGS.out hn11 HD.out (e := 7) (by rw [if_pos (by rw [← HQ.out]; decide), HGK.out]; rfl))
          go_wp2_with (first | (refine at_dst 37 rfl ?_; go_must (refine wpList_build_as rfl 58 _ rfl [(0, .int .i64 (1 + (r1 : Int))), (1, .bool lf)] rfl (opCells ⟨1 + (r1 : Int), lf, ⟨false, Cm.zero32, 0⟩, 0⟩).toArray (by kernel_rfl) ?_); rw [← HXE.out]) | (refine at_sto 58 (.tmp 10) (.tmp 37) rfl ?_; go_must (refine wpList_store_row rfl 58 (.tmp 10) (.tmp 37) rfl (w.heap.size + 1) X rfl rfl 58 Z HAZ.out HXI2.out (by rw [HXS2.out]; exact HZS.out) HXA2.out ?_); rw [HAX.out]) | (refine at_sto 58 (.tmp 4) (.tmp 71) rfl ?_; go_must (refine wpList_store_row rfl 58 (.tmp 4) (.tmp 71) rfl w.heap.size Z rfl rfl _ Z HZ2.out HZI.out rfl HOZ.out ?_)))
          exact bodyPost_ret (v := .tuple #[.agg Z, .int .i64 0, .int .i64 7]) (results_row_tmp2 rfl _ _ w.heap.size _ _ _ _ rfl (HZ2.out.row _) Try.underlying58 rfl HZI.out _ _ rfl rfl) rfl ⟨by rw [HR.out, HZE.out]; rfl, below_row HW2.out (Nat.le_refl _) _⟩
        · have hkb : ((k : Int) == 0) = false := by rw [beq_eq_false_iff_ne]; omega
          have hkb2 : ¬ k = 0 := hk0
          have HK := Lib.hid (show (if 0 < n / 4 then Pa.posP 7 else Pa.noneP 0) b (p1) = .ok (k, pk) by rw [if_pos (by rw [← HQ.out]; decide), HGK.out, if_neg (by decide), if_neg hk0])
          obtain ⟨X5, hX5⟩ : ∃ Y, Y = (opCells ⟨1 + (r1 : Int), lf, ⟨true, Cm.zero32, (k : Int)⟩, 0⟩).toArray := ⟨_, rfl⟩
          have HXE5 := Lib.hid hX5
          obtain ⟨w5, hw5⟩ : ∃ y, y = (w2.setCell ⟨w.heap.size + 1, 2, none⟩ (.bool true)).setCell ⟨w.heap.size + 1, 35, none⟩ (.int .i64 (k : Int)) := ⟨_, rfl⟩
          have HX5 := Lib.hid (show Blk w5 (w.heap.size + 1) 58 X5 by rw [hw5, hX5]; have h := (HX2.out.set_ 2 (.bool true)).set_ 35 (.int .i64 (k : Int)); rw [HXE.out, op_own, op_n _ _ _ _ _ _ _ rfl] at h; exact h)
          have HZ5 := Lib.hid (show Blk w5 w.heap.size 58 Z by rw [hw5]; exact (HZ2.out.far (p := ⟨w.heap.size + 1, 2, none⟩) (by simp) _).far (p := ⟨w.heap.size + 1, 35, none⟩) (by simp) _)
          have HW5 := Lib.hid (show Below w.heap.size w w5 by rw [hw5]; exact (HW2.out.setCell (p := ⟨w.heap.size + 1, 2, none⟩) (Nat.le_succ _) _).setCell (p := ⟨w.heap.size + 1, 35, none⟩) (Nat.le_succ _) _)
          have hsz : X.size = 37 := by rw [HXE.out]; exact opA_size rfl
          obtain ⟨v2, c2⟩ : ∃ v, w2.cell? ⟨w.heap.size + 1, 2, none⟩ = some v := by rw [HX2.out.cell]; exact ⟨_, Array.getElem?_eq_getElem (by omega)⟩
          have f2 := HX2.out.frozen 2
          have HS2 := Lib.hid (HX2.out.set_ 2 (.bool true))
          obtain ⟨v35, c35⟩ : ∃ v, (w2.setCell ⟨w.heap.size + 1, 2, none⟩ (.bool true)).cell? ⟨w.heap.size + 1, 35, none⟩ = some v := by rw [HS2.out.cell]; exact ⟨_, Array.getElem?_eq_getElem (by simp; omega)⟩
          have f35 := HS2.out.frozen 35
          replace hw5 := hw5.symm
          clear hX5 hk0 hsz
          have hstop : True := trivial
          have c0 : w5.cell? ⟨w.heap.size + 1, 0, none⟩ = some (.int .i64 (1 + (r1 : Int))) := by rw [HX5.out.cell, HXE5.out, List.getElem?_toArray]; rfl
          have HF0 := Lib.hid (show ∀ b', (opCells ⟨1 + (r1 : Int), lf, ⟨true, Cm.zero32, (k : Int)⟩, b'⟩).toArray.size = 37 from fun b' => opA_size rfl)
          by_cases hr0 : r1 = 0
          · have hk1 : ((1 + (r1 : Int)) == 1) = true := by rw [beq_iff_eq]; omega
            by_cases hl : pk < b.length
            · have hlI : (pk : Int) < (b.length : Int) := by omega
              have hge : decide ((b.length : Int) ≤ (pk : Int)) = false := decide_eq_false (by omega)
              have hge2 : decide (b.length ≤ pk) = false := decide_eq_false (by omega)
              have hix := fun w => run_str_index (P := Try.prog) Try.underlying9 b pk hl w
              have hwp : IntKind.i64.wrap ((pk : Int) + 1) = (pk : Int) + 1 := IntWalk.i64_in _ (by omega)
              have HR := Lib.hid (opP_ok HGS.out hn11 HD.out HK.out (p4 := pk + 1) (y := [b[pk]]) (by rw [if_pos (by rw [← HR1.out]; exact hr0)]; unfold Pa.digP; rw [if_neg (by omega), List.drop_eq_getElem_cons hl]; rfl))
              obtain ⟨y, hy⟩ : ∃ y, y = b[pk] := ⟨_, rfl⟩
              rw [← hy] at hix HR
              have HTO := Lib.hid (show Cm.toOp (n, (Cm.zero32, (k, [y]))) = ⟨1 + (r1 : Int), lf, ⟨true, Cm.zero32, (k : Int)⟩, y⟩ by unfold Cm.toOp; simp only []; rw [← HR1.out, ← HLF.out, ← HQ.out]; rfl)
              obtain ⟨Y, hY⟩ : ∃ Y, Y = (opCells ⟨1 + (r1 : Int), lf, ⟨true, Cm.zero32, (k : Int)⟩, y⟩).toArray := ⟨_, rfl⟩
              have HYE := Lib.hid hY
              have HXY := Lib.hid (show Blk (w5.setCell ⟨w.heap.size + 1, 36, none⟩ (.int .u8 (y.toNat : Int))) (w.heap.size + 1) 58 Y by have h := HX5.out.set_ 36 (.int .u8 (y.toNat : Int)); rw [HXE5.out, op_byte _ _ _ _ _ _ _ rfl, ← hY] at h; exact h)
              have HZY := Lib.hid (HZ5.out.far (p := ⟨w.heap.size + 1, 36, none⟩) (by simp) (.int .u8 (y.toNat : Int)))
              have HWY := Lib.hid (HW5.out.setCell (p := ⟨w.heap.size + 1, 36, none⟩) (Nat.le_succ _) (.int .u8 (y.toNat : Int)))
              have HYS := Lib.hid (show Z.size = Y.size by rw [HZS.out, hY, HF0.out])
              have HYI := Lib.hid (show (Try.prog.info? 58).map (·.size) = some Y.size by rw [hY, HF0.out]; exact infoO37)
              have HYA := Lib.hid (show Y.all (·.oneCell') = true by rw [hY]; exact opCells_all _)
              have c36 : ∃ v, w5.cell? ⟨w.heap.size + 1, 36, none⟩ = some v := by rw [HX5.out.cell, HXE5.out]; exact ⟨_, Array.getElem?_eq_getElem (by rw [HF0.out]; decide)⟩
              obtain ⟨v36, c36⟩ := c36
              have f36 := HX5.out.frozen 36
              clear hy hY hl hr0
              go_wp2_with (first | (refine at_dst 37 rfl ?_; go_must (refine wpList_build_as rfl 58 _ rfl [(0, .int .i64 (1 + (r1 : Int))), (1, .bool lf)] rfl (opCells ⟨1 + (r1 : Int), lf, ⟨false, Cm.zero32, 0⟩, 0⟩).toArray (by kernel_rfl) ?_); rw [← HXE.out]) | (refine at_sto 58 (.tmp 10) (.tmp 37) rfl ?_; go_must (refine wpList_store_row rfl 58 (.tmp 10) (.tmp 37) rfl (w.heap.size + 1) X rfl rfl 58 Z HAZ.out HXI2.out (by rw [HXS2.out]; exact HZS.out) HXA2.out ?_); rw [HAX.out]) | (refine at_lod 58 (.tmp 10) rfl ?_; go_must (refine wpList_load_row rfl 58 (.tmp 10) rfl (w.heap.size + 1) rfl _ Y (0, 0) _ HXY.out Try.underlying58 rfl HYI.out ?_)) | (refine at_sto 58 (.tmp 4) (.tmp 95) rfl ?_; go_must (refine wpList_store_row rfl 58 (.tmp 4) (.tmp 95) rfl w.heap.size Y rfl rfl _ Z HZY.out HYI.out HYS.out HYA.out ?_)))
              exact bodyPost_ret (v := .tuple #[.agg Y, .int .i64 ((pk : Int) + 1), .int .i64 0]) (results_row_tmp2 rfl _ _ w.heap.size _ _ _ _ rfl (HZY.out.row _) Try.underlying58 rfl HYI.out _ _ rfl rfl) rfl ⟨by rw [HR.out]; unfold rdoV; simp only []; rw [HTO.out, ← HYE.out]; first | done | rfl, below_row HWY.out (Nat.le_refl _) _⟩
            · have hlI : ¬ (pk : Int) < (b.length : Int) := by omega
              have hge : decide ((b.length : Int) ≤ (pk : Int)) = true := decide_eq_true (by omega)
              have hge2 : decide (b.length ≤ pk) = true := decide_eq_true (by omega)
              have HR := Lib.hid (opP_byte HGS.out hn11 HD.out HK.out (e := 8) (by rw [if_pos (by rw [← HR1.out]; exact hr0)]; unfold Pa.digP; rw [if_pos (by omega)]))
              clear hl hr0
              go_wp2_with (first | (refine at_dst 37 rfl ?_; go_must (refine wpList_build_as rfl 58 _ rfl [(0, .int .i64 (1 + (r1 : Int))), (1, .bool lf)] rfl (opCells ⟨1 + (r1 : Int), lf, ⟨false, Cm.zero32, 0⟩, 0⟩).toArray (by kernel_rfl) ?_); rw [← HXE.out]) | (refine at_sto 58 (.tmp 10) (.tmp 37) rfl ?_; go_must (refine wpList_store_row rfl 58 (.tmp 10) (.tmp 37) rfl (w.heap.size + 1) X rfl rfl 58 Z HAZ.out HXI2.out (by rw [HXS2.out]; exact HZS.out) HXA2.out ?_); rw [HAX.out]) | (refine at_sto 58 (.tmp 4) (.tmp 88) rfl ?_; go_must (refine wpList_store_row rfl 58 (.tmp 4) (.tmp 88) rfl w.heap.size Z rfl rfl _ Z HZ5.out HZI.out rfl HOZ.out ?_)))
              exact bodyPost_ret (v := .tuple #[.agg Z, .int .i64 0, .int .i64 8]) (results_row_tmp2 rfl _ _ w.heap.size _ _ _ _ rfl (HZ5.out.row _) Try.underlying58 rfl HZI.out _ _ rfl rfl) rfl ⟨by rw [HR.out, HZE.out]; rfl, below_row HW5.out (Nat.le_refl _) _⟩
          · have hk1 : ((1 + (r1 : Int)) == 1) = false := by rw [beq_eq_false_iff_ne]; omega
            have HR := Lib.hid (opP_ok HGS.out hn11 HD.out HK.out (p4 := pk) (y := []) (by rw [if_neg (by rw [← HR1.out]; exact hr0)]; rfl))
            have HTO := Lib.hid (show Cm.toOp (n, (Cm.zero32, (k, ([] : List UInt8)))) = ⟨1 + (r1 : Int), lf, ⟨true, Cm.zero32, (k : Int)⟩, 0⟩ by unfold Cm.toOp; simp only []; rw [← HR1.out, ← HLF.out, ← HQ.out]; rfl)
            have HYE := HXE5
            have HYS := Lib.hid (show Z.size = X5.size by rw [HZS.out, HXE5.out, HF0.out])
            have HYI := Lib.hid (show (Try.prog.info? 58).map (·.size) = some X5.size by rw [HXE5.out, HF0.out]; exact infoO37)
            have HYA := Lib.hid (show X5.all (·.oneCell') = true by rw [HXE5.out]; exact opCells_all _)
            clear hr0
            go_wp2_with (first | (refine at_dst 37 rfl ?_; go_must (refine wpList_build_as rfl 58 _ rfl [(0, .int .i64 (1 + (r1 : Int))), (1, .bool lf)] rfl (opCells ⟨1 + (r1 : Int), lf, ⟨false, Cm.zero32, 0⟩, 0⟩).toArray (by kernel_rfl) ?_); rw [← HXE.out]) | (refine at_sto 58 (.tmp 10) (.tmp 37) rfl ?_; go_must (refine wpList_store_row rfl 58 (.tmp 10) (.tmp 37) rfl (w.heap.size + 1) X rfl rfl 58 Z HAZ.out HXI2.out (by rw [HXS2.out]; exact HZS.out) HXA2.out ?_); rw [HAX.out]) | (refine at_lod 58 (.tmp 10) rfl ?_; go_must (refine wpList_load_row rfl 58 (.tmp 10) rfl (w.heap.size + 1) rfl _ X5 (0, 0) _ HX5.out Try.underlying58 rfl HYI.out ?_)) | (refine at_sto 58 (.tmp 4) (.tmp 95) rfl ?_; go_must (refine wpList_store_row rfl 58 (.tmp 4) (.tmp 95) rfl w.heap.size X5 rfl rfl _ Z HZ5.out HYI.out HYS.out HYA.out ?_)))
            exact bodyPost_ret (v := .tuple #[.agg X5, .int .i64 (pk : Int), .int .i64 0]) (results_row_tmp2 rfl _ _ w.heap.size _ _ _ _ rfl (HZ5.out.row _) Try.underlying58 rfl HYI.out _ _ rfl rfl) rfl ⟨by rw [HR.out]; unfold rdoV; simp only []; rw [HTO.out, ← HYE.out]; first | done | rfl, below_row HW5.out (Nat.le_refl _) _⟩
      · have HR := Lib.hid (opP_pos HGS.out hn11 HD.out (e := f) (by rw [if_pos (by rw [← HQ.out]; decide), HGK.out, if_pos hf]))
        have hfb : ((f : Int) != 0) = true := by rw [bne_iff_ne]; omega
        have hfb2 : ¬ f = 0 := hf
        clear hgks hf
        go_wp2_with (first | (refine at_dst 37 rfl ?_; go_must (refine wpList_build_as rfl 58 _ rfl [(0, .int .i64 (1 + (r1 : Int))), (1, .bool lf)] rfl (opCells ⟨1 + (r1 : Int), lf, ⟨false, Cm.zero32, 0⟩, 0⟩).toArray (by kernel_rfl) ?_); rw [← HXE.out]) | (refine at_sto 58 (.tmp 10) (.tmp 37) rfl ?_; go_must (refine wpList_store_row rfl 58 (.tmp 10) (.tmp 37) rfl (w.heap.size + 1) X rfl rfl 58 Z HAZ.out HXI2.out (by rw [HXS2.out]; exact HZS.out) HXA2.out ?_); rw [HAX.out]) | (refine at_sto 58 (.tmp 4) (.tmp 67) rfl ?_; go_must (refine wpList_store_row rfl 58 (.tmp 4) (.tmp 67) rfl w.heap.size Z rfl rfl _ Z HZ2.out HZI.out rfl HOZ.out ?_)))
        exact bodyPost_ret (v := .tuple #[.agg Z, .int .i64 0, .int .i64 (f : Int)]) (results_row_tmp2 rfl _ _ w.heap.size _ _ _ _ rfl (HZ2.out.row _) Try.underlying58 rfl HZI.out _ _ rfl rfl) rfl ⟨by rw [HR.out, HZE.out]; rfl, below_row HW2.out (Nat.le_refl _) _⟩
    · have HDG := Lib.hid (rdig_any b p1 w2 hb hp1)
      by_cases hlen : b.length < p1 + 32
      · rw [show rdgV b p1 = .tuple #[digV Cm.zero32, .bool false] by unfold rdgV; rw [if_pos hlen]] at HDG
        unfold digV at HDG
        obtain ⟨D0, hD0⟩ : ∃ D, D = (bv Cm.zero32).toArray := ⟨_, rfl⟩
        have HDA := Lib.hid (bv_all Cm.zero32)
        have HDS := Lib.hid (show (bv Cm.zero32).toArray.size = 32 by rw [bv_size]; rfl)
        rw [← hD0] at HDG HDA HDS
        have HDI := Lib.hid (show (Try.prog.info? 47).map (·.size) = some D0.size by rw [HDS.out]; exact infoD32)
        have HR := Lib.hid (opP_dig HGS.out hn11 HQ.out.symm hlen)
        clear hD0 hlen
        go_wp2_with (first | (refine at_dst 37 rfl ?_; go_must (refine wpList_build_as rfl 58 _ rfl [(0, .int .i64 (1 + (r1 : Int))), (1, .bool lf)] rfl (opCells ⟨1 + (r1 : Int), lf, ⟨false, Cm.zero32, 0⟩, 0⟩).toArray (by kernel_rfl) ?_); rw [← HXE.out]) | (refine at_sto 58 (.tmp 10) (.tmp 37) rfl ?_; go_must (refine wpList_store_row rfl 58 (.tmp 10) (.tmp 37) rfl (w.heap.size + 1) X rfl rfl 58 Z HAZ.out HXI2.out (by rw [HXS2.out]; exact HZS.out) HXA2.out ?_); rw [HAX.out]) | (refine at_dst 37 rfl ?_; go_must (refine wpList_build_as rfl 58 _ rfl [(0, .int .i64 (1 + (r1 : Int))), (1, .bool lf)] rfl (opCells ⟨1 + (r1 : Int), lf, ⟨false, Cm.zero32, 0⟩, 0⟩).toArray (by kernel_rfl) ?_); rw [← HXE.out]) | (refine at_sto 58 (.tmp 10) (.tmp 37) rfl ?_; go_must (refine wpList_store_row rfl 58 (.tmp 10) (.tmp 37) rfl (w.heap.size + 1) X rfl rfl 58 Z HAZ.out HXI2.out (by rw [HXS2.out]; exact HZS.out) HXA2.out ?_); rw [HAX.out]))
        refine HDG.out.mono ?_; rintro e'' w3 ⟨rfl, hb3⟩
        have HZ3 := Lib.hid ((HZ2.out.later hb3).alloc (.cells D0 47))
        have HW3 := Lib.hid ((HW2.out.trans (hb3.mono HW2.out.size)).alloc (HW2.out.trans (hb3.mono HW2.out.size)).size (.cells D0 47))
        clear hb3
        go_wp2_with (first | (refine at_dst 37 rfl ?_; go_must (refine wpList_build_as rfl 58 _ rfl [(0, .int .i64 (1 + (r1 : Int))), (1, .bool lf)] rfl (opCells ⟨1 + (r1 : Int), lf, ⟨false, Cm.zero32, 0⟩, 0⟩).toArray (by kernel_rfl) ?_); rw [← HXE.out]) | (refine at_sto 58 (.tmp 10) (.tmp 37) rfl ?_; go_must (refine wpList_store_row rfl 58 (.tmp 10) (.tmp 37) rfl (w.heap.size + 1) X rfl rfl 58 Z HAZ.out HXI2.out (by rw [HXS2.out]; exact HZS.out) HXA2.out ?_); rw [HAX.out]) | (refine at_sto 47 (.tmp 11) (.tmp 45) rfl ?_; go_must (refine wpList_store_row rfl 47 (.tmp 11) (.tmp 45) rfl w3.heap.size D0 rfl rfl 47 _ (heap_alloc_new w3 _) HDI.out (by rw [HDS.out]; rfl) HDA.out ?_); rw [World.setRow_alloc_new]) | (refine at_sto 58 (.tmp 4) (.tmp 49) rfl ?_; go_must (refine wpList_store_row rfl 58 (.tmp 4) (.tmp 49) rfl w.heap.size Z rfl rfl _ Z HZ3.out HZI.out rfl HOZ.out ?_)))
        exact bodyPost_ret (v := .tuple #[.agg Z, .int .i64 0, .int .i64 8]) (results_row_tmp2 rfl _ _ w.heap.size _ _ _ _ rfl (HZ3.out.row _) Try.underlying58 rfl HZI.out _ _ rfl rfl) rfl ⟨by rw [HR.out, HZE.out]; rfl, below_row HW3.out (Nat.le_refl _) _⟩
      · rw [show rdgV b p1 = .tuple #[digV ((b.drop p1).take 32), .bool true] by unfold rdgV; rw [if_neg hlen]] at HDG
        have HD := Lib.hid (show (if n / 4 = 2 then Pa.digP 32 else Pa.noneP Cm.zero32) b p1 = .ok ((b.drop p1).take 32, p1 + 32) by rw [if_pos (by rw [← HQ.out])]; unfold Pa.digP; rw [if_neg hlen])
        have hTl : ((b.drop p1).take 32).length = 32 := by rw [List.length_take, List.length_drop]; omega
        obtain ⟨T, hT⟩ : ∃ T, T = (b.drop p1).take 32 := ⟨_, rfl⟩
        rw [← hT] at HDG HD hTl
        unfold digV at HDG
        have HTL := Lib.hid hTl
        obtain ⟨D0, hD0⟩ : ∃ D, D = (bv T).toArray := ⟨_, rfl⟩
        have HDA := Lib.hid (bv_all T)
        have HDS := Lib.hid (show (bv T).toArray.size = 32 by rw [bv_size]; exact hTl)
        rw [← hD0] at HDG HDA HDS
        have HDE := Lib.hid hD0
        have HDI := Lib.hid (show (Try.prog.info? 47).map (·.size) = some D0.size by rw [HDS.out]; exact infoD32)
        have hwp2 : IntKind.i64.wrap ((p1 : Int) + 32) = (p1 : Int) + 32 := IntWalk.i64_in _ (by omega)
        clear hT hD0 hlen hTl
        go_wp2_with (first | (refine at_dst 37 rfl ?_; go_must (refine wpList_build_as rfl 58 _ rfl [(0, .int .i64 (1 + (r1 : Int))), (1, .bool lf)] rfl (opCells ⟨1 + (r1 : Int), lf, ⟨false, Cm.zero32, 0⟩, 0⟩).toArray (by kernel_rfl) ?_); rw [← HXE.out]) | (refine at_sto 58 (.tmp 10) (.tmp 37) rfl ?_; go_must (refine wpList_store_row rfl 58 (.tmp 10) (.tmp 37) rfl (w.heap.size + 1) X rfl rfl 58 Z HAZ.out HXI2.out (by rw [HXS2.out]; exact HZS.out) HXA2.out ?_); rw [HAX.out]) | (refine at_dst 37 rfl ?_; go_must (refine wpList_build_as rfl 58 _ rfl [(0, .int .i64 (1 + (r1 : Int))), (1, .bool lf)] rfl (opCells ⟨1 + (r1 : Int), lf, ⟨false, Cm.zero32, 0⟩, 0⟩).toArray (by kernel_rfl) ?_); rw [← HXE.out]) | (refine at_sto 58 (.tmp 10) (.tmp 37) rfl ?_; go_must (refine wpList_store_row rfl 58 (.tmp 10) (.tmp 37) rfl (w.heap.size + 1) X rfl rfl 58 Z HAZ.out HXI2.out (by rw [HXS2.out]; exact HZS.out) HXA2.out ?_); rw [HAX.out]))
        refine HDG.out.mono ?_; rintro e'' w3 ⟨rfl, hb3⟩
        obtain ⟨w4, hw4⟩ : ∃ y, y = w3.alloc (.cells D0 47) := ⟨_, rfl⟩
        have HN4 := Lib.hid (show Blk w4 w3.heap.size 47 D0 by rw [hw4]; exact Blk.new w3 _ _)
        have HX4 := Lib.hid (show Blk w4 (w.heap.size + 1) 58 X by rw [hw4]; exact (HX2.out.later hb3).alloc _)
        have HZ4 := Lib.hid (show Blk w4 w.heap.size 58 Z by rw [hw4]; exact (HZ2.out.later hb3).alloc _)
        have HW4 := Lib.hid (show Below w.heap.size w w4 by rw [hw4]; exact (HW2.out.trans (hb3.mono HW2.out.size)).alloc (HW2.out.trans (hb3.mono HW2.out.size)).size _)
        obtain ⟨X4, hX4⟩ : ∃ Y, Y = (opCells ⟨1 + (r1 : Int), lf, ⟨false, T, 0⟩, 0⟩).toArray := ⟨_, rfl⟩
        have HXE4 := Lib.hid hX4
        obtain ⟨w6, hw6⟩ : ∃ y, y = w4.setRow (w.heap.size + 1) (over X 3 D0.toList) := ⟨_, rfl⟩
        have HX6 := Lib.hid (show Blk w6 (w.heap.size + 1) 58 X4 by rw [hw6]; have h := HX4.out.row (over X 3 D0.toList); rw [show over X 3 D0.toList = X4 from by rw [HXE.out, HDE.out, op_dig _ _ _ _ _ _ _ rfl HTL.out, ← hX4]] at h ⊢; exact h)
        have HZ6 := Lib.hid (show Blk w6 w.heap.size 58 Z by rw [hw6]; exact HZ4.out.farRow (by simp) _)
        have HW6 := Lib.hid (show Below w.heap.size w w6 by rw [hw6]; exact below_row HW4.out (Nat.le_succ _) _)
        have HXS := Lib.hid (show X.size = 37 by rw [HXE.out]; exact opA_size rfl)
        replace hw4 := hw4.symm
        replace hw6 := hw6.symm
        clear hb3 hX4
        go_wp2_with (first | (refine at_dst 37 rfl ?_; go_must (refine wpList_build_as rfl 58 _ rfl [(0, .int .i64 (1 + (r1 : Int))), (1, .bool lf)] rfl (opCells ⟨1 + (r1 : Int), lf, ⟨false, Cm.zero32, 0⟩, 0⟩).toArray (by kernel_rfl) ?_); rw [← HXE.out]) | (refine at_sto 58 (.tmp 10) (.tmp 37) rfl ?_; go_must (refine wpList_store_row rfl 58 (.tmp 10) (.tmp 37) rfl (w.heap.size + 1) X rfl rfl 58 Z HAZ.out HXI2.out (by rw [HXS2.out]; exact HZS.out) HXA2.out ?_); rw [HAX.out]) | (refine at_sto 47 (.tmp 11) (.tmp 45) rfl ?_; go_must (refine wpList_store_row rfl 47 (.tmp 11) (.tmp 45) rfl w3.heap.size D0 rfl rfl 47 _ (heap_alloc_new w3 _) HDI.out (by rw [HDS.out]; rfl) HDA.out ?_); rw [World.setRow_alloc_new]) | (refine at_lod 47 (.tmp 11) rfl ?_; go_must (refine wpList_load_row rfl 47 (.tmp 11) rfl w3.heap.size rfl _ D0 (0, 0) _ HN4.out Try.underlying47 rfl HDI.out ?_)) | (refine at_sto 47 (.tmp 52) (.tmp 50) rfl ?_; go_must (refine wpList_store_over rfl 47 (.tmp 52) (.tmp 50) rfl (w.heap.size + 1) 3 D0 rfl rfl 58 X HX4.out (by rw [HXS.out, HDS.out]; decide) HDI.out HDA.out ?_)))
        obtain ⟨⟨k, pk, f⟩, hgk⟩ : ∃ x, x = Wi.getNum b ((p1 + 32 : Nat) : Int) := ⟨_, rfl⟩
        have HGK := Lib.hid (posP_is hgk.symm)
        have hgks := hgk.symm
        have HGN := Lib.hid (HG.out (p1 + 32) w6)
        rw [← hgk] at HGN
        unfold getV at HGN
        simp only [] at HGN
        rw [Int.natCast_add] at HGN
        simp only [show ((32 : Nat) : Int) = 32 from rfl] at HGN
        clear hgk
        go_wp2_with (first | (refine at_dst 37 rfl ?_; go_must (refine wpList_build_as rfl 58 _ rfl [(0, .int .i64 (1 + (r1 : Int))), (1, .bool lf)] rfl (opCells ⟨1 + (r1 : Int), lf, ⟨false, Cm.zero32, 0⟩, 0⟩).toArray (by kernel_rfl) ?_); rw [← HXE.out]) | (refine at_sto 58 (.tmp 10) (.tmp 37) rfl ?_; go_must (refine wpList_store_row rfl 58 (.tmp 10) (.tmp 37) rfl (w.heap.size + 1) X rfl rfl 58 Z HAZ.out HXI2.out (by rw [HXS2.out]; exact HZS.out) HXA2.out ?_); rw [HAX.out]) | (refine at_dst 37 rfl ?_; go_must (refine wpList_build_as rfl 58 _ rfl [(0, .int .i64 (1 + (r1 : Int))), (1, .bool lf)] rfl (opCells ⟨1 + (r1 : Int), lf, ⟨false, Cm.zero32, 0⟩, 0⟩).toArray (by kernel_rfl) ?_); rw [← HXE.out]) | (refine at_sto 58 (.tmp 10) (.tmp 37) rfl ?_; go_must (refine wpList_store_row rfl 58 (.tmp 10) (.tmp 37) rfl (w.heap.size + 1) X rfl rfl 58 Z HAZ.out HXI2.out (by rw [HXS2.out]; exact HZS.out) HXA2.out ?_); rw [HAX.out]))
        refine HGN.out.mono ?_; rintro e'' w9 ⟨rfl, rfl⟩
        by_cases hf : f = 0
        · subst hf
          obtain ⟨hk63, hpk⟩ := getNum_lim' hgks
          clear hgks
          by_cases hk0 : k = 0
          · subst hk0
            have HR := Lib.hid (opP_pos HGS.out hn11 HD.out (e := 7) (by rw [if_pos (by rw [← HQ.out]; decide), HGK.out]; rfl))
            go_wp2_with (first | (refine at_dst 37 rfl ?_; go_must (refine wpList_build_as rfl 58 _ rfl [(0, .int .i64 (1 + (r1 : Int))), (1, .bool lf)] rfl (opCells ⟨1 + (r1 : Int), lf, ⟨false, Cm.zero32, 0⟩, 0⟩).toArray (by kernel_rfl) ?_); rw [← HXE.out]) | (refine at_sto 58 (.tmp 10) (.tmp 37) rfl ?_; go_must (refine wpList_store_row rfl 58 (.tmp 10) (.tmp 37) rfl (w.heap.size + 1) X rfl rfl 58 Z HAZ.out HXI2.out (by rw [HXS2.out]; exact HZS.out) HXA2.out ?_); rw [HAX.out]) | (refine at_sto 58 (.tmp 4) (.tmp 71) rfl ?_; go_must (refine wpList_store_row rfl 58 (.tmp 4) (.tmp 71) rfl w.heap.size Z rfl rfl _ Z HZ6.out HZI.out rfl HOZ.out ?_)))
            exact bodyPost_ret (v := .tuple #[.agg Z, .int .i64 0, .int .i64 7]) (results_row_tmp2 rfl _ _ w.heap.size _ _ _ _ rfl (HZ6.out.row _) Try.underlying58 rfl HZI.out _ _ rfl rfl) rfl ⟨by rw [HR.out, HZE.out]; rfl, below_row HW6.out (Nat.le_refl _) _⟩
          · have hkb : ((k : Int) == 0) = false := by rw [beq_eq_false_iff_ne]; omega
            have hkb2 : ¬ k = 0 := hk0
            have HK := Lib.hid (show (if 0 < n / 4 then Pa.posP 7 else Pa.noneP 0) b (p1 + 32) = .ok (k, pk) by rw [if_pos (by rw [← HQ.out]; decide), HGK.out, if_neg (by decide), if_neg hk0])
            obtain ⟨X5, hX5⟩ : ∃ Y, Y = (opCells ⟨1 + (r1 : Int), lf, ⟨false, T, (k : Int)⟩, 0⟩).toArray := ⟨_, rfl⟩
            have HXE5 := Lib.hid hX5
            obtain ⟨w5, hw5⟩ : ∃ y, y = (w6.setCell ⟨w.heap.size + 1, 2, none⟩ (.bool false)).setCell ⟨w.heap.size + 1, 35, none⟩ (.int .i64 (k : Int)) := ⟨_, rfl⟩
            have HX5 := Lib.hid (show Blk w5 (w.heap.size + 1) 58 X5 by rw [hw5, hX5]; have h := (HX6.out.set_ 2 (.bool false)).set_ 35 (.int .i64 (k : Int)); rw [HXE4.out, op_own, op_n _ _ _ _ _ _ _ HTL.out] at h; exact h)
            have HZ5 := Lib.hid (show Blk w5 w.heap.size 58 Z by rw [hw5]; exact (HZ6.out.far (p := ⟨w.heap.size + 1, 2, none⟩) (by simp) _).far (p := ⟨w.heap.size + 1, 35, none⟩) (by simp) _)
            have HW5 := Lib.hid (show Below w.heap.size w w5 by rw [hw5]; exact (HW6.out.setCell (p := ⟨w.heap.size + 1, 2, none⟩) (Nat.le_succ _) _).setCell (p := ⟨w.heap.size + 1, 35, none⟩) (Nat.le_succ _) _)
            have hsz : X4.size = 37 := by rw [HXE4.out]; exact opA_size HTL.out
            obtain ⟨v2, c2⟩ : ∃ v, w6.cell? ⟨w.heap.size + 1, 2, none⟩ = some v := by rw [HX6.out.cell]; exact ⟨_, Array.getElem?_eq_getElem (by omega)⟩
            have f2 := HX6.out.frozen 2
            have HS2 := Lib.hid (HX6.out.set_ 2 (.bool false))
            obtain ⟨v35, c35⟩ : ∃ v, (w6.setCell ⟨w.heap.size + 1, 2, none⟩ (.bool false)).cell? ⟨w.heap.size + 1, 35, none⟩ = some v := by rw [HS2.out.cell]; exact ⟨_, Array.getElem?_eq_getElem (by simp; omega)⟩
            have f35 := HS2.out.frozen 35
            replace hw5 := hw5.symm
            clear hX5 hk0 hsz
            have hstop : True := trivial
            have c0 : w5.cell? ⟨w.heap.size + 1, 0, none⟩ = some (.int .i64 (1 + (r1 : Int))) := by rw [HX5.out.cell, HXE5.out, List.getElem?_toArray]; rfl
            have HF0 := Lib.hid (show ∀ b', (opCells ⟨1 + (r1 : Int), lf, ⟨false, T, (k : Int)⟩, b'⟩).toArray.size = 37 from fun b' => opA_size HTL.out)
            by_cases hr0 : r1 = 0
            · have hk1 : ((1 + (r1 : Int)) == 1) = true := by rw [beq_iff_eq]; omega
              by_cases hl : pk < b.length
              · have hlI : (pk : Int) < (b.length : Int) := by omega
                have hge : decide ((b.length : Int) ≤ (pk : Int)) = false := decide_eq_false (by omega)
                have hge2 : decide (b.length ≤ pk) = false := decide_eq_false (by omega)
                have hix := fun w => run_str_index (P := Try.prog) Try.underlying9 b pk hl w
                have hwp : IntKind.i64.wrap ((pk : Int) + 1) = (pk : Int) + 1 := IntWalk.i64_in _ (by omega)
                have HR := Lib.hid (opP_ok HGS.out hn11 HD.out HK.out (p4 := pk + 1) (y := [b[pk]]) (by rw [if_pos (by rw [← HR1.out]; exact hr0)]; unfold Pa.digP; rw [if_neg (by omega), List.drop_eq_getElem_cons hl]; rfl))
                obtain ⟨y, hy⟩ : ∃ y, y = b[pk] := ⟨_, rfl⟩
                rw [← hy] at hix HR
                have HTO := Lib.hid (show Cm.toOp (n, (T, (k, [y]))) = ⟨1 + (r1 : Int), lf, ⟨false, T, (k : Int)⟩, y⟩ by unfold Cm.toOp; simp only []; rw [← HR1.out, ← HLF.out, ← HQ.out]; rfl)
                obtain ⟨Y, hY⟩ : ∃ Y, Y = (opCells ⟨1 + (r1 : Int), lf, ⟨false, T, (k : Int)⟩, y⟩).toArray := ⟨_, rfl⟩
                have HYE := Lib.hid hY
                have HXY := Lib.hid (show Blk (w5.setCell ⟨w.heap.size + 1, 36, none⟩ (.int .u8 (y.toNat : Int))) (w.heap.size + 1) 58 Y by have h := HX5.out.set_ 36 (.int .u8 (y.toNat : Int)); rw [HXE5.out, op_byte _ _ _ _ _ _ _ HTL.out, ← hY] at h; exact h)
                have HZY := Lib.hid (HZ5.out.far (p := ⟨w.heap.size + 1, 36, none⟩) (by simp) (.int .u8 (y.toNat : Int)))
                have HWY := Lib.hid (HW5.out.setCell (p := ⟨w.heap.size + 1, 36, none⟩) (Nat.le_succ _) (.int .u8 (y.toNat : Int)))
                have HYS := Lib.hid (show Z.size = Y.size by rw [HZS.out, hY, HF0.out])
                have HYI := Lib.hid (show (Try.prog.info? 58).map (·.size) = some Y.size by rw [hY, HF0.out]; exact infoO37)
                have HYA := Lib.hid (show Y.all (·.oneCell') = true by rw [hY]; exact opCells_all _)
                have c36 : ∃ v, w5.cell? ⟨w.heap.size + 1, 36, none⟩ = some v := by rw [HX5.out.cell, HXE5.out]; exact ⟨_, Array.getElem?_eq_getElem (by rw [HF0.out]; decide)⟩
                obtain ⟨v36, c36⟩ := c36
                have f36 := HX5.out.frozen 36
                clear hy hY hl hr0
                go_wp2_with (first | (refine at_dst 37 rfl ?_; go_must (refine wpList_build_as rfl 58 _ rfl [(0, .int .i64 (1 + (r1 : Int))), (1, .bool lf)] rfl (opCells ⟨1 + (r1 : Int), lf, ⟨false, Cm.zero32, 0⟩, 0⟩).toArray (by kernel_rfl) ?_); rw [← HXE.out]) | (refine at_sto 58 (.tmp 10) (.tmp 37) rfl ?_; go_must (refine wpList_store_row rfl 58 (.tmp 10) (.tmp 37) rfl (w.heap.size + 1) X rfl rfl 58 Z HAZ.out HXI2.out (by rw [HXS2.out]; exact HZS.out) HXA2.out ?_); rw [HAX.out]) | (refine at_lod 58 (.tmp 10) rfl ?_; go_must (refine wpList_load_row rfl 58 (.tmp 10) rfl (w.heap.size + 1) rfl _ Y (0, 0) _ HXY.out Try.underlying58 rfl HYI.out ?_)) | (refine at_sto 58 (.tmp 4) (.tmp 95) rfl ?_; go_must (refine wpList_store_row rfl 58 (.tmp 4) (.tmp 95) rfl w.heap.size Y rfl rfl _ Z HZY.out HYI.out HYS.out HYA.out ?_)))
                exact bodyPost_ret (v := .tuple #[.agg Y, .int .i64 ((pk : Int) + 1), .int .i64 0]) (results_row_tmp2 rfl _ _ w.heap.size _ _ _ _ rfl (HZY.out.row _) Try.underlying58 rfl HYI.out _ _ rfl rfl) rfl ⟨by rw [HR.out]; unfold rdoV; simp only []; rw [HTO.out, ← HYE.out]; first | done | rfl, below_row HWY.out (Nat.le_refl _) _⟩
              · have hlI : ¬ (pk : Int) < (b.length : Int) := by omega
                have hge : decide ((b.length : Int) ≤ (pk : Int)) = true := decide_eq_true (by omega)
                have hge2 : decide (b.length ≤ pk) = true := decide_eq_true (by omega)
                have HR := Lib.hid (opP_byte HGS.out hn11 HD.out HK.out (e := 8) (by rw [if_pos (by rw [← HR1.out]; exact hr0)]; unfold Pa.digP; rw [if_pos (by omega)]))
                clear hl hr0
                go_wp2_with (first | (refine at_dst 37 rfl ?_; go_must (refine wpList_build_as rfl 58 _ rfl [(0, .int .i64 (1 + (r1 : Int))), (1, .bool lf)] rfl (opCells ⟨1 + (r1 : Int), lf, ⟨false, Cm.zero32, 0⟩, 0⟩).toArray (by kernel_rfl) ?_); rw [← HXE.out]) | (refine at_sto 58 (.tmp 10) (.tmp 37) rfl ?_; go_must (refine wpList_store_row rfl 58 (.tmp 10) (.tmp 37) rfl (w.heap.size + 1) X rfl rfl 58 Z HAZ.out HXI2.out (by rw [HXS2.out]; exact HZS.out) HXA2.out ?_); rw [HAX.out]) | (refine at_sto 58 (.tmp 4) (.tmp 88) rfl ?_; go_must (refine wpList_store_row rfl 58 (.tmp 4) (.tmp 88) rfl w.heap.size Z rfl rfl _ Z HZ5.out HZI.out rfl HOZ.out ?_)))
                exact bodyPost_ret (v := .tuple #[.agg Z, .int .i64 0, .int .i64 8]) (results_row_tmp2 rfl _ _ w.heap.size _ _ _ _ rfl (HZ5.out.row _) Try.underlying58 rfl HZI.out _ _ rfl rfl) rfl ⟨by rw [HR.out, HZE.out]; rfl, below_row HW5.out (Nat.le_refl _) _⟩
            · have hk1 : ((1 + (r1 : Int)) == 1) = false := by rw [beq_eq_false_iff_ne]; omega
              have HR := Lib.hid (opP_ok HGS.out hn11 HD.out HK.out (p4 := pk) (y := []) (by rw [if_neg (by rw [← HR1.out]; exact hr0)]; rfl))
              have HTO := Lib.hid (show Cm.toOp (n, (T, (k, ([] : List UInt8)))) = ⟨1 + (r1 : Int), lf, ⟨false, T, (k : Int)⟩, 0⟩ by unfold Cm.toOp; simp only []; rw [← HR1.out, ← HLF.out, ← HQ.out]; rfl)
              have HYE := HXE5
              have HYS := Lib.hid (show Z.size = X5.size by rw [HZS.out, HXE5.out, HF0.out])
              have HYI := Lib.hid (show (Try.prog.info? 58).map (·.size) = some X5.size by rw [HXE5.out, HF0.out]; exact infoO37)
              have HYA := Lib.hid (show X5.all (·.oneCell') = true by rw [HXE5.out]; exact opCells_all _)
              clear hr0
              go_wp2_with (first | (refine at_dst 37 rfl ?_; go_must (refine wpList_build_as rfl 58 _ rfl [(0, .int .i64 (1 + (r1 : Int))), (1, .bool lf)] rfl (opCells ⟨1 + (r1 : Int), lf, ⟨false, Cm.zero32, 0⟩, 0⟩).toArray (by kernel_rfl) ?_); rw [← HXE.out]) | (refine at_sto 58 (.tmp 10) (.tmp 37) rfl ?_; go_must (refine wpList_store_row rfl 58 (.tmp 10) (.tmp 37) rfl (w.heap.size + 1) X rfl rfl 58 Z HAZ.out HXI2.out (by rw [HXS2.out]; exact HZS.out) HXA2.out ?_); rw [HAX.out]) | (refine at_lod 58 (.tmp 10) rfl ?_; go_must (refine wpList_load_row rfl 58 (.tmp 10) rfl (w.heap.size + 1) rfl _ X5 (0, 0) _ HX5.out Try.underlying58 rfl HYI.out ?_)) | (refine at_sto 58 (.tmp 4) (.tmp 95) rfl ?_; go_must (refine wpList_store_row rfl 58 (.tmp 4) (.tmp 95) rfl w.heap.size X5 rfl rfl _ Z HZ5.out HYI.out HYS.out HYA.out ?_)))
              exact bodyPost_ret (v := .tuple #[.agg X5, .int .i64 (pk : Int), .int .i64 0]) (results_row_tmp2 rfl _ _ w.heap.size _ _ _ _ rfl (HZ5.out.row _) Try.underlying58 rfl HYI.out _ _ rfl rfl) rfl ⟨by rw [HR.out]; unfold rdoV; simp only []; rw [HTO.out, ← HYE.out]; first | done | rfl, below_row HW5.out (Nat.le_refl _) _⟩
        · have HR := Lib.hid (opP_pos HGS.out hn11 HD.out (e := f) (by rw [if_pos (by rw [← HQ.out]; decide), HGK.out, if_pos hf]))
          have hfb : ((f : Int) != 0) = true := by rw [bne_iff_ne]; omega
          have hfb2 : ¬ f = 0 := hf
          clear hgks hf
          go_wp2_with (first | (refine at_dst 37 rfl ?_; go_must (refine wpList_build_as rfl 58 _ rfl [(0, .int .i64 (1 + (r1 : Int))), (1, .bool lf)] rfl (opCells ⟨1 + (r1 : Int), lf, ⟨false, Cm.zero32, 0⟩, 0⟩).toArray (by kernel_rfl) ?_); rw [← HXE.out]) | (refine at_sto 58 (.tmp 10) (.tmp 37) rfl ?_; go_must (refine wpList_store_row rfl 58 (.tmp 10) (.tmp 37) rfl (w.heap.size + 1) X rfl rfl 58 Z HAZ.out HXI2.out (by rw [HXS2.out]; exact HZS.out) HXA2.out ?_); rw [HAX.out]) | (refine at_sto 58 (.tmp 4) (.tmp 67) rfl ?_; go_must (refine wpList_store_row rfl 58 (.tmp 4) (.tmp 67) rfl w.heap.size Z rfl rfl _ Z HZ6.out HZI.out rfl HOZ.out ?_)))
          exact bodyPost_ret (v := .tuple #[.agg Z, .int .i64 0, .int .i64 (f : Int)]) (results_row_tmp2 rfl _ _ w.heap.size _ _ _ _ rfl (HZ6.out.row _) Try.underlying58 rfl HZI.out _ _ rfl rfl) rfl ⟨by rw [HR.out, HZE.out]; rfl, below_row HW6.out (Nat.le_refl _) _⟩
  · have HR := Lib.hid (HOP.out.1 he)
    have hbe : ((e : Int) != 0) = true := by rw [bne_iff_ne]; omega
    have hbe2 : ¬ e = 0 := he
    clear hgs he
    go_enter Try.func43, Try.ntmps43
    go_wp2_with fail
    refine HG1.out.mono ?_; rintro e' w1' ⟨rfl, rfl⟩
    go_wp2_with ((refine at_sto 58 (.tmp 4) (.tmp 25) rfl ?_; go_must (refine wpList_store_row rfl 58 (.tmp 4) (.tmp 25) rfl w.heap.size Z rfl rfl _ Z HZ1.out HZI.out rfl HOZ.out ?_)))
    exact bodyPost_ret (v := .tuple #[.agg Z, .int .i64 0, .int .i64 (e : Int)]) (results_row_tmp2 rfl _ _ w.heap.size _ _ _ _ rfl (HZ1.out.row _) Try.underlying58 rfl HZI.out _ _ rfl rfl) rfl ⟨by rw [HR.out, HZE.out]; rfl, below_row HW1.out (Nat.le_refl _) _⟩
end Go.Proofs.Ytjgegggcbjecbaa
