/- The document's Decode. -/
import Derived.Test.YtjgegggcbjecbaaRHead
namespace Go.Proofs.Ytjgegggcbjecbaa
open Go Go.RowKit

set_option maxRecDepth 100000 in
set_option maxHeartbeats 16000000 in
theorem rdec_any (b : List UInt8) (w : World) (hb : b.length ≤ 4611686018427387904) : Calls Try.prog 21 #[.string (sB b)] w (DecO b w) := by
  obtain ⟨i0, hi, hz0, hz1, hz2⟩ := info_parts infoOp
  have hsb := sB_size b
  have HG := Lib.hid (fun (p : Nat) (w : World) => refGetNum_any (sB b) (p : Int) w (by omega))
  simp only [sB_data] at HG
  obtain ⟨Z, hZ⟩ : ∃ Z, Z = bx (.slice none 0 0) [] [] (.slice none 0 0) := ⟨_, rfl⟩
  have hZl : (#[Value.slice none 0 0, .string ⟨#[]⟩, .string ⟨#[]⟩, .slice none 0 0] : Array Value) = Z := hZ.symm
  obtain ⟨w1, hw1⟩ : ∃ y, y = w.alloc (.cells Z 31) := ⟨_, rfl⟩
  have HRS := Lib.hid (show Blk w1 w.heap.size 31 Z by rw [hw1]; exact Blk.new w _ _)
  have HW := Lib.hid (show Below w.heap.size w w1 by rw [hw1]; exact below_alloc w _)
  have HZ := Lib.hid hZ
  have HZI := Lib.hid (show (Try.prog.info? 31).map (·.size) = some Z.size by rw [hZ]; exact infoC4)
  have HZA := Lib.hid (show Z.all (·.oneCell') = true by rw [hZ]; exact bx_all)
  have HZS := Lib.hid (show Z.size = 4 by rw [hZ]; rfl)
  have hs1 : w1.heap.size = w.heap.size + 1 := by rw [hw1]; simp
  have HS1 := Lib.hid hs1
  replace hw1 := hw1.symm
  clear hZ hs1
  by_cases hlong : 131072 < b.length
  · have HR := Lib.hid (decC_long (may := Cm.may Tx.less) hlong)
    have hd : decide ((131072 : Int) < (b.length : Int)) = true := decide_eq_true (by omega)
    have hd2 : decide (131072 < b.length) = true := decide_eq_true hlong
    clear hlong
    go_enter Try.func21, Try.ntmps21
    go_wp2_with (refine at_sto 31 (.tmp 2) (.tmp 18) rfl ?_; go_must (refine wpList_store_row rfl 31 (.tmp 2) (.tmp 18) rfl w.heap.size Z rfl rfl _ Z HRS.out HZI.out rfl HZA.out ?_))
    exact bodyPost_ret (v := .tuple #[.agg Z, .int .i64 3]) (results_row_tmp rfl _ _ w.heap.size _ _ _ _ rfl (HRS.out.row _) Try.underlying31 rfl HZI.out _ rfl) rfl (by rw [HZ.out]; exact decO_err 3 HR.out (below_row HW.out (Nat.le_refl _) _))
  have hd : decide ((131072 : Int) < (b.length : Int)) = false := decide_eq_false (by omega)
  have hd2 : decide (131072 < b.length) = false := decide_eq_false hlong
  have HLONG := Lib.hid hlong
  have HHD := Lib.hid (rhead_any b w1 hb)
  clear hlong
  go_enter Try.func21, Try.ntmps21
  go_wp2_with fail
  refine HHD.out.mono ?_; rintro e w2 ⟨hb2, hE⟩
  have hw12 := HW.out.size
  have HB2 := Lib.hid (HW.out.trans (hb2.mono (by rw [HS1.out]; omega)))
  have HRS2 := Lib.hid (HRS.out.below hb2 (by rw [HS1.out]; omega))
  have hg2 : w.heap.size < w2.heap.size := by have := hb2.size; rw [HS1.out] at this; omega
  have HG2 := Lib.hid hg2
  rcases hE with ⟨er, A, B, n, c, n', c', s, t, her, hhe, rfl⟩ | ⟨n, ps, a, t, q, A, c, hhe, rfl, hown, hlen, hq, hal, htl, hps8⟩
  · have HR := Lib.hid (decC_err (may := Cm.may Tx.less) HLONG.out (cm_head_err hhe))
    have hne : ((er : Int) != 0) = true := by rw [bne_iff_ne]; omega
    have HX3 := Lib.hid (HRS2.out.alloc (.cells (bx (.slice A n c) s t (.slice B n' c')) 31))
    have HB3 := Lib.hid (HB2.out.alloc HB2.out.size (.cells (bx (.slice A n c) s t (.slice B n' c')) 31))
    clear hb2 hhe hw12
    go_wp2_with (first | (refine at_sto 31 (.tmp 4) (.tmp 22) rfl ?_; go_must (refine wpList_store_row rfl 31 (.tmp 4) (.tmp 22) rfl w2.heap.size (bx (.slice A n c) s t (.slice B n' c')) rfl rfl 31 Z (heap_alloc_new w2 _) bx_info (by rw [HZS.out]; rfl) bx_all ?_); rw [World.setRow_alloc_new]) | (refine at_sto 31 (.tmp 2) (.tmp 27) rfl ?_; go_must (refine wpList_store_row rfl 31 (.tmp 2) (.tmp 27) rfl w.heap.size Z rfl rfl _ Z HX3.out HZI.out rfl HZA.out ?_)))
    exact bodyPost_ret (v := .tuple #[.agg Z, .int .i64 (er : Int)]) (results_row_tmp rfl _ _ w.heap.size _ _ _ _ rfl (HX3.out.row _) Try.underlying31 rfl HZI.out _ rfl) rfl (by rw [HZ.out]; exact decO_err er HR.out (below_row HB3.out (Nat.le_refl _) _))
  · have HCM := Lib.hid (cm_head_ok hhe)
    obtain ⟨w3, hw3⟩ : ∃ y, y = w2.alloc (.cells (bx (.slice A ps.length c) a t (.slice none 0 0)) 31) := ⟨_, rfl⟩
    have HX3 := Lib.hid (show Blk w3 w2.heap.size 31 (bx (.slice A ps.length c) a t (.slice none 0 0)) by rw [hw3]; exact Blk.new w2 _ _)
    have HRS3 := Lib.hid (show Blk w3 w.heap.size 31 Z by rw [hw3]; exact HRS2.out.alloc _)
    have HB3 := Lib.hid (show Below w.heap.size w w3 by rw [hw3]; exact HB2.out.alloc HB2.out.size _)
    have HPA := Lib.hid (show w3.ownsRow w.heap.size 47 32 (.slice A ps.length c) ps.length (rows bv ps) by rw [hw3]; exact own_base (hown.alloc _) (by rw [HS1.out]; omega))
    have HLEN := Lib.hid hlen
    replace hw3 := hw3.symm
    obtain ⟨⟨m, p1, e1⟩, hg⟩ : ∃ x, x = Wi.getNum b (q : Int) := ⟨_, rfl⟩
    have hgs := hg.symm
    have HG1 := Lib.hid (HG.out q w3)
    rw [← hg] at HG1
    unfold getV at HG1
    simp only [] at HG1
    clear hg hb2 hhe hw12 hown hlen
    by_cases he1 : e1 = 0
    · subst he1
      obtain ⟨hm63, hp1⟩ := getNum_lim' hgs
      by_cases hm : 2000 < m
      · have HR := Lib.hid (decC_err (may := Cm.may Tx.less) HLONG.out (HCM.out.1 4 (Pa.bind_err (by unfold Pa.numP; rw [hgs]; simp only []; rw [if_neg (by omega), if_pos hm]))))
        have hdm : decide ((2000 : Int) < (m : Int)) = true := decide_eq_true (by omega)
        have hdm2 : decide (2000 < m) = true := decide_eq_true hm
        clear hgs hm
        go_wp2_with (refine at_sto 31 (.tmp 4) (.tmp 22) rfl ?_; go_must (refine wpList_store_row rfl 31 (.tmp 4) (.tmp 22) rfl w2.heap.size (bx (.slice A ps.length c) a t (.slice none 0 0)) rfl rfl 31 Z (heap_alloc_new w2 _) bx_info (by rw [HZS.out]; rfl) bx_all ?_); rw [World.setRow_alloc_new])
        refine HG1.out.mono ?_; rintro e' w9 ⟨rfl, rfl⟩
        go_wp2_with (refine at_sto 31 (.tmp 2) (.tmp 42) rfl ?_; go_must (refine wpList_store_row rfl 31 (.tmp 2) (.tmp 42) rfl w.heap.size Z rfl rfl _ Z HRS3.out HZI.out rfl HZA.out ?_))
        exact bodyPost_ret (v := .tuple #[.agg Z, .int .i64 4]) (results_row_tmp rfl _ _ w.heap.size _ _ _ _ rfl (HRS3.out.row _) Try.underlying31 rfl HZI.out _ rfl) rfl (by rw [HZ.out]; exact decO_err 4 HR.out (below_row HB3.out (Nat.le_refl _) _))
      have hdm : decide ((2000 : Int) < (m : Int)) = false := decide_eq_false (by omega)
      have hdm2 : decide (2000 < m) = false := decide_eq_false hm
      have hm2 : m ≤ 2000 := by omega
      have HNP := Lib.hid (show Pa.numP 2000 4 b q = .ok (m, p1) by unfold Pa.numP; rw [hgs]; simp only []; rw [if_neg (by omega), if_neg (by omega)])
      have HS0 := Lib.hid (show DeG b ps a t A c w2.heap.size m p1 0 p1 [] none 0 w w3 from ⟨by rw [← HZ.out]; exact HRS3.out, HX3.out, HPA.out, World.ownsRow_nil w3 _ _ _, rfl, Nat.zero_le _, hp1, (fun z h => by cases h), by rw [glue_nil, Nat.sub_zero], HB3.out, HG2.out⟩)
      clear hgs hm HRS2 HRS HPA HX3 HRS3
      go_wp2_with (refine at_sto 31 (.tmp 4) (.tmp 22) rfl ?_; go_must (refine wpList_store_row rfl 31 (.tmp 4) (.tmp 22) rfl w2.heap.size (bx (.slice A ps.length c) a t (.slice none 0 0)) rfl rfl 31 Z (heap_alloc_new w2 _) bx_info (by rw [HZS.out]; rfl) bx_all ?_); rw [World.setRow_alloc_new])
      refine HG1.out.mono ?_; rintro e' w9 ⟨rfl, rfl⟩
      go_wp2_with fail
      clear hw1 hw3
      go_loopw [8, 10] (fun pv iv wr => ∃ (i p : Nat) (os : List Cm.RawOp) (A' : Option Addr) (c' : Nat), pv = .int .i64 (p : Int) ∧ iv = .int .i64 (i : Int) ∧ DeG b ps a t A c w2.heap.size m p1 i p os A' c' w wr) (fun _ iv _ => m - (intOf iv).toNat)
      case atStart => exact ⟨0, p1, [], none, 0, rfl, rfl, HS0.out⟩
      clear HS0
      case round =>
        obtain ⟨i, p, os, A', c', rfl, rfl, hG⟩ := hrel
        have HGG := Lib.hid hG
        have hpl := hG.hp
        have hin := hG.hin
        have hil := hG.hi
        have hgw := hG.hg
        clear hG
        by_cases hlt : i < m
        · have hltI : (i : Int) < (m : Int) := by omega
          have HRD := Lib.hid (rread_any b p wr hb)
          cases hop : Cm.opP b p with
          | error e2 =>
            rw [hop] at HRD
            unfold rdoV at HRD
            simp only [] at HRD
            have hez : e2 ≠ 0 := opP_nz hop
            have hne : ((e2 : Int) != 0) = true := by rw [bne_iff_ne]; omega
            have hne2 : ¬ e2 = 0 := hez
            have HR := Lib.hid (decC_err (may := Cm.may Tx.less) HLONG.out (HCM.out.1 e2 (Pa.bind_err2 HNP.out (by rw [HGG.out.go, show m - i = (m - i - 1) + 1 by omega, Pa.list_err hop]; rfl))))
            obtain ⟨X0, hX0⟩ : ∃ X, X = (opCells op0).toArray := ⟨_, rfl⟩
            have HXS := Lib.hid (show (opCells op0).toArray.size = 37 from opA_size rfl)
            have HXA := Lib.hid (opCells_all op0)
            rw [← hX0] at HRD HXS HXA
            have HXI := Lib.hid (show (Try.prog.info? 58).map (·.size) = some X0.size by rw [HXS.out]; exact infoO37)
            clear hop hX0 hez
            go_wp2_with fail
            refine HRD.out.mono ?_; rintro e' w4 ⟨rfl, hb4⟩
            have HX5 := Lib.hid ((HGG.out.res.later hb4).alloc (.cells X0 58))
            have HB5 := Lib.hid ((HGG.out.hB.trans (hb4.mono HGG.out.hB.size)).alloc (HGG.out.hB.trans (hb4.mono HGG.out.hB.size)).size (.cells X0 58))
            clear hb4
            go_wp2_with (first | (refine at_sto 58 (.tmp 11) (.tmp 52) rfl ?_; go_must (refine wpList_store_row rfl 58 (.tmp 11) (.tmp 52) rfl w4.heap.size X0 rfl rfl 58 _ (heap_alloc_new w4 _) HXI.out (by rw [HXS.out]; rfl) HXA.out ?_); rw [World.setRow_alloc_new]) | (refine at_sto 31 (.tmp 2) (.tmp 57) rfl ?_; go_must (refine wpList_store_row rfl 31 (.tmp 2) (.tmp 57) rfl w.heap.size Z rfl rfl _ _ HX5.out HZI.out (by rw [HZS.out]; rfl) HZA.out ?_)))
            exact bodyPost_ret (v := .tuple #[.agg Z, .int .i64 (e2 : Int)]) (results_row_tmp rfl _ _ w.heap.size _ _ _ _ rfl (HX5.out.row _) Try.underlying31 rfl HZI.out _ rfl) rfl (by rw [HZ.out]; exact decO_err e2 HR.out (below_row HB5.out (Nat.le_refl _) _))
          | ok z =>
            obtain ⟨z, p'⟩ := z
            rw [hop] at HRD
            unfold rdoV at HRD
            simp only [] at HRD
            obtain ⟨hp', hdz⟩ := opP_lim hpl hop
            have HGO := Lib.hid (show Pa.listP Cm.opP m b p1 = glue (os ++ [z]) (Pa.listP Cm.opP (m - (i + 1)) b p') by
              rw [HGG.out.go, show m - i = (m - (i + 1)) + 1 by omega, glue_next hop])
            have HDZ := Lib.hid hdz
            have HXS := Lib.hid (show (opCells (Cm.toOp z)).toArray.size = 37 from opA_size hdz.1)
            have HXA := Lib.hid (opCells_all (Cm.toOp z))
            have HXL := Lib.hid (show (opCells (Cm.toOp z)).length = 1 * 37 by rw [opCells_length hdz])
            obtain ⟨x, hx⟩ : ∃ x, x = Cm.toOp z := ⟨_, rfl⟩
            have HXE := Lib.hid hx
            rw [← hx] at HRD HXS HXA HXL HDZ
            have HXI := Lib.hid (show (Try.prog.info? 58).map (·.size) = some (opCells x).toArray.size by rw [HXS.out]; exact infoO37)
            have HXO := Lib.hid (opCells_one x)
            clear hop hx hdz
            go_wp2_with fail
            refine HRD.out.mono ?_; rintro e' w4 ⟨rfl, hb4⟩
            have hB4 := hb4.mono HGG.out.hB.size
            obtain ⟨w5, hw5⟩ : ∃ y, y = w4.alloc (.cells (opCells x).toArray 58) := ⟨_, rfl⟩
            have hA5 : Below w4.heap.size w4 w5 := by rw [hw5]; exact below_alloc w4 _
            have HN5 := Lib.hid (show Blk w5 w4.heap.size 58 (opCells x).toArray by rw [hw5]; exact Blk.new w4 _ _)
            have HRS5 := Lib.hid ((HGG.out.res.later hb4).later hA5)
            have HBX5 := Lib.hid ((HGG.out.box.later hb4).later hA5)
            have HPA5 := Lib.hid (own_below (own_below HGG.out.par hb4) hA5)
            have HOW5 := Lib.hid (own_below (own_below HGG.out.own hb4) hA5)
            have HB5 := Lib.hid ((HGG.out.hB.trans hB4).trans (hA5.mono (HGG.out.hB.trans hB4).size))
            have c3 : w5.cell? ⟨w2.heap.size, 3, none⟩ = some (.slice A' i c') := HBX5.out.cell 3
            have hB5s := HB5.out.size
            have HB6 := Lib.hid (HB5.out.alloc hB5s (.cells (opCells x).toArray 58))
            have HOW6 := Lib.hid (HOW5.out.alloc (.cells (opCells x).toArray 58))
            have HPA6 := Lib.hid (HPA5.out.alloc (.cells (opCells x).toArray 58))
            have HBX6 := Lib.hid (HBX5.out.alloc (.cells (opCells x).toArray 58))
            have HRS6 := Lib.hid (HRS5.out.alloc (.cells (opCells x).toArray 58))
            have HNE := Lib.hid (row_own_ne HOW6.out HBX6.out (by decide))
            have HNE2 := Lib.hid (row_own_ne HOW6.out HRS6.out (by decide))
            have HNE3 := Lib.hid (rows_apart HPA6.out HOW6.out (by decide))
            replace hw5 := hw5.symm
            clear hb4 hB4 hA5
            go_wp2_with (first | (refine at_sto 58 (.tmp 11) (.tmp 52) rfl ?_; go_must (refine wpList_store_row rfl 58 (.tmp 11) (.tmp 52) rfl w4.heap.size (opCells x).toArray rfl rfl 58 _ (heap_alloc_new w4 _) HXI.out (by rw [HXS.out]; rfl) HXA.out ?_); rw [World.setRow_alloc_new]) | (refine at_lod 58 (.tmp 11) rfl ?_; go_must (refine wpList_load_row rfl 58 (.tmp 11) rfl w4.heap.size rfl _ _ (0, 0) _ HN5.out Try.underlying58 rfl HXI.out ?_)) | (refine at_dst 62 rfl ?_; go_must (refine wpList_one_slice rfl 24 58 (.tmp 61) rfl i0 _ (opCells x).toArray rfl Try.underlying24 hi hz0 (by rw [hz1, HXS.out]) (by rw [HXS.out]; decide) (by rw [HXS.out]; decide) ?_)) | (at_builtin; go_must (refine wp_appK _ 37 rfl (.tmp 60) (.tmp 62) 24 24 rfl w.heap.size 58 i0 _ 72 Try.underlying24 hi hz0 hz1 hz2 (opA_size rfl) (.slice A' i c') i (rows opCells (os.map Cm.toOp)) rfl HOW6.out (.slice (some ⟨w5.heap.size, 0, none⟩) 1 1) 1 (opCells x) rfl (new_srcK 37 Try.underlying24 w5 (opCells x) 1 1 58 (0, 0) HXL.out HXO.out) (by unfold maxLen; omega) (by omega) (by simp; omega) ?_); intro v2 w7 ho2 hg2 _; have hv2' := own_form ho2; obtain ⟨A2, k2, hv2, -, -, -⟩ := hv2'; subst hv2; have HBX7 := Lib.hid (HBX6.out.grown hg2 (fun e => HNE.out e.symm)); have HRS7 := Lib.hid (HRS6.out.grown hg2 (fun e => HNE2.out e.symm)); have HPA7 := Lib.hid (HPA6.out.kept hg2 HNE3.out); have HB7 := Lib.hid (HB6.out.grown hg2 HB6.out.size (fun q hq => (HOW6.out.lt q hq).1)); have HO2 := Lib.hid ho2; have c2 : w7.cell? ⟨w2.heap.size, 3, none⟩ = some (.slice A' i c') := HBX7.out.cell 3; have f2 := HBX7.out.frozen 3; clear ho2 hg2 c3))
            go_roundw
            case rel =>
              have hO := HO2.out
              rw [← rows_one opCells x, ← rows_append, show os.map Cm.toOp ++ [x] = (os ++ [z]).map Cm.toOp by rw [List.map_append, HXE.out]; rfl] at hO
              have hl2 : (os ++ [z]).length = i + 1 := by simp; omega
              refine ⟨i + 1, p', os ++ [z], A2, k2, by go_num, by go_num, ⟨HRS7.out.far (p := ⟨w2.heap.size, 3, none⟩) (by simp; omega) _, ?_, row_set HPA7.out HBX7.out (by decide), row_set hO HBX7.out (by decide), hl2, by omega, hp', ?_, HGO.out, HB7.out.setCell (p := ⟨w2.heap.size, 3, none⟩) (Nat.le_of_lt hgw) _, hgw⟩⟩
              · exact HBX7.out.set_ 3 (.slice A2 (i + 1) k2)
              · intro y hy
                rw [List.mem_append, List.mem_singleton] at hy
                rcases hy with hy | rfl
                · exact HGG.out.dim y hy
                · rw [← HXE.out]; exact HDZ.out
            case measure => simp [intOf] <;> omega
        · have hltI : ¬ (i : Int) < (m : Int) := by omega
          have HL := Lib.hid (HCM.out.2 m os p (Pa.bind_ok HNP.out (by rw [HGG.out.go, show m - i = 0 by omega]; simp [Pa.listP, glue])))
          by_cases hpe : p = b.length
          · have hpb : ((p : Int) != (b.length : Int)) = false := by rw [bne_eq_false_iff_eq]; omega
            have HDM := Lib.hid (decC_may (may := Cm.may Tx.less) HLONG.out HL.out hpe)
            have HIN := Lib.hid (show InCm wr (.agg (bx (.slice A ps.length c) a t (.slice A' i c'))) A c A' c' ⟨ps, a, t, os.map Cm.toOp⟩ from ⟨by rw [← hil]; simp [bx], by have := own_form HGG.out.par; obtain ⟨_, _, h1, h2, h3, -⟩ := this; cases h1; exact ⟨h2, by simpa [maxLen] using h3⟩, by have := own_form HGG.out.own; obtain ⟨_, _, h1, h2, h3, -⟩ := this; cases h1; rw [List.length_map, hil]; exact ⟨h2, by simpa [maxLen] using h3⟩, Rd.of_ownK HGG.out.par, by have h := Rd.of_ownK HGG.out.own; rw [List.length_map, hil]; exact h, HLEN.out, fun y hy => by obtain ⟨z, hz, rfl⟩ := List.mem_map.1 hy; exact HGG.out.dim z hz⟩)
            have HMY := Lib.hid (rmay_any _ _ A A' c c' wr HIN.out (by show a.length ≤ _; omega) (by show t.length ≤ _; omega) (by show ps.length ≤ _; omega) (by show (os.map Cm.toOp).length ≤ _; rw [List.length_map, hil]; omega))
            obtain ⟨M, hM⟩ : ∃ M, M = (⟨ps, a, t, os.map Cm.toOp⟩ : Cm.Cm) := ⟨_, rfl⟩
            rw [show Cm.toCm (n, (ps, (a, (t, (m, os))))) = M from hM.symm] at HDM
            rw [← hM] at HMY
            have HME := Lib.hid hM
            clear hM hpe
            by_cases hmz : Cm.may Tx.less M = 0
            · rw [if_pos hmz] at HDM
              rw [hmz] at HMY
              go_wp2_with (refine at_lod 31 (.tmp 4) rfl ?_; go_must (refine wpList_load_row rfl 31 (.tmp 4) rfl w2.heap.size rfl _ _ (0, 0) _ HGG.out.box Try.underlying31 rfl bx_info ?_))
              refine HMY.out.mono ?_; rintro e' w6 ⟨rfl, hb6⟩
              have HX6 := Lib.hid (HGG.out.box.later hb6)
              have HRS6 := Lib.hid (HGG.out.res.later hb6)
              have HB6 := Lib.hid (HGG.out.hB.trans (hb6.mono HGG.out.hB.size))
              have HPA6 := Lib.hid (own_below HGG.out.par hb6)
              have HOW6 := Lib.hid (own_below HGG.out.own hb6)
              clear hb6
              go_wp2_with (first | (refine at_lod 31 (.tmp 4) rfl ?_; go_must (refine wpList_load_row rfl 31 (.tmp 4) rfl w2.heap.size rfl _ _ (0, 0) _ HX6.out Try.underlying31 rfl bx_info ?_)) | (refine at_sto 31 (.tmp 2) (.tmp 77) rfl ?_; go_must (refine wpList_store_row rfl 31 (.tmp 2) (.tmp 77) rfl w.heap.size (bx (.slice A ps.length c) a t (.slice A' i c')) rfl rfl _ _ HRS6.out bx_info rfl bx_all ?_)))
              exact bodyPost_ret (v := .tuple #[.agg (bx (.slice A ps.length c) a t (.slice A' i c')), .int .i64 0]) (results_row_tmp rfl _ _ w.heap.size _ _ _ _ rfl (HRS6.out.row _) Try.underlying31 rfl bx_info _ rfl) rfl ⟨below_row HB6.out (Nat.le_refl _) _, .agg (bx (.slice A ps.length c) a t (.slice A' i c')), by rw [HDM.out, HME.out]; exact ⟨A, A', c, c', by simp [okM, hil], row_row HPA6.out HRS6.out (by decide), by have h := row_row (cs' := bx (.slice A ps.length c) a t (.slice A' i c')) HOW6.out HRS6.out (by decide); simp only [okM, List.length_map]; rw [hil]; exact h, HLEN.out, fun y hy => by obtain ⟨z, hz, rfl⟩ := List.mem_map.1 hy; exact HGG.out.dim z hz⟩, by rw [HDM.out]; rfl⟩
            · rw [if_neg hmz] at HDM
              obtain ⟨e2, he2⟩ : ∃ e, e = Cm.may Tx.less M := ⟨_, rfl⟩
              rw [← he2] at HMY HDM hmz
              have HR := HDM
              have hne : ((e2 : Int) != 0) = true := by rw [bne_iff_ne]; omega
              clear he2
              go_wp2_with (refine at_lod 31 (.tmp 4) rfl ?_; go_must (refine wpList_load_row rfl 31 (.tmp 4) rfl w2.heap.size rfl _ _ (0, 0) _ HGG.out.box Try.underlying31 rfl bx_info ?_))
              refine HMY.out.mono ?_; rintro e' w6 ⟨rfl, hb6⟩
              have HRS6 := Lib.hid (HGG.out.res.later hb6)
              have HB6 := Lib.hid (HGG.out.hB.trans (hb6.mono HGG.out.hB.size))
              clear hb6
              go_wp2_with ((refine at_sto 31 (.tmp 2) (.tmp 75) rfl ?_; go_must (refine wpList_store_row rfl 31 (.tmp 2) (.tmp 75) rfl w.heap.size Z rfl rfl _ _ HRS6.out HZI.out (by rw [HZS.out]; rfl) HZA.out ?_)))
              exact bodyPost_ret (v := .tuple #[.agg Z, .int .i64 (e2 : Int)]) (results_row_tmp rfl _ _ w.heap.size _ _ _ _ rfl (HRS6.out.row _) Try.underlying31 rfl HZI.out _ rfl) rfl (by rw [HZ.out]; exact decO_err e2 HR.out (below_row HB6.out (Nat.le_refl _) _))
          · have hpb : ((p : Int) != (b.length : Int)) = true := by rw [bne_iff_ne]; omega
            have hpb2 : ¬ p = b.length := hpe
            have HR := Lib.hid (decC_form (may := Cm.may Tx.less) HLONG.out HL.out hpe)
            have HRS6 := Lib.hid HGG.out.res
            have HB6 := Lib.hid HGG.out.hB
            clear hpe
            go_wp2_with ((refine at_sto 31 (.tmp 2) (.tmp 70) rfl ?_; go_must (refine wpList_store_row rfl 31 (.tmp 2) (.tmp 70) rfl w.heap.size Z rfl rfl _ _ HRS6.out HZI.out (by rw [HZS.out]; rfl) HZA.out ?_)))
            exact bodyPost_ret (v := .tuple #[.agg Z, .int .i64 7]) (results_row_tmp rfl _ _ w.heap.size _ _ _ _ rfl (HRS6.out.row _) Try.underlying31 rfl HZI.out _ rfl) rfl (by rw [HZ.out]; exact decO_err 7 HR.out (below_row HB6.out (Nat.le_refl _) _))
    · have HR := Lib.hid (decC_err (may := Cm.may Tx.less) HLONG.out (HCM.out.1 e1 (Pa.bind_err (by unfold Pa.numP; rw [hgs, if_pos he1]))))
      have hne : ((e1 : Int) != 0) = true := by rw [bne_iff_ne]; omega
      have hne2 : ¬ e1 = 0 := he1
      clear hgs he1
      go_wp2_with (refine at_sto 31 (.tmp 4) (.tmp 22) rfl ?_; go_must (refine wpList_store_row rfl 31 (.tmp 4) (.tmp 22) rfl w2.heap.size (bx (.slice A ps.length c) a t (.slice none 0 0)) rfl rfl 31 Z (heap_alloc_new w2 _) bx_info (by rw [HZS.out]; rfl) bx_all ?_); rw [World.setRow_alloc_new])
      refine HG1.out.mono ?_; rintro e' w9 ⟨rfl, rfl⟩
      go_wp2_with (refine at_sto 31 (.tmp 2) (.tmp 38) rfl ?_; go_must (refine wpList_store_row rfl 31 (.tmp 2) (.tmp 38) rfl w.heap.size Z rfl rfl _ Z HRS3.out HZI.out rfl HZA.out ?_))
      exact bodyPost_ret (v := .tuple #[.agg Z, .int .i64 (e1 : Int)]) (results_row_tmp rfl _ _ w.heap.size _ _ _ _ rfl (HRS3.out.row _) Try.underlying31 rfl HZI.out _ rfl) rfl (by rw [HZ.out]; exact decO_err e1 HR.out (below_row HB3.out (Nat.le_refl _) _))
end Go.Proofs.Ytjgegggcbjecbaa
