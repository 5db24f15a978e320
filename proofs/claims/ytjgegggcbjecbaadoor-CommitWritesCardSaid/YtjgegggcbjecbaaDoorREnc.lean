/- The document's Encode. -/
import Derived.Test.YtjgegggcbjecbaaDoorROpB
import Derived.Test.YtjgegggcbjecbaaDoorByts
namespace Go.Proofs.YtjgegggcbjecbaaDoor
open Go Go.RowKit

/-- The answer of Encode. -/
def encV (m : Cm.Cm) : Value := .tuple #[.string (sB (if Cm.may Tx.less m = 0 then Cm.encC m else [])), .int .i64 (Cm.may Tx.less m : Int)]

set_option maxRecDepth 100000 in
set_option maxHeartbeats 16000000 in
theorem renc_any (m : Cm.Cm) (v : Value) (A B : Option Addr) (c d : Nat) (w : World) (hI : InCm w v A c B d m) (ha : m.author.length ≤ 4611686018427387904) (hn : m.note.length ≤ 4611686018427387904) (hpl : m.parents.length ≤ 4611686018427387904) (hol : m.ops.length ≤ 4611686018427387904) :
    Calls Tryd.prog 7 #[v] w (Ret (encV m) w) := by
  have HOK := Lib.hid (hI.ok)
  obtain ⟨wa, hwa⟩ : ∃ y, y = w.alloc (.cells #[.slice A m.parents.length c, .string (sB m.author), .string (sB m.note), .slice B m.ops.length d] 25) := ⟨_, rfl⟩
  have HX := Lib.hid (show BoxC m A c B d w.heap.size wa from ⟨by rw [hwa]; exact Blk.new w _ _⟩)
  have HBW := Lib.hid (show Below w.heap.size w wa by rw [hwa]; exact below_alloc w _)
  have HMY := Lib.hid (rmay_any m v A B c d wa (hI.later HBW.out) ha hn hpl hol)
  obtain ⟨rfl, hcc, hcd, hRp, hRo, hDp, hDo⟩ := hI
  have HRp := Lib.hid hRp
  have HRo := Lib.hid hRo
  have HDp := Lib.hid hDp
  have HDo := Lib.hid hDo
  obtain ⟨x0, x1, x2, x3⟩ := HX.out.cells
  replace hwa := hwa.symm
  have HNUM := Lib.hid (fun n (w : World) (h : n < 9223372036854775808) => refNum_any n n w (Nat.le_refl _) h)
  have hsn := sB_size m.note
  have hsa := sB_size m.author
  clear hcc hcd hRp hRo hDp hDo
  by_cases hm : Cm.may Tx.less m = 0
  · have HV := Lib.hid (show encV m = .tuple #[.string (sB (Cm.encC m)), .int .i64 0] by unfold encV; rw [if_pos hm, hm]; rfl)
    have hok := HOK.out hm
    have HFL := Lib.hid (Cm.encC_len hok)
    have hp8 := hok.ps
    have hal := hok.author
    have hnl := hok.note
    have hol2 := hok.ops
    rw [hm] at HMY
    have hF := encC_is m
    obtain ⟨F, hFe⟩ : ∃ F, F = Cm.encC m := ⟨_, rfl⟩
    rw [← hFe] at HV hF HFL
    have HF := Lib.hid hF
    have hTA := text_size' m.author (by omega)
    have hTN := text_size' m.note (by omega)
    have HTA := Lib.hid (fun w => refText_any (sB m.author) w (by omega))
    have HTN := Lib.hid (fun w => refText_any (sB m.note) w (by omega))
    simp only [sB_data] at HTA HTN
    have hN1 := num_size (n := m.parents.length) (by omega)
    have hN2 := num_size (n := m.ops.length) (by omega)
    have HN2 := Lib.hid (fun w => HNUM.out m.ops.length w (by omega))
    clear hF hFe hm HOK hok
    go_enter Tryd.func7, Tryd.ntmps7
    go_wp2_with fail
    refine HMY.out.mono ?_; rintro e w1 ⟨rfl, hb1⟩
    have HX1 := Lib.hid (HX.out.later hb1)
    have HB1 := Lib.hid (HBW.out.trans (hb1.mono HBW.out.size))
    obtain ⟨y0, y1, y2, y3⟩ := HX1.out.cells
    clear hb1 hwa x0 x1 x2 x3 HX HBW HMY
    go_wp2_with fail
    refine (HNUM.out m.parents.length w1 (by omega)).mono ?_; rintro e w2 ⟨rfl, hb2⟩
    have HX2 := Lib.hid (HX1.out.later hb2)
    have HB2 := Lib.hid (HB1.out.trans (hb2.mono HB1.out.size))
    clear hb2 y0 y1 y2 y3 HX1 HB1
    go_wp2_with fail
    go_loopw [5, 6] (fun ov iv wr => ∃ (i : Nat) (O : List UInt8), i ≤ m.parents.length ∧ iv = .int .i64 (i : Int) ∧ ov = .string (sB O) ∧ Hid (O ++ (Pa.encL (fun d => d) (m.parents.drop i) ++ (Wi.text m.author ++ (Wi.text m.note ++ (Wi.num m.ops.length ++ Pa.encL Cm.encRaw (m.ops.map Cm.ofOp))))) = F) ∧ BoxC m A c B d w.heap.size wr ∧ Below w.heap.size w wr) (fun _ iv _ => m.parents.length - (intOf iv).toNat)
    case atStart => exact ⟨0, Wi.num m.parents.length, Nat.zero_le _, rfl, rfl, Lib.hid (by rw [HF.out, List.drop_zero]), HX2.out, HB2.out⟩
    clear HX2 HB2 HF
    case round =>
      obtain ⟨i, O, hi, rfl, rfl, HO, hX, hB⟩ := hrel
      have HX := Lib.hid hX
      have HB := Lib.hid hB
      obtain ⟨x0, x1, x2, x3⟩ := hX.cells
      have hOl : O.length ≤ 73000 := by have h1 := congrArg List.length HO.out; have h2 := HFL.out; rw [List.length_append] at h1; omega
      have hsO := sB_size O
      clear hX hB
      by_cases hlt : i < m.parents.length
      · have hltI : (i : Int) < (m.parents.length : Int) := by omega
        obtain ⟨p, hp⟩ : ∃ p, m.parents[i]? = some p := ⟨_, List.getElem?_eq_getElem hlt⟩
        have hpl2 := HDp.out p (List.mem_of_getElem? hp)
        obtain ⟨ad, hA, hbl, hca⟩ := (HRp.out.later HB.out).elem (by decide) (fun s hs => by rw [bv_length]; exact HDp.out s hs) hp
        subst hA
        have HCA := Lib.hid hca
        have HLA := Lib.hid (show (Tryd.prog.info? 34).map (·.size) = some (bv p).length by rw [bv_length, hpl2]; exact infoD32)
        have HBY := Lib.hid (rbytes_any p wr hpl2)
        unfold digV at HBY
        have HO2 := Lib.hid HO.out
        rw [encL_drop hp] at HO2
        have hsp : (sB p).size = 32 := by rw [sB_size]; exact hpl2
        have hz : ¬ 9223372036854775807 < (sB O).size + (sB p).size := by omega
        clear hca hp hpl2 HO
        go_wp2_with (refine at_lod 34 (.tmp 28) rfl ?_; go_must (refine wpList_load_any (by rfl) 34 (.tmp 28) rfl _ rfl _ _ HCA.out Tryd.underlying34 rfl HLA.out ?_))
        refine HBY.out.mono ?_; rintro e w4 ⟨rfl, hb4⟩
        have HX4 := Lib.hid (HX.out.later hb4)
        have HB4 := Lib.hid (HB.out.trans (hb4.mono HB.out.size))
        clear hb4 x0 x1 x2 x3
        go_wp2_with fail
        go_roundw
        case rel => exact ⟨i + 1, O ++ p, by omega, by go_num, by rw [sB_append], Lib.hid (by rw [← HO2.out]; simp only [List.append_assoc]), HX4.out, HB4.out⟩
        case measure => simp [intOf] <;> omega
      · have hltI : ¬ (i : Int) < (m.parents.length : Int) := by omega
        have HO2 := Lib.hid HO.out
        rw [List.drop_of_length_le (by omega), encL_nil, List.nil_append] at HO2
        obtain ⟨TA, hTAe⟩ : ∃ T, T = Wi.text m.author := ⟨_, rfl⟩
        obtain ⟨TN, hTNe⟩ : ∃ T, T = Wi.text m.note := ⟨_, rfl⟩
        obtain ⟨TL, hTLe⟩ : ∃ T, T = Wi.num m.ops.length := ⟨_, rfl⟩
        rw [← hTAe] at HTA hTA HO2
        rw [← hTNe] at HTN hTN HO2
        rw [← hTLe] at HN2 hN2 HO2
        have hz1 : ¬ 9223372036854775807 < (sB O).size + (sB TA).size := by omega
        have hz2 : ¬ 9223372036854775807 < (sB O).size + (sB TA).size + (sB TN).size := by omega
        have hz3 : ¬ 9223372036854775807 < (sB O).size + (sB TA).size + (sB TN).size + (sB TL).size := by omega
        have hg1 := fun u : Grw wr => (u.prop.cell (p := ⟨w.heap.size, 1, none⟩) HX.out.blk.lt).trans x1
        have hg2 := fun u : Grw wr => (u.prop.cell (p := ⟨w.heap.size, 2, none⟩) HX.out.blk.lt).trans x2
        have hg3 := fun u : Grw wr => (u.prop.cell (p := ⟨w.heap.size, 3, none⟩) HX.out.blk.lt).trans x3
        clear HO hTAe hTNe hTLe
        go_wp2_with fail
        refine wp_region_grow (by kernel_rfl) (by kernel_rfl) ?_
        go_big_quiet_step (fail)
        go_big_quiet_step (fail)
        go_big_quiet_step (fail)
        go_big_quiet_step ((go_at_call 20; exact grow_call (HTA.out _)))
        go_big_quiet_step (fail)
        go_big_quiet_step (fail)
        go_big_quiet_step (fail)
        go_big_quiet_step ((go_at_call 20; exact grow_call (HTN.out _)))
        go_big_quiet_step (fail)
        go_big_quiet_step (fail)
        go_big_quiet_step (fail)
        go_big_quiet_step (fail)
        go_big_quiet_step ((go_at_call 18; exact grow_call (HN2.out _)))
        go_big_quiet_step (fail)
        go_big_quiet_step (fail)
        refine wpQuiet_nil ?_
        first | (intro _ hw'; obtain ⟨u, hw''⟩ := hw'; subst hw'') | intro u
        have HXu := Lib.hid (HX.out.later u.prop)
        have HBu := Lib.hid (HB.out.trans (u.prop.mono HB.out.size))
        clear hg1 hg2 hg3 x0 x1 x2 x3 HX HB
        go_wp2_with fail
        obtain ⟨O2, hO2⟩ : ∃ P, P = O ++ (TA ++ (TN ++ TL)) := ⟨_, rfl⟩
        have hje : sB O ++ sB TA ++ sB TN ++ sB TL = sB O2 := by rw [hO2, sB_append, sB_append, sB_append, ByteArray.append_assoc, ByteArray.append_assoc]
        rw [hje]
        go_loopw [5, 7] (fun ov iv wr => ∃ (i : Nat) (O : List UInt8), i ≤ m.ops.length ∧ iv = .int .i64 (i : Int) ∧ ov = .string (sB O) ∧ Hid (O ++ Pa.encL Cm.encRaw ((m.ops.map Cm.ofOp).drop i) = F) ∧ BoxC m A c B d w.heap.size wr ∧ Below w.heap.size w wr) (fun _ iv _ => m.ops.length - (intOf iv).toNat)
        case atStart => exact ⟨0, O2, Nat.zero_le _, rfl, rfl, Lib.hid (by rw [← HO2.out, hO2, List.drop_zero]; simp only [List.append_assoc]), HXu.out, HBu.out⟩
        clear HXu HBu HO2 hje hO2 hz1 hz2 hz3
        case round =>
          obtain ⟨i, O, hi, rfl, rfl, HO, hX, hB⟩ := hrel
          have HX := Lib.hid hX
          have HB := Lib.hid hB
          obtain ⟨x0, x1, x2, x3⟩ := hX.cells
          have hOl : O.length ≤ 73000 := by have h1 := congrArg List.length HO.out; have h2 := HFL.out; rw [List.length_append] at h1; omega
          have hsO := sB_size O
          clear hX hB
          by_cases hlt : i < m.ops.length
          · have hltI : (i : Int) < (m.ops.length : Int) := by omega
            obtain ⟨p, hp⟩ : ∃ p, m.ops[i]? = some p := ⟨_, List.getElem?_eq_getElem hlt⟩
            have hpl2 := HDo.out p (List.mem_of_getElem? hp)
            obtain ⟨ad, hA, hbl, hca⟩ := (HRo.out.later HB.out).op_at HDo.out hp
            subst hA
            have HCA := Lib.hid hca
            have HLA := Lib.hid (show (Tryd.prog.info? 55).map (·.size) = some (opCells p).length by rw [opCells_length hpl2]; exact infoO37)
            have HBY := Lib.hid (rop_any p wr hpl2)
            have HO2 := Lib.hid HO.out
            rw [encL_drop (x := Cm.ofOp p) (by rw [List.getElem?_map, hp]; rfl)] at HO2
            obtain ⟨Y, hY⟩ : ∃ Y, Y = Cm.encRaw (Cm.ofOp p) := ⟨_, rfl⟩
            rw [← hY] at HBY HO2
            have hYl : Y.length ≤ 73000 := by have h1 := congrArg List.length HO2.out; have h2 := HFL.out; rw [List.length_append, List.length_append] at h1; omega
            have hsp := sB_size Y
            have hz : ¬ 9223372036854775807 < (sB O).size + (sB Y).size := by omega
            clear hca hp hpl2 HO hY
            go_wp2_with (refine at_lod 55 (.tmp 57) rfl ?_; go_must (refine wpList_load_any (by rfl) 55 (.tmp 57) rfl _ rfl _ _ HCA.out Tryd.underlying55 rfl HLA.out ?_))
            refine HBY.out.mono ?_; rintro e w4 ⟨rfl, hb4⟩
            have HX4 := Lib.hid (HX.out.later hb4)
            have HB4 := Lib.hid (HB.out.trans (hb4.mono HB.out.size))
            clear hb4 x0 x1 x2 x3
            go_wp2_with fail
            go_roundw
            case rel => exact ⟨i + 1, O ++ Y, by omega, by go_num, by rw [sB_append], Lib.hid (by rw [← HO2.out]; simp only [List.append_assoc]), HX4.out, HB4.out⟩
            case measure => simp [intOf] <;> omega
          · have hltI : ¬ (i : Int) < (m.ops.length : Int) := by omega
            have HO2 := Lib.hid HO.out
            rw [List.drop_of_length_le (by rw [List.length_map]; omega), encL_nil, List.append_nil] at HO2
            go_wp2_with fail
            go_ret2
            exact ⟨by rw [HV.out, HO2.out]; rfl, HB.out⟩
  · have HV := Lib.hid (show encV m = .tuple #[.string (sB []), .int .i64 (Cm.may Tx.less m : Int)] by unfold encV; rw [if_neg hm])
    obtain ⟨e, he⟩ : ∃ e, e = Cm.may Tx.less m := ⟨_, rfl⟩
    rw [← he] at HV hm HMY
    have hne : ((e : Int) != 0) = true := by rw [bne_iff_ne]; omega
    clear he HOK
    go_enter Tryd.func7, Tryd.ntmps7
    go_wp2_with fail
    refine HMY.out.mono ?_; rintro e w1 ⟨rfl, hb1⟩
    have HB1 := Lib.hid (HBW.out.trans (hb1.mono HBW.out.size))
    clear hb1 hwa x0 x1 x2 x3
    go_wp2_with fail
    go_ret2
    exact ⟨by rw [HV.out]; rfl, HB1.out⟩
end Go.Proofs.YtjgegggcbjecbaaDoor
