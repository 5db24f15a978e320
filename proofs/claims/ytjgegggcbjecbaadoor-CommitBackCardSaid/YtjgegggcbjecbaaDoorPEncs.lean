/- The program's bytesOf and Encode. · The program's Encode. -/
import Derived.Test.YtjgegggcbjecbaaDoorPPutO
import Derived.Test.YtjgegggcbjecbaaDoorPMay
import Derived.Test.YtjgegggcbjecbaaDoorByts
import Derived.Test.YtjgegggcbjecbaaDoorPutText
namespace Go.Proofs.YtjgegggcbjecbaaDoor
open Go Go.RowKit

theorem sB_bytes (s : List UInt8) : (sB s).data.toList = s := by unfold sB; simp
set_option maxRecDepth 100000 in
set_option maxHeartbeats 4000000 in
theorem bytesOf_any (m : Cm.Cm) (v : Value) (A B : Option Addr) (c d : Nat) (w : World) (hI : InCm w v A c B d m) (hok : Cm.CmOk m) :
    Calls Tryd.prog 16 #[v] w (PutR w.heap.size (Cm.encC m) w) := by
  obtain ⟨i0, hi, hz0, hz1, hz2⟩ := info_parts infoU8
  obtain ⟨rfl, hcc, hcd, hRp, hRo, hDp, hDo⟩ := hI
  have HRp := Lib.hid hRp
  have HRo := Lib.hid hRo
  have HDp := Lib.hid hDp
  have HDo := Lib.hid hDo
  have HOK := Lib.hid hok
  obtain ⟨wa, hwa⟩ : ∃ y, y = w.alloc (.cells #[.slice A m.parents.length c, .string (sB m.author), .string (sB m.note), .slice B m.ops.length d] 25) := ⟨_, rfl⟩
  have HX := Lib.hid (show BoxC m A c B d w.heap.size wa from ⟨by rw [hwa]; exact Blk.new w _ _⟩)
  have HBW := Lib.hid (show Below w.heap.size w wa by rw [hwa]; exact below_alloc w _)
  have hps := hok.ps
  have hos := hok.ops
  have has := hok.author
  have hns := hok.note
  obtain ⟨x0, x1, x2, x3⟩ := HX.out.cells
  replace hwa := hwa.symm
  have HE := Lib.hid (encC_is m)
  obtain ⟨E, hE⟩ : ∃ E, E = Cm.encC m := ⟨_, rfl⟩
  rw [← hE] at HE ⊢
  have hn9 := Wi.num_len_nine (n := m.parents.length) (by omega)
  have C0 := Lib.hid (pputNum_any w.heap.size [] (.slice none 0 0) m.parents.length wa (World.ownsRow_nil wa _ _ _) HBW.out.size (by simp) (by omega))
  obtain ⟨L0, hL0⟩ : ∃ L, L = Wi.num m.parents.length := ⟨_, rfl⟩
  have HL0 := Lib.hid hL0
  rw [List.nil_append, ← hL0] at C0
  rw [← hL0] at hn9
  clear hE hL0 hcc hcd hRp hRo hDp hDo hok
  go_enter Tryd.func16, Tryd.ntmps16
  go_wp2_with fail
  refine C0.out.mono ?_; rintro e w1 ⟨v1, rfl, hp1⟩
  have HX1 := Lib.hid (show BoxC m A c B d w.heap.size w1 from ⟨hp1.stay _ _ _ (by decide) HX.out.blk⟩)
  have HP1 := Lib.hid (show PutS w.heap.size L0 v1 w w1 from ⟨hp1.own, HBW.out.trans hp1.hb, fun g t cs ht hk => hp1.stay g t cs ht (hk.later HBW.out)⟩)
  clear hp1 x0 x1 x2 x3 hwa C0 HX HBW
  obtain ⟨x0, x1, x2, x3⟩ := HX1.out.cells
  go_wp2_with fail
  clear x0 x1 x2 x3
  go_loopw [3, 5, 15] (fun bv' _ iv wr => ∃ (i : Nat), iv = .int .i64 (i : Int) ∧ i ≤ m.parents.length ∧ PutS w.heap.size (L0 ++ Pa.encL (fun d => d) (m.parents.take i)) bv' w wr ∧ BoxC m A c B d w.heap.size wr ∧ (Pa.encL (fun d => d) (m.parents.take i)).length ≤ i * 32) (fun _ _ iv _ => m.parents.length - (intOf iv).toNat)
  case atStart => exact ⟨0, rfl, Nat.zero_le _, by rw [List.take_zero, encL_nil, List.append_nil]; exact HP1.out, HX1.out, by rw [List.take_zero, encL_nil]; simp⟩
  clear HP1 HX1
  case round =>
    obtain ⟨i, rfl, hil, hP, hX, hll⟩ := hrel
    have HP := Lib.hid hP
    have HX := Lib.hid hX
    clear hP hX
    by_cases hlt : i < m.parents.length
    · have hltI : (i : Int) < (m.parents.length : Int) := by omega
      obtain ⟨p, hp⟩ : ∃ a, m.parents[i]? = some a := ⟨_, List.getElem?_eq_getElem hlt⟩
      have hlp := HDp.out p (List.mem_of_getElem? hp)
      obtain ⟨ad, hA, hbl, hca⟩ := (HRp.out.later HP.out.hb).elem (by decide) (fun s hs => by rw [bv_length]; exact HDp.out s hs) hp
      subst hA
      have HCA := Lib.hid hca
      have HLA := Lib.hid (show (Tryd.prog.info? 34).map (·.size) = some (bv p).length by rw [bv_length, hlp]; exact infoD32)
      have HDS := Lib.hid (show (bv p).toArray.size = 32 by rw [bv_size]; exact hlp)
      have HDI := Lib.hid (show (Tryd.prog.info? 34).map (·.size) = some (bv p).toArray.size by rw [HDS.out]; exact infoD32)
      have HSN := Lib.hid (encL_snoc (enc := fun d => d) hp)
      obtain ⟨L, hL⟩ : ∃ L, L = L0 ++ Pa.encL (fun d => d) (m.parents.take i) := ⟨_, rfl⟩
      have HL := Lib.hid hL
      have hLl : L.length ≤ 9 + i * 32 := by rw [hL, List.length_append]; omega
      rw [← hL] at HP
      have HLP := Lib.hid hlp
      obtain ⟨wp, hwp⟩ : ∃ y, y = wr.alloc (.cells (bv p).toArray 34) := ⟨_, rfl⟩
      have HBP := Lib.hid (show Below wr.heap.size wr wp by rw [hwp]; exact below_alloc wr _)
      have HPP := Lib.hid (HP.out.later (Nat.le_refl _) HBP.out)
      have HRG := Lib.hid (show wp.rangeAt wr.heap.size 0 (bv p) from fun j u hu => by
        have h : Blk wp wr.heap.size 34 (bv p).toArray := by rw [hwp]; exact Blk.new wr _ _
        rw [Nat.zero_add, h.cell, List.getElem?_toArray, hu])
      have hBp : w.heap.size ≤ wp.heap.size := HPP.out.hb.size
      have HXP := Lib.hid (HX.out.later HBP.out)
      have hp32 : p.length ≤ 32 := by omega
      replace hwp := hwp.symm
      clear hca hlp hp hL
      go_wp2_with (first | (refine at_lod 34 (.tmp 17) rfl ?_; go_must (refine wpList_load_any (by rfl) 34 (.tmp 17) rfl _ rfl _ _ HCA.out Tryd.underlying34 rfl HLA.out ?_)) | (refine at_sto 34 (.tmp 5) (.tmp 18) rfl ?_; go_must (refine wpList_store_row rfl 34 (.tmp 5) (.tmp 18) rfl wr.heap.size (bv p).toArray rfl rfl 34 _ (heap_alloc_new wr _) HDI.out (by rw [HDS.out]; rfl) (bv_all p) ?_); rw [World.setRow_alloc_new, hwp]) | (at_builtin; go_must (refine wp_app _ rfl (.tmp 19) (.tmp 20) 27 27 rfl w.heap.size 5 i0 _ 1 Tryd.underlying27 hi hz0 hz1 hz2 rfl _ L.length (bv L) rfl HPP.out.own _ p.length (bv p) (by rw [HLP.out]; rfl) (src_part Tryd.underlying27 HRG.out 32) (by unfold maxLen; omega) (by omega) hBp ?_); intro v2 w2 ho2 hg2 _; rw [← List.length_append, ← bv_append] at ho2; have HP2 := Lib.hid (HPP.out.app (Nat.le_refl _) ho2 hg2); have HX2 := Lib.hid (show BoxC m (some ad) c B d w.heap.size w2 from ⟨HXP.out.blk.grown hg2 (fun e => put_own_ne HPP.out.own HXP.out.blk (by decide) e.symm)⟩); clear ho2 hg2; go_wp2_with fail))
      go_roundw
      case rel =>
        have hq : L ++ p = L0 ++ Pa.encL (fun d => d) (m.parents.take (i + 1)) := by rw [HSN.out, HL.out, List.append_assoc]
        refine ⟨i + 1, by go_num, by omega, by rw [← hq]; exact HP2.out, HX2.out, ?_⟩
        rw [HSN.out, List.length_append]
        omega
      case measure => simp [intOf] <;> omega
    · have hltI : ¬ (i : Int) < (m.parents.length : Int) := by omega
      obtain rfl : i = m.parents.length := by omega
      rw [List.take_length] at HP hll
      obtain ⟨L, hL⟩ : ∃ L, L = L0 ++ Pa.encL (fun d => d) m.parents := ⟨_, rfl⟩
      have HL := Lib.hid hL
      have hLl : L.length ≤ 9 + 8 * 32 := by rw [hL, List.length_append]; omega
      rw [← hL] at HP
      have C1 := Lib.hid (text_any (sB m.author) wr (by rw [sB_size]; omega))
      rw [sB_bytes] at C1
      obtain ⟨T1, hT1⟩ : ∃ T, T = Wi.text m.author := ⟨_, rfl⟩
      have HT1 := Lib.hid hT1
      have ht1 : T1.length ≤ 40 := by rw [hT1, Wi.text_length]; have := Wi.num_len_nine (n := m.author.length) (by omega); omega
      obtain ⟨T2, hT2⟩ : ∃ T, T = Wi.text m.note := ⟨_, rfl⟩
      have HT2 := Lib.hid hT2
      have ht2 : T2.length ≤ 220 := by rw [hT2, Wi.text_length]; have := Wi.num_len_nine (n := m.note.length) (by omega); omega
      rw [← hT1] at C1
      obtain ⟨x0, x1, x2, x3⟩ := HX.out.cells
      clear hL hT1 hT2 hll hil hlt
      go_wp2_with fail
      refine C1.out.mono ?_; rintro e w3 ⟨A3, c3, rfl, hc3, hr3, hb3⟩
      have HP3 := Lib.hid (HP.out.later (Nat.le_refl _) hb3)
      have HX3 := Lib.hid (HX.out.later hb3)
      have HR3 := Lib.hid hr3
      have hB3 : w.heap.size ≤ w3.heap.size := HP3.out.hb.size
      have C2 := Lib.hid (fun w => text_any (sB m.note) w (by rw [sB_size]; omega))
      rw [sB_bytes, ← HT2.out] at C2
      clear hb3 hr3 x0 x1 x2 x3 HP C1
      go_wp2_with (at_builtin; go_must (refine wp_app _ rfl (.tmp 23) (.tmp 26) 27 27 rfl w.heap.size 5 i0 _ 1 Tryd.underlying27 hi hz0 hz1 hz2 rfl _ L.length (bv L) rfl HP3.out.own _ T1.length (bv T1) rfl (HR3.out.src Tryd.underlying27 c3 (bv_one T1)) (by unfold maxLen; omega) (by omega) hB3 ?_); intro v4 w4 ho4 hg4 _; rw [← List.length_append, ← bv_append] at ho4; have HP4 := Lib.hid (HP3.out.app (Nat.le_refl _) ho4 hg4); have HX4 := Lib.hid (show BoxC m A c B d w.heap.size w4 from ⟨HX3.out.blk.grown hg4 (fun e => put_own_ne HP3.out.own HX3.out.blk (by decide) e.symm)⟩); obtain ⟨x0, x1, x2, x3⟩ := HX4.out.cells; clear ho4 hg4 HP3 HX3 HR3)
      refine (C2.out _).mono ?_; rintro e w5 ⟨A5, c5, rfl, hc5, hr5, hb5⟩
      have HP5 := Lib.hid (HP4.out.later (Nat.le_refl _) hb5)
      have HX5 := Lib.hid (HX4.out.later hb5)
      have HR5 := Lib.hid hr5
      have hB5 : w.heap.size ≤ w5.heap.size := HP5.out.hb.size
      obtain ⟨M, hM⟩ : ∃ M, M = L ++ T1 := ⟨_, rfl⟩
      have HM := Lib.hid hM
      have hMl : M.length ≤ 400 := by rw [hM, List.length_append]; omega
      rw [← hM] at HP5
      have C3 := Lib.hid (fun v w1 (hx : PutS w.heap.size (M ++ T2) v w w1) => pputNum_any w.heap.size (M ++ T2) v m.ops.length w1 hx.own hx.hb.size (by rw [List.length_append]; omega) (by omega))
      clear hb5 hr5 x0 x1 x2 x3 HP4 HX4 C2 hM
      go_wp2_with (at_builtin; go_must (refine wp_app _ rfl (.tmp 28) (.tmp 31) 27 27 rfl w.heap.size 5 i0 _ 1 Tryd.underlying27 hi hz0 hz1 hz2 rfl _ M.length (bv M) rfl HP5.out.own _ T2.length (bv T2) rfl (HR5.out.src Tryd.underlying27 c5 (bv_one T2)) (by unfold maxLen; omega) (by omega) hB5 ?_); intro v6 w6 ho6 hg6 _; rw [← List.length_append, ← bv_append] at ho6; have HP6 := Lib.hid (HP5.out.app (Nat.le_refl _) ho6 hg6); have HX6 := Lib.hid (show BoxC m A c B d w.heap.size w6 from ⟨HX5.out.blk.grown hg6 (fun e => put_own_ne HP5.out.own HX5.out.blk (by decide) e.symm)⟩); obtain ⟨x0, x1, x2, x3⟩ := HX6.out.cells; clear ho6 hg6 HP5 HX5 HR5)
      refine (C3.out _ _ HP6.out).mono ?_; rintro e w7 ⟨v7, rfl, hp7⟩
      have hn9' := Wi.num_len_nine (n := m.ops.length) (by omega)
      have HP7 := Lib.hid (HP6.out.trans hp7)
      have HX7 := Lib.hid (show BoxC m A c B d w.heap.size w7 from ⟨hp7.stay _ _ _ (by decide) HX6.out.blk⟩)
      obtain ⟨N, hN⟩ : ∃ M', M' = M ++ T2 ++ Wi.num m.ops.length := ⟨_, rfl⟩
      have HN := Lib.hid hN
      have hNl : N.length ≤ 700 := by rw [hN, List.length_append, List.length_append]; omega
      rw [← hN] at HP7
      clear hp7 x0 x1 x2 x3 HP6 HX6 C3 hN
      obtain ⟨x0, x1, x2, x3⟩ := HX7.out.cells
      go_wp2_with fail
      clear x0 x1 x2 x3
      go_loopw [3, 7, 41] (fun bv' _ iv wr => ∃ (i : Nat), iv = .int .i64 (i : Int) ∧ i ≤ m.ops.length ∧ PutS w.heap.size (N ++ Pa.encL Cm.encRaw ((m.ops.map Cm.ofOp).take i)) bv' w wr ∧ BoxC m A c B d w.heap.size wr ∧ (Pa.encL Cm.encRaw ((m.ops.map Cm.ofOp).take i)).length ≤ i * 36) (fun _ _ iv _ => m.ops.length - (intOf iv).toNat)
      case atStart => exact ⟨0, rfl, Nat.zero_le _, by rw [List.take_zero, encL_nil, List.append_nil]; exact HP7.out, HX7.out, by rw [List.take_zero, encL_nil]; simp⟩
      clear HP7 HX7
      case round =>
        obtain ⟨i, rfl, hil, hP, hX, hll⟩ := hrel
        have HP := Lib.hid hP
        have HX := Lib.hid hX
        clear hP hX
        by_cases hlt : i < m.ops.length
        · have hltI : (i : Int) < (m.ops.length : Int) := by omega
          obtain ⟨p, hp⟩ : ∃ a, m.ops[i]? = some a := ⟨_, List.getElem?_eq_getElem hlt⟩
          have hlp := HDo.out p (List.mem_of_getElem? hp)
          have hpo := HOK.out.each p (List.mem_of_getElem? hp)
          obtain ⟨ad, hA, hbl, hca⟩ := (HRo.out.later HP.out.hb).elem (by decide) (fun s hs => opCells_length (HDo.out s hs)) hp
          subst hA
          have HCA := Lib.hid hca
          have HLA := Lib.hid (show (Tryd.prog.info? 55).map (·.size) = some (opCells p).length by rw [opCells_length hlp]; exact infoO37)
          have HSN := Lib.hid (encL_snoc (enc := Cm.encRaw) (L := m.ops.map Cm.ofOp) (i := i) (x := Cm.ofOp p) (by rw [List.getElem?_map, hp]; rfl))
          have HE36 := Lib.hid (Cm.encOp_len hpo)
          obtain ⟨K, hK⟩ : ∃ L, L = N ++ Pa.encL Cm.encRaw ((m.ops.map Cm.ofOp).take i) := ⟨_, rfl⟩
          have HK := Lib.hid hK
          have hKl : K.length ≤ 700 + i * 36 := by rw [hK, List.length_append]; omega
          rw [← hK] at HP
          have HDS := Lib.hid (opA_len hlp)
          have HDA := Lib.hid (opCells_all p)
          obtain ⟨Y, hY⟩ : ∃ Y, Y = (opCells p).toArray := ⟨_, rfl⟩
          have HYE := Lib.hid hY
          rw [← hY] at HDS HDA
          have HDI := Lib.hid (show (Tryd.prog.info? 55).map (·.size) = some Y.size by rw [HDS.out]; exact infoO37)
          obtain ⟨wp, hwp⟩ : ∃ y, y = wr.alloc (.cells Y 55) := ⟨_, rfl⟩
          have HYB := Lib.hid (show Blk wp wr.heap.size 55 Y by rw [hwp]; exact Blk.new wr _ _)
          have HBP := Lib.hid (show Below wr.heap.size wr wp by rw [hwp]; exact below_alloc wr _)
          have HPP := Lib.hid (HP.out.later (Nat.le_refl _) HBP.out)
          have HXP := Lib.hid (HX.out.later HBP.out)
          have HPO := Lib.hid (putOp_any w.heap.size K u3 p wp HPP.out.own HPP.out.hb.size (by omega) hlp hpo)
          unfold opV at HPO
          rw [← hY] at HPO
          replace hwp := hwp.symm
          clear hca hlp hp hK hY hpo
          go_wp2_with (first | (refine at_lod 55 (.tmp 43) rfl ?_; go_must (refine wpList_load_any (by rfl) 55 (.tmp 43) rfl _ rfl _ _ HCA.out Tryd.underlying55 rfl HLA.out ?_); rw [← HYE.out]) | (refine at_sto 55 (.tmp 7) (.tmp 44) rfl ?_; go_must (refine wpList_store_row rfl 55 (.tmp 7) (.tmp 44) rfl wr.heap.size Y rfl rfl 55 _ (heap_alloc_new wr _) HDI.out (by rw [HDS.out]; rfl) HDA.out ?_); rw [World.setRow_alloc_new, hwp]) | (refine at_lod 55 (.tmp 7) rfl ?_; go_must (refine wpList_load_row rfl 55 (.tmp 7) rfl wr.heap.size rfl _ Y (0, 0) _ HYB.out Tryd.underlying55 rfl HDI.out ?_)))
          refine HPO.out.mono ?_; rintro e w9 ⟨v9, rfl, hp9⟩
          have HP9 := Lib.hid (HPP.out.trans hp9)
          have HX9 := Lib.hid (show BoxC m A c _ d w.heap.size w9 from ⟨hp9.stay _ _ _ (by decide) HXP.out.blk⟩)
          clear hp9
          go_wp2_with fail
          go_roundw
          case rel =>
            have hq : K ++ Cm.encOp p = N ++ Pa.encL Cm.encRaw ((m.ops.map Cm.ofOp).take (i + 1)) := by rw [HSN.out, HK.out, List.append_assoc]; rfl
            refine ⟨i + 1, by go_num, by omega, by rw [← hq]; exact HP9.out, HX9.out, ?_⟩
            rw [HSN.out, List.length_append]
            have := HE36.out
            omega
          case measure => simp [intOf] <;> omega
        · have hltI : ¬ (i : Int) < (m.ops.length : Int) := by omega
          have hT : (m.ops.map Cm.ofOp).take i = m.ops.map Cm.ofOp := List.take_of_length_le (by rw [List.length_map]; omega)
          rw [hT] at HP
          clear hT hll
          go_wp2_with fail
          go_ret
          refine ⟨_, rfl, ?_⟩
          have h := HP.out
          rw [HN.out, HM.out, HT1.out, HT2.out, HL.out, HL0.out] at h
          rw [HE.out]
          simp only [List.append_assoc] at h
          exact h
end Go.Proofs.YtjgegggcbjecbaaDoor

namespace Go.Proofs.YtjgegggcbjecbaaDoor
open Go Go.RowKit

/-- The bytes that Encode tells. -/
def encB (m : Cm.Cm) : List UInt8 := if Cm.may Tx.less m = 0 then Cm.encC m else []
/-- How the program's Encode ends. -/
def EncO (m : Cm.Cm) (w : World) (e : Ending) (w' : World) : Prop :=
  ∃ A c, e = .returned (.tuple #[.slice A (encB m).length c, .int .i64 (Cm.may Tx.less m : Int)]) ∧ ((encB m).length ≤ c ∧ c ≤ 9223372036854775807) ∧ w'.ownsRow w.heap.size 5 1 (.slice A (encB m).length c) (encB m).length (bv (encB m)) ∧ Below w.heap.size w w'

set_option maxRecDepth 100000 in
set_option maxHeartbeats 4000000 in
theorem pencode_any (m : Cm.Cm) (v : Value) (A B : Option Addr) (c d : Nat) (w : World) (hI : InCm w v A c B d m) (ha : m.author.length ≤ 4611686018427387904) (hn : m.note.length ≤ 4611686018427387904) (hpl : m.parents.length ≤ 4611686018427387904) (hol : m.ops.length ≤ 4611686018427387904) :
    Calls Tryd.prog 6 #[v] w (EncO m w) := by
  have hI' := hI
  obtain ⟨hv, -, -, -, -, -, -⟩ := hI'
  obtain ⟨X, hX⟩ : ∃ X, X = (#[.slice A m.parents.length c, .string (sB m.author), .string (sB m.note), .slice B m.ops.length d] : Array Value) := ⟨_, rfl⟩
  rw [← hX] at hv
  subst hv
  have HXS := Lib.hid (show X.size = 4 by rw [hX]; rfl)
  have HXI := Lib.hid (show (Tryd.prog.info? 25).map (·.size) = some X.size by rw [HXS.out]; exact infoC4)
  obtain ⟨wa, hwa⟩ : ∃ y, y = w.alloc (.cells X 25) := ⟨_, rfl⟩
  have HB := Lib.hid (show Blk wa w.heap.size 25 X by rw [hwa]; exact Blk.new w _ _)
  have HBW := Lib.hid (show Below w.heap.size w wa by rw [hwa]; exact below_alloc w _)
  have HM := Lib.hid (pmay_any m _ A B c d wa (hI.later HBW.out) ha hn hpl hol)
  have HEN := Lib.hid (fun (w1 : World) (hb : Below w.heap.size w w1) (h : Cm.may Tx.less m = 0) => bytesOf_any m _ A B c d w1 (hI.later hb) (hI.ok h))
  obtain ⟨k, hk⟩ : ∃ k, k = Cm.may Tx.less m := ⟨_, rfl⟩
  have HEB := Lib.hid (show encB m = if k = 0 then Cm.encC m else [] by rw [hk]; rfl)
  unfold EncO
  rw [← hk] at HM HEN ⊢
  replace hwa := hwa.symm
  clear hX hI hk
  by_cases h0 : k = 0
  · subst h0
    rw [if_pos rfl] at HEB
    go_enter Tryd.func6, Tryd.ntmps6
    go_wp2_with (refine at_lod 25 (.tmp 1) rfl ?_; go_must (refine wpList_load_row rfl 25 (.tmp 1) rfl w.heap.size rfl _ X (0, 0) _ HB.out Tryd.underlying25 rfl HXI.out ?_))
    refine HM.out.mono ?_; rintro e w1 ⟨rfl, hb1⟩
    have HB1 := Lib.hid (HB.out.later hb1)
    have HBW1 := Lib.hid (HBW.out.trans (hb1.mono HBW.out.size))
    clear hb1 hwa
    go_wp2_with (refine at_lod 25 (.tmp 1) rfl ?_; go_must (refine wpList_load_row rfl 25 (.tmp 1) rfl w.heap.size rfl _ X (0, 0) _ HB1.out Tryd.underlying25 rfl HXI.out ?_))
    refine (HEN.out w1 HBW1.out (by first | rfl | trivial)).mono ?_; rintro e w2 ⟨v2, rfl, hp⟩
    obtain ⟨A2, c2, rfl, h1, h2, -⟩ := own_form hp.own
    have HP := Lib.hid hp
    have HC := Lib.hid h1
    have HC2 := Lib.hid h2
    clear hp h1 h2
    go_wp2_with fail
    go_ret2
    refine ⟨A2, c2, by rw [HEB.out]; rfl, ⟨by rw [HEB.out]; exact HC.out, by have := HC2.out; simpa [maxLen] using this⟩, ?_, HBW1.out.trans (HP.out.hb.mono HBW1.out.size)⟩
    rw [HEB.out]
    exact own_base HP.out.own HBW1.out.size
  · have hne : ((k : Int) != 0) = true := by rw [bne_iff_ne]; omega
    have hne2 : ¬ k = 0 := h0
    rw [if_neg h0] at HEB
    go_enter Tryd.func6, Tryd.ntmps6
    go_wp2_with (refine at_lod 25 (.tmp 1) rfl ?_; go_must (refine wpList_load_row rfl 25 (.tmp 1) rfl w.heap.size rfl _ X (0, 0) _ HB.out Tryd.underlying25 rfl HXI.out ?_))
    refine HM.out.mono ?_; rintro e w1 ⟨rfl, hb1⟩
    have HBW1 := Lib.hid (HBW.out.trans (hb1.mono HBW.out.size))
    clear hb1 hwa
    go_wp2_with fail
    go_ret2
    refine ⟨none, 0, by rw [HEB.out]; rfl, ⟨by rw [HEB.out]; exact Nat.le_refl _, by omega⟩, ?_, HBW1.out⟩
    rw [HEB.out]
    exact World.ownsRow_nil w1 _ _ _
end Go.Proofs.YtjgegggcbjecbaaDoor
