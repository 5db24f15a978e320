/- The document's op: an operation's bytes. -/
import Derived.Test.YtjgegggcbjecbaaDoorRByt
namespace Go.Proofs.YtjgegggcbjecbaaDoor
open Go Go.RowKit

theorem op_enc (x : Cm.Op) : Cm.encRaw (Cm.ofOp x) = Wi.num (Cm.headN x) ++ ((if Cm.refK x.at_ = 2 then x.at_.commit else []) ++ ((if Cm.refK x.at_ = 1 ∨ Cm.refK x.at_ = 2 then Wi.num x.at_.n.toNat else []) ++ (if x.kind = 1 then [x.byte] else []))) := by
  obtain ⟨h1, h2, h3, h4⟩ := Cm.headN_spec x
  unfold Cm.encRaw Cm.ofOp
  simp only []
  congr 1
  rw [h4, h2]
  rcases Cm.refK_cases x.at_ with hk | hk | hk | hk <;> rw [hk] <;> by_cases k2 : x.kind = 2 <;> by_cases k1 : x.kind = 1 <;> simp [k1, k2]

set_option maxRecDepth 100000 in
set_option maxHeartbeats 16000000 in
theorem rop_any (x : Cm.Op) (w : World) (hD : dimOp x) :
    Calls Tryd.prog 21 #[.agg (opCells x).toArray] w (Ret (.string (sB (Cm.encRaw (Cm.ofOp x)))) w) := by
  obtain ⟨hxl, hxk, hxn⟩ := hD
  obtain ⟨wa, hwa⟩ : ∃ y, y = w.alloc (.cells (opCells x).toArray 55) := ⟨_, rfl⟩
  have hB : Blk wa w.heap.size 55 (opCells x).toArray := by rw [hwa]; exact Blk.new w _ _
  have HAL := Lib.hid (show Below w.heap.size w wa by rw [hwa]; exact below_alloc w _)
  have HRG := Lib.hid (show wa.rangeAt w.heap.size 2 (refCells x.at_) from fun j v hv => by rw [hB.cell, List.getElem?_toArray, opCells_ref hv])
  have HRD := Lib.hid (show ∀ w' : World, Blk w' w.heap.size 55 (opCells x).toArray → ∀ j v, (bv x.at_.commit)[j]? = some v → w'.cell? ((⟨w.heap.size, 3, none⟩ : Addr).add j) = some v from fun w' h j v hv => by
    rw [Addr.add_mid, h.cell, List.getElem?_toArray]; exact (show 3 + j = 2 + (1 + j) by omega) ▸ opCells_ref (refCells_dig hv))
  have HLN := Lib.hid (show (Tryd.prog.info? 53).map (·.size) = some (refCells x.at_).length by rw [refCells_len hxl]; exact infoR34)
  have HLD := Lib.hid (show (Tryd.prog.info? 34).map (·.size) = some (bv x.at_.commit).length by rw [bv_length, hxl]; exact infoD32)
  have HX0 := Lib.hid (show (opCells x).toArray[0]? = some (.int .i64 x.kind) by rw [List.getElem?_toArray, opCells_0])
  have HX1 := Lib.hid (show (opCells x).toArray[1]? = some (.bool x.left) by rw [List.getElem?_toArray, opCells_1])
  have HX35 := Lib.hid (show (opCells x).toArray[35]? = some (.int .i64 x.at_.n) by rw [List.getElem?_toArray, opCells_35 hxl])
  have HX36 := Lib.hid (show (opCells x).toArray[36]? = some (.int .u8 (x.byte.toNat : Int)) by rw [List.getElem?_toArray, opCells_36 hxl])
  have HRF := Lib.hid (rref_any x.at_ wa hxl hxn)
  unfold refV at HRF
  have HBY := Lib.hid (fun w => rbytes_any x.at_.commit w hxl)
  unfold digV at HBY
  have HE := Lib.hid (op_enc x)
  have HHN := Lib.hid (show Cm.headN x = (if x.kind = 2 then 1 else 0) + (if x.left = true then 2 else 0) + (if Cm.refK x.at_ = 1 then 4 else if Cm.refK x.at_ = 2 then 8 else 0) from rfl)
  have HNUM := Lib.hid (fun n (w : World) (h : n < 9223372036854775808) => refNum_any n n w (Nat.le_refl _) h)
  have HKC := Lib.hid (Cm.refK_cases x.at_)
  have HOWN := Lib.hid (fun h => (Cm.refK_own (r := x.at_) h).2.2)
  have HFAR := Lib.hid (fun h => (Cm.refK_far (r := x.at_) h).2)
  have hs9 := num_size (n := x.at_.n.toNat)
  obtain ⟨X, hX⟩ : ∃ X, X = (opCells x).toArray := ⟨_, rfl⟩
  rw [← hX] at HX0 HX1 HX35 HX36 hB hwa HRD ⊢
  have c0 := (hB.cell 0).trans HX0.out
  have c1 := (hB.cell 1).trans HX1.out
  have HB := Lib.hid hB
  obtain ⟨E, hE⟩ : ∃ E, E = Cm.encRaw (Cm.ofOp x) := ⟨_, rfl⟩
  obtain ⟨H, hH⟩ : ∃ H, H = Cm.headN x := ⟨_, rfl⟩
  obtain ⟨K, hK⟩ : ∃ K, K = Cm.refK x.at_ := ⟨_, rfl⟩
  rw [← hE] at HE ⊢
  rw [← hH] at HE HHN
  rw [← hK] at HE HHN HKC HOWN HFAR HRF
  obtain ⟨kd, lf, ⟨ow, cm, n⟩, by_⟩ := x
  simp only [] at HE HHN HX0 HX1 HX35 HX36 HOWN HFAR HBY HLD HRD hxl hxk hxn hs9 c0 c1
  obtain ⟨r, hr⟩ : ∃ r, r = (⟨ow, cm, n⟩ : Cm.Rf) := ⟨_, rfl⟩
  simp only [] at HRG HLN HRF
  rw [← hr] at HRG HLN HRF
  have hcl : (sB cm).size = 32 := by rw [sB_size]; exact hxl
  have hs1 : (sB [by_]).size = 1 := rfl
  have hcv := fun w => conv_one by_ w
  replace hwa := hwa.symm
  clear hX hB hE hH hK hr
  rcases HKC.out with hk | hk | hk | hk
  · subst hk
    clear HKC HOWN HFAR
    by_cases h1 : kd = 1
    · subst h1
      cases lf with
      | true =>
        have HHV : H = 2 := by rw [HHN.out]; simp
        have HEV := Lib.hid HE.out
        have HEV2 : Hid (E = Wi.num 2 ++ ([] ++ [by_])) := Lib.hid (by rw [HEV.out, HHV]; simp)
        have HNH := Lib.hid (fun w => HNUM.out 2 w (by omega))
        simp only [show ((2 : Nat) : Int) = 2 from rfl] at HNH
        have hsh : (sB (Wi.num 2)).size ≤ 9 := num_size (by omega)
        clear HE HEV HHN HHV
        go_enter Tryd.func21, Tryd.ntmps21
        go_wp2_with (refine at_lod 53 (.tmp 12) rfl ?_; go_must (refine wpList_load_mid rfl 53 (.tmp 12) rfl w.heap.size 2 rfl _ _ HRG.out Tryd.underlying53 rfl HLN.out ?_))
        refine HRF.out.mono ?_; rintro e w1 ⟨rfl, hb1⟩
        have HBp := Lib.hid (HB.out.later hb1)
        have p0 := (HBp.out.cell 0).trans HX0.out
        have p35 := (HBp.out.cell 35).trans HX35.out
        have p36 := (HBp.out.cell 36).trans HX36.out
        have HA1 := Lib.hid (HAL.out.trans (hb1.mono HAL.out.size))
        clear hb1 hwa c0 c1
        have hz1 : ¬ 9223372036854775807 < (sB (Wi.num 2)).size := by omega
        have hz2 : ¬ 9223372036854775807 < (sB (Wi.num 2)).size + (sB [by_]).size := by omega
        go_wp2_with fail
        refine (HNH.out w1).mono ?_; rintro e w3 ⟨rfl, hb3⟩
        have HBz := Lib.hid (HBp.out.later hb3)
        have z0 := (HBz.out.cell 0).trans HX0.out
        have z35 := (HBz.out.cell 35).trans HX35.out
        have z36 := (HBz.out.cell 36).trans HX36.out
        have HA3 := Lib.hid (HA1.out.trans (hb3.mono HA1.out.size))
        clear hb3 p0 p35 p36
        go_wp2_with fail
        go_ret
        exact ⟨by rw [HEV2.out]; exact sB_ext (by simp [sB, ByteArray.data_append]), HA3.out.alloc HA3.out.size _⟩
      | false =>
        have HHV : H = 0 := by rw [HHN.out]; simp
        have HEV := Lib.hid HE.out
        have HEV2 : Hid (E = Wi.num 0 ++ ([] ++ [by_])) := Lib.hid (by rw [HEV.out, HHV]; simp)
        have HNH := Lib.hid (fun w => HNUM.out 0 w (by omega))
        simp only [show ((0 : Nat) : Int) = 0 from rfl] at HNH
        have hsh : (sB (Wi.num 0)).size ≤ 9 := num_size (by omega)
        clear HE HEV HHN HHV
        go_enter Tryd.func21, Tryd.ntmps21
        go_wp2_with (refine at_lod 53 (.tmp 12) rfl ?_; go_must (refine wpList_load_mid rfl 53 (.tmp 12) rfl w.heap.size 2 rfl _ _ HRG.out Tryd.underlying53 rfl HLN.out ?_))
        refine HRF.out.mono ?_; rintro e w1 ⟨rfl, hb1⟩
        have HBp := Lib.hid (HB.out.later hb1)
        have p0 := (HBp.out.cell 0).trans HX0.out
        have p35 := (HBp.out.cell 35).trans HX35.out
        have p36 := (HBp.out.cell 36).trans HX36.out
        have HA1 := Lib.hid (HAL.out.trans (hb1.mono HAL.out.size))
        clear hb1 hwa c0 c1
        have hz1 : ¬ 9223372036854775807 < (sB (Wi.num 0)).size := by omega
        have hz2 : ¬ 9223372036854775807 < (sB (Wi.num 0)).size + (sB [by_]).size := by omega
        go_wp2_with fail
        refine (HNH.out w1).mono ?_; rintro e w3 ⟨rfl, hb3⟩
        have HBz := Lib.hid (HBp.out.later hb3)
        have z0 := (HBz.out.cell 0).trans HX0.out
        have z35 := (HBz.out.cell 35).trans HX35.out
        have z36 := (HBz.out.cell 36).trans HX36.out
        have HA3 := Lib.hid (HA1.out.trans (hb3.mono HA1.out.size))
        clear hb3 p0 p35 p36
        go_wp2_with fail
        go_ret
        exact ⟨by rw [HEV2.out]; exact sB_ext (by simp [sB, ByteArray.data_append]), HA3.out.alloc HA3.out.size _⟩
    · by_cases h2 : kd = 2
      · subst h2
        cases lf with
        | true =>
          have HHV : H = 3 := by rw [HHN.out]; simp
          have HEV := Lib.hid HE.out
          have HEV2 : Hid (E = Wi.num 3 ++ ([] ++ [])) := Lib.hid (by rw [HEV.out, HHV]; simp)
          have HNH := Lib.hid (fun w => HNUM.out 3 w (by omega))
          simp only [show ((3 : Nat) : Int) = 3 from rfl] at HNH
          have hsh : (sB (Wi.num 3)).size ≤ 9 := num_size (by omega)
          clear HE HEV HHN HHV
          go_enter Tryd.func21, Tryd.ntmps21
          go_wp2_with (refine at_lod 53 (.tmp 12) rfl ?_; go_must (refine wpList_load_mid rfl 53 (.tmp 12) rfl w.heap.size 2 rfl _ _ HRG.out Tryd.underlying53 rfl HLN.out ?_))
          refine HRF.out.mono ?_; rintro e w1 ⟨rfl, hb1⟩
          have HBp := Lib.hid (HB.out.later hb1)
          have p0 := (HBp.out.cell 0).trans HX0.out
          have p35 := (HBp.out.cell 35).trans HX35.out
          have p36 := (HBp.out.cell 36).trans HX36.out
          have HA1 := Lib.hid (HAL.out.trans (hb1.mono HAL.out.size))
          clear hb1 hwa c0 c1
          have hz1 : ¬ 9223372036854775807 < (sB (Wi.num 3)).size := by omega
          have hz2 : ¬ 9223372036854775807 < (sB (Wi.num 3)).size + (sB [by_]).size := by omega
          go_wp2_with fail
          refine (HNH.out w1).mono ?_; rintro e w3 ⟨rfl, hb3⟩
          have HBz := Lib.hid (HBp.out.later hb3)
          have z0 := (HBz.out.cell 0).trans HX0.out
          have z35 := (HBz.out.cell 35).trans HX35.out
          have z36 := (HBz.out.cell 36).trans HX36.out
          have HA3 := Lib.hid (HA1.out.trans (hb3.mono HA1.out.size))
          clear hb3 p0 p35 p36
          go_wp2_with fail
          go_ret
          exact ⟨by rw [HEV2.out]; exact sB_ext (by simp [sB, ByteArray.data_append]), HA3.out⟩
        | false =>
          have HHV : H = 1 := by rw [HHN.out]; simp
          have HEV := Lib.hid HE.out
          have HEV2 : Hid (E = Wi.num 1 ++ ([] ++ [])) := Lib.hid (by rw [HEV.out, HHV]; simp)
          have HNH := Lib.hid (fun w => HNUM.out 1 w (by omega))
          simp only [show ((1 : Nat) : Int) = 1 from rfl] at HNH
          have hsh : (sB (Wi.num 1)).size ≤ 9 := num_size (by omega)
          clear HE HEV HHN HHV
          go_enter Tryd.func21, Tryd.ntmps21
          go_wp2_with (refine at_lod 53 (.tmp 12) rfl ?_; go_must (refine wpList_load_mid rfl 53 (.tmp 12) rfl w.heap.size 2 rfl _ _ HRG.out Tryd.underlying53 rfl HLN.out ?_))
          refine HRF.out.mono ?_; rintro e w1 ⟨rfl, hb1⟩
          have HBp := Lib.hid (HB.out.later hb1)
          have p0 := (HBp.out.cell 0).trans HX0.out
          have p35 := (HBp.out.cell 35).trans HX35.out
          have p36 := (HBp.out.cell 36).trans HX36.out
          have HA1 := Lib.hid (HAL.out.trans (hb1.mono HAL.out.size))
          clear hb1 hwa c0 c1
          have hz1 : ¬ 9223372036854775807 < (sB (Wi.num 1)).size := by omega
          have hz2 : ¬ 9223372036854775807 < (sB (Wi.num 1)).size + (sB [by_]).size := by omega
          go_wp2_with fail
          refine (HNH.out w1).mono ?_; rintro e w3 ⟨rfl, hb3⟩
          have HBz := Lib.hid (HBp.out.later hb3)
          have z0 := (HBz.out.cell 0).trans HX0.out
          have z35 := (HBz.out.cell 35).trans HX35.out
          have z36 := (HBz.out.cell 36).trans HX36.out
          have HA3 := Lib.hid (HA1.out.trans (hb3.mono HA1.out.size))
          clear hb3 p0 p35 p36
          go_wp2_with fail
          go_ret
          exact ⟨by rw [HEV2.out]; exact sB_ext (by simp [sB, ByteArray.data_append]), HA3.out⟩
      · have e1 : (kd == 1) = false := by rw [beq_eq_false_iff_ne]; exact h1
        have e2 : (kd == 2) = false := by rw [beq_eq_false_iff_ne]; exact h2
        cases lf with
        | true =>
          have HHV : H = 2 := by rw [HHN.out]; simp [h2]
          have HEV := Lib.hid HE.out
          simp only [if_neg h1] at HEV
          have HEV2 : Hid (E = Wi.num 2 ++ ([] ++ [])) := Lib.hid (by rw [HEV.out, HHV]; simp)
          have HNH := Lib.hid (fun w => HNUM.out 2 w (by omega))
          simp only [show ((2 : Nat) : Int) = 2 from rfl] at HNH
          have hsh : (sB (Wi.num 2)).size ≤ 9 := num_size (by omega)
          clear HE HEV HHN HHV
          go_enter Tryd.func21, Tryd.ntmps21
          go_wp2_with (refine at_lod 53 (.tmp 12) rfl ?_; go_must (refine wpList_load_mid rfl 53 (.tmp 12) rfl w.heap.size 2 rfl _ _ HRG.out Tryd.underlying53 rfl HLN.out ?_))
          refine HRF.out.mono ?_; rintro e w1 ⟨rfl, hb1⟩
          have HBp := Lib.hid (HB.out.later hb1)
          have p0 := (HBp.out.cell 0).trans HX0.out
          have p35 := (HBp.out.cell 35).trans HX35.out
          have p36 := (HBp.out.cell 36).trans HX36.out
          have HA1 := Lib.hid (HAL.out.trans (hb1.mono HAL.out.size))
          clear hb1 hwa c0 c1
          have hz1 : ¬ 9223372036854775807 < (sB (Wi.num 2)).size := by omega
          have hz2 : ¬ 9223372036854775807 < (sB (Wi.num 2)).size + (sB [by_]).size := by omega
          go_wp2_with fail
          refine (HNH.out w1).mono ?_; rintro e w3 ⟨rfl, hb3⟩
          have HBz := Lib.hid (HBp.out.later hb3)
          have z0 := (HBz.out.cell 0).trans HX0.out
          have z35 := (HBz.out.cell 35).trans HX35.out
          have z36 := (HBz.out.cell 36).trans HX36.out
          have HA3 := Lib.hid (HA1.out.trans (hb3.mono HA1.out.size))
          clear hb3 p0 p35 p36
          go_wp2_with fail
          go_ret
          exact ⟨by rw [HEV2.out]; exact sB_ext (by simp [sB, ByteArray.data_append]), HA3.out⟩
        | false =>
          have HHV : H = 0 := by rw [HHN.out]; simp [h2]
          have HEV := Lib.hid HE.out
          simp only [if_neg h1] at HEV
          have HEV2 : Hid (E = Wi.num 0 ++ ([] ++ [])) := Lib.hid (by rw [HEV.out, HHV]; simp)
          have HNH := Lib.hid (fun w => HNUM.out 0 w (by omega))
          simp only [show ((0 : Nat) : Int) = 0 from rfl] at HNH
          have hsh : (sB (Wi.num 0)).size ≤ 9 := num_size (by omega)
          clear HE HEV HHN HHV
          go_enter Tryd.func21, Tryd.ntmps21
          go_wp2_with (refine at_lod 53 (.tmp 12) rfl ?_; go_must (refine wpList_load_mid rfl 53 (.tmp 12) rfl w.heap.size 2 rfl _ _ HRG.out Tryd.underlying53 rfl HLN.out ?_))
          refine HRF.out.mono ?_; rintro e w1 ⟨rfl, hb1⟩
          have HBp := Lib.hid (HB.out.later hb1)
          have p0 := (HBp.out.cell 0).trans HX0.out
          have p35 := (HBp.out.cell 35).trans HX35.out
          have p36 := (HBp.out.cell 36).trans HX36.out
          have HA1 := Lib.hid (HAL.out.trans (hb1.mono HAL.out.size))
          clear hb1 hwa c0 c1
          have hz1 : ¬ 9223372036854775807 < (sB (Wi.num 0)).size := by omega
          have hz2 : ¬ 9223372036854775807 < (sB (Wi.num 0)).size + (sB [by_]).size := by omega
          go_wp2_with fail
          refine (HNH.out w1).mono ?_; rintro e w3 ⟨rfl, hb3⟩
          have HBz := Lib.hid (HBp.out.later hb3)
          have z0 := (HBz.out.cell 0).trans HX0.out
          have z35 := (HBz.out.cell 35).trans HX35.out
          have z36 := (HBz.out.cell 36).trans HX36.out
          have HA3 := Lib.hid (HA1.out.trans (hb3.mono HA1.out.size))
          clear hb3 p0 p35 p36
          go_wp2_with fail
          go_ret
          exact ⟨by rw [HEV2.out]; exact sB_ext (by simp [sB, ByteArray.data_append]), HA3.out⟩
  · subst hk
    have hn1 := HOWN.out rfl
    obtain ⟨m, rfl⟩ := Int.eq_ofNat_of_zero_le (show 0 ≤ n by omega)
    rw [Int.toNat_natCast] at HE hs9
    have hs9' := hs9 (by omega)
    clear hs9
    clear HKC HOWN HFAR
    by_cases h1 : kd = 1
    · subst h1
      cases lf with
      | true =>
        have HHV : H = 6 := by rw [HHN.out]; simp
        have HEV := Lib.hid HE.out
        have HEV2 : Hid (E = Wi.num 6 ++ (Wi.num m ++ [by_])) := Lib.hid (by rw [HEV.out, HHV]; simp)
        have HNH := Lib.hid (fun w => HNUM.out 6 w (by omega))
        simp only [show ((6 : Nat) : Int) = 6 from rfl] at HNH
        have hsh : (sB (Wi.num 6)).size ≤ 9 := num_size (by omega)
        clear HE HEV HHN HHV
        go_enter Tryd.func21, Tryd.ntmps21
        go_wp2_with (refine at_lod 53 (.tmp 12) rfl ?_; go_must (refine wpList_load_mid rfl 53 (.tmp 12) rfl w.heap.size 2 rfl _ _ HRG.out Tryd.underlying53 rfl HLN.out ?_))
        refine HRF.out.mono ?_; rintro e w1 ⟨rfl, hb1⟩
        have HBp := Lib.hid (HB.out.later hb1)
        have p0 := (HBp.out.cell 0).trans HX0.out
        have p35 := (HBp.out.cell 35).trans HX35.out
        have p36 := (HBp.out.cell 36).trans HX36.out
        have HA1 := Lib.hid (HAL.out.trans (hb1.mono HAL.out.size))
        clear hb1 hwa c0 c1
        go_wp2_with fail
        refine (HNUM.out m w1 (by omega)).mono ?_; rintro e w2 ⟨rfl, hb2⟩
        have HBq := Lib.hid (HBp.out.later hb2)
        have q0 := (HBq.out.cell 0).trans HX0.out
        have q35 := (HBq.out.cell 35).trans HX35.out
        have q36 := (HBq.out.cell 36).trans HX36.out
        have HA2 := Lib.hid (HA1.out.trans (hb2.mono HA1.out.size))
        clear hb2 p0 p35 p36
        have hz1 : ¬ 9223372036854775807 < (sB (Wi.num 6)).size + (sB (Wi.num m)).size := by omega
        have hz2 : ¬ 9223372036854775807 < (sB (Wi.num 6)).size + (sB (Wi.num m)).size + (sB [by_]).size := by omega
        go_wp2_with fail
        refine (HNH.out w2).mono ?_; rintro e w3 ⟨rfl, hb3⟩
        have HBz := Lib.hid (HBq.out.later hb3)
        have z0 := (HBz.out.cell 0).trans HX0.out
        have z35 := (HBz.out.cell 35).trans HX35.out
        have z36 := (HBz.out.cell 36).trans HX36.out
        have HA3 := Lib.hid (HA2.out.trans (hb3.mono HA2.out.size))
        clear hb3 q0 q35 q36
        go_wp2_with fail
        go_ret
        exact ⟨by rw [HEV2.out]; exact sB_ext (by simp [sB, ByteArray.data_append]), HA3.out.alloc HA3.out.size _⟩
      | false =>
        have HHV : H = 4 := by rw [HHN.out]; simp
        have HEV := Lib.hid HE.out
        have HEV2 : Hid (E = Wi.num 4 ++ (Wi.num m ++ [by_])) := Lib.hid (by rw [HEV.out, HHV]; simp)
        have HNH := Lib.hid (fun w => HNUM.out 4 w (by omega))
        simp only [show ((4 : Nat) : Int) = 4 from rfl] at HNH
        have hsh : (sB (Wi.num 4)).size ≤ 9 := num_size (by omega)
        clear HE HEV HHN HHV
        go_enter Tryd.func21, Tryd.ntmps21
        go_wp2_with (refine at_lod 53 (.tmp 12) rfl ?_; go_must (refine wpList_load_mid rfl 53 (.tmp 12) rfl w.heap.size 2 rfl _ _ HRG.out Tryd.underlying53 rfl HLN.out ?_))
        refine HRF.out.mono ?_; rintro e w1 ⟨rfl, hb1⟩
        have HBp := Lib.hid (HB.out.later hb1)
        have p0 := (HBp.out.cell 0).trans HX0.out
        have p35 := (HBp.out.cell 35).trans HX35.out
        have p36 := (HBp.out.cell 36).trans HX36.out
        have HA1 := Lib.hid (HAL.out.trans (hb1.mono HAL.out.size))
        clear hb1 hwa c0 c1
        go_wp2_with fail
        refine (HNUM.out m w1 (by omega)).mono ?_; rintro e w2 ⟨rfl, hb2⟩
        have HBq := Lib.hid (HBp.out.later hb2)
        have q0 := (HBq.out.cell 0).trans HX0.out
        have q35 := (HBq.out.cell 35).trans HX35.out
        have q36 := (HBq.out.cell 36).trans HX36.out
        have HA2 := Lib.hid (HA1.out.trans (hb2.mono HA1.out.size))
        clear hb2 p0 p35 p36
        have hz1 : ¬ 9223372036854775807 < (sB (Wi.num 4)).size + (sB (Wi.num m)).size := by omega
        have hz2 : ¬ 9223372036854775807 < (sB (Wi.num 4)).size + (sB (Wi.num m)).size + (sB [by_]).size := by omega
        go_wp2_with fail
        refine (HNH.out w2).mono ?_; rintro e w3 ⟨rfl, hb3⟩
        have HBz := Lib.hid (HBq.out.later hb3)
        have z0 := (HBz.out.cell 0).trans HX0.out
        have z35 := (HBz.out.cell 35).trans HX35.out
        have z36 := (HBz.out.cell 36).trans HX36.out
        have HA3 := Lib.hid (HA2.out.trans (hb3.mono HA2.out.size))
        clear hb3 q0 q35 q36
        go_wp2_with fail
        go_ret
        exact ⟨by rw [HEV2.out]; exact sB_ext (by simp [sB, ByteArray.data_append]), HA3.out.alloc HA3.out.size _⟩
    · by_cases h2 : kd = 2
      · subst h2
        cases lf with
        | true =>
          have HHV : H = 7 := by rw [HHN.out]; simp
          have HEV := Lib.hid HE.out
          have HEV2 : Hid (E = Wi.num 7 ++ (Wi.num m ++ [])) := Lib.hid (by rw [HEV.out, HHV]; simp)
          have HNH := Lib.hid (fun w => HNUM.out 7 w (by omega))
          simp only [show ((7 : Nat) : Int) = 7 from rfl] at HNH
          have hsh : (sB (Wi.num 7)).size ≤ 9 := num_size (by omega)
          clear HE HEV HHN HHV
          go_enter Tryd.func21, Tryd.ntmps21
          go_wp2_with (refine at_lod 53 (.tmp 12) rfl ?_; go_must (refine wpList_load_mid rfl 53 (.tmp 12) rfl w.heap.size 2 rfl _ _ HRG.out Tryd.underlying53 rfl HLN.out ?_))
          refine HRF.out.mono ?_; rintro e w1 ⟨rfl, hb1⟩
          have HBp := Lib.hid (HB.out.later hb1)
          have p0 := (HBp.out.cell 0).trans HX0.out
          have p35 := (HBp.out.cell 35).trans HX35.out
          have p36 := (HBp.out.cell 36).trans HX36.out
          have HA1 := Lib.hid (HAL.out.trans (hb1.mono HAL.out.size))
          clear hb1 hwa c0 c1
          go_wp2_with fail
          refine (HNUM.out m w1 (by omega)).mono ?_; rintro e w2 ⟨rfl, hb2⟩
          have HBq := Lib.hid (HBp.out.later hb2)
          have q0 := (HBq.out.cell 0).trans HX0.out
          have q35 := (HBq.out.cell 35).trans HX35.out
          have q36 := (HBq.out.cell 36).trans HX36.out
          have HA2 := Lib.hid (HA1.out.trans (hb2.mono HA1.out.size))
          clear hb2 p0 p35 p36
          have hz1 : ¬ 9223372036854775807 < (sB (Wi.num 7)).size + (sB (Wi.num m)).size := by omega
          have hz2 : ¬ 9223372036854775807 < (sB (Wi.num 7)).size + (sB (Wi.num m)).size + (sB [by_]).size := by omega
          go_wp2_with fail
          refine (HNH.out w2).mono ?_; rintro e w3 ⟨rfl, hb3⟩
          have HBz := Lib.hid (HBq.out.later hb3)
          have z0 := (HBz.out.cell 0).trans HX0.out
          have z35 := (HBz.out.cell 35).trans HX35.out
          have z36 := (HBz.out.cell 36).trans HX36.out
          have HA3 := Lib.hid (HA2.out.trans (hb3.mono HA2.out.size))
          clear hb3 q0 q35 q36
          go_wp2_with fail
          go_ret
          exact ⟨by rw [HEV2.out]; exact sB_ext (by simp [sB, ByteArray.data_append]), HA3.out⟩
        | false =>
          have HHV : H = 5 := by rw [HHN.out]; simp
          have HEV := Lib.hid HE.out
          have HEV2 : Hid (E = Wi.num 5 ++ (Wi.num m ++ [])) := Lib.hid (by rw [HEV.out, HHV]; simp)
          have HNH := Lib.hid (fun w => HNUM.out 5 w (by omega))
          simp only [show ((5 : Nat) : Int) = 5 from rfl] at HNH
          have hsh : (sB (Wi.num 5)).size ≤ 9 := num_size (by omega)
          clear HE HEV HHN HHV
          go_enter Tryd.func21, Tryd.ntmps21
          go_wp2_with (refine at_lod 53 (.tmp 12) rfl ?_; go_must (refine wpList_load_mid rfl 53 (.tmp 12) rfl w.heap.size 2 rfl _ _ HRG.out Tryd.underlying53 rfl HLN.out ?_))
          refine HRF.out.mono ?_; rintro e w1 ⟨rfl, hb1⟩
          have HBp := Lib.hid (HB.out.later hb1)
          have p0 := (HBp.out.cell 0).trans HX0.out
          have p35 := (HBp.out.cell 35).trans HX35.out
          have p36 := (HBp.out.cell 36).trans HX36.out
          have HA1 := Lib.hid (HAL.out.trans (hb1.mono HAL.out.size))
          clear hb1 hwa c0 c1
          go_wp2_with fail
          refine (HNUM.out m w1 (by omega)).mono ?_; rintro e w2 ⟨rfl, hb2⟩
          have HBq := Lib.hid (HBp.out.later hb2)
          have q0 := (HBq.out.cell 0).trans HX0.out
          have q35 := (HBq.out.cell 35).trans HX35.out
          have q36 := (HBq.out.cell 36).trans HX36.out
          have HA2 := Lib.hid (HA1.out.trans (hb2.mono HA1.out.size))
          clear hb2 p0 p35 p36
          have hz1 : ¬ 9223372036854775807 < (sB (Wi.num 5)).size + (sB (Wi.num m)).size := by omega
          have hz2 : ¬ 9223372036854775807 < (sB (Wi.num 5)).size + (sB (Wi.num m)).size + (sB [by_]).size := by omega
          go_wp2_with fail
          refine (HNH.out w2).mono ?_; rintro e w3 ⟨rfl, hb3⟩
          have HBz := Lib.hid (HBq.out.later hb3)
          have z0 := (HBz.out.cell 0).trans HX0.out
          have z35 := (HBz.out.cell 35).trans HX35.out
          have z36 := (HBz.out.cell 36).trans HX36.out
          have HA3 := Lib.hid (HA2.out.trans (hb3.mono HA2.out.size))
          clear hb3 q0 q35 q36
          go_wp2_with fail
          go_ret
          exact ⟨by rw [HEV2.out]; exact sB_ext (by simp [sB, ByteArray.data_append]), HA3.out⟩
      · have e1 : (kd == 1) = false := by rw [beq_eq_false_iff_ne]; exact h1
        have e2 : (kd == 2) = false := by rw [beq_eq_false_iff_ne]; exact h2
        cases lf with
        | true =>
          have HHV : H = 6 := by rw [HHN.out]; simp [h2]
          have HEV := Lib.hid HE.out
          simp only [if_neg h1] at HEV
          have HEV2 : Hid (E = Wi.num 6 ++ (Wi.num m ++ [])) := Lib.hid (by rw [HEV.out, HHV]; simp)
          have HNH := Lib.hid (fun w => HNUM.out 6 w (by omega))
          simp only [show ((6 : Nat) : Int) = 6 from rfl] at HNH
          have hsh : (sB (Wi.num 6)).size ≤ 9 := num_size (by omega)
          clear HE HEV HHN HHV
          go_enter Tryd.func21, Tryd.ntmps21
          go_wp2_with (refine at_lod 53 (.tmp 12) rfl ?_; go_must (refine wpList_load_mid rfl 53 (.tmp 12) rfl w.heap.size 2 rfl _ _ HRG.out Tryd.underlying53 rfl HLN.out ?_))
          refine HRF.out.mono ?_; rintro e w1 ⟨rfl, hb1⟩
          have HBp := Lib.hid (HB.out.later hb1)
          have p0 := (HBp.out.cell 0).trans HX0.out
          have p35 := (HBp.out.cell 35).trans HX35.out
          have p36 := (HBp.out.cell 36).trans HX36.out
          have HA1 := Lib.hid (HAL.out.trans (hb1.mono HAL.out.size))
          clear hb1 hwa c0 c1
          go_wp2_with fail
          refine (HNUM.out m w1 (by omega)).mono ?_; rintro e w2 ⟨rfl, hb2⟩
          have HBq := Lib.hid (HBp.out.later hb2)
          have q0 := (HBq.out.cell 0).trans HX0.out
          have q35 := (HBq.out.cell 35).trans HX35.out
          have q36 := (HBq.out.cell 36).trans HX36.out
          have HA2 := Lib.hid (HA1.out.trans (hb2.mono HA1.out.size))
          clear hb2 p0 p35 p36
          have hz1 : ¬ 9223372036854775807 < (sB (Wi.num 6)).size + (sB (Wi.num m)).size := by omega
          have hz2 : ¬ 9223372036854775807 < (sB (Wi.num 6)).size + (sB (Wi.num m)).size + (sB [by_]).size := by omega
          go_wp2_with fail
          refine (HNH.out w2).mono ?_; rintro e w3 ⟨rfl, hb3⟩
          have HBz := Lib.hid (HBq.out.later hb3)
          have z0 := (HBz.out.cell 0).trans HX0.out
          have z35 := (HBz.out.cell 35).trans HX35.out
          have z36 := (HBz.out.cell 36).trans HX36.out
          have HA3 := Lib.hid (HA2.out.trans (hb3.mono HA2.out.size))
          clear hb3 q0 q35 q36
          go_wp2_with fail
          go_ret
          exact ⟨by rw [HEV2.out]; exact sB_ext (by simp [sB, ByteArray.data_append]), HA3.out⟩
        | false =>
          have HHV : H = 4 := by rw [HHN.out]; simp [h2]
          have HEV := Lib.hid HE.out
          simp only [if_neg h1] at HEV
          have HEV2 : Hid (E = Wi.num 4 ++ (Wi.num m ++ [])) := Lib.hid (by rw [HEV.out, HHV]; simp)
          have HNH := Lib.hid (fun w => HNUM.out 4 w (by omega))
          simp only [show ((4 : Nat) : Int) = 4 from rfl] at HNH
          have hsh : (sB (Wi.num 4)).size ≤ 9 := num_size (by omega)
          clear HE HEV HHN HHV
          go_enter Tryd.func21, Tryd.ntmps21
          go_wp2_with (refine at_lod 53 (.tmp 12) rfl ?_; go_must (refine wpList_load_mid rfl 53 (.tmp 12) rfl w.heap.size 2 rfl _ _ HRG.out Tryd.underlying53 rfl HLN.out ?_))
          refine HRF.out.mono ?_; rintro e w1 ⟨rfl, hb1⟩
          have HBp := Lib.hid (HB.out.later hb1)
          have p0 := (HBp.out.cell 0).trans HX0.out
          have p35 := (HBp.out.cell 35).trans HX35.out
          have p36 := (HBp.out.cell 36).trans HX36.out
          have HA1 := Lib.hid (HAL.out.trans (hb1.mono HAL.out.size))
          clear hb1 hwa c0 c1
          go_wp2_with fail
          refine (HNUM.out m w1 (by omega)).mono ?_; rintro e w2 ⟨rfl, hb2⟩
          have HBq := Lib.hid (HBp.out.later hb2)
          have q0 := (HBq.out.cell 0).trans HX0.out
          have q35 := (HBq.out.cell 35).trans HX35.out
          have q36 := (HBq.out.cell 36).trans HX36.out
          have HA2 := Lib.hid (HA1.out.trans (hb2.mono HA1.out.size))
          clear hb2 p0 p35 p36
          have hz1 : ¬ 9223372036854775807 < (sB (Wi.num 4)).size + (sB (Wi.num m)).size := by omega
          have hz2 : ¬ 9223372036854775807 < (sB (Wi.num 4)).size + (sB (Wi.num m)).size + (sB [by_]).size := by omega
          go_wp2_with fail
          refine (HNH.out w2).mono ?_; rintro e w3 ⟨rfl, hb3⟩
          have HBz := Lib.hid (HBq.out.later hb3)
          have z0 := (HBz.out.cell 0).trans HX0.out
          have z35 := (HBz.out.cell 35).trans HX35.out
          have z36 := (HBz.out.cell 36).trans HX36.out
          have HA3 := Lib.hid (HA2.out.trans (hb3.mono HA2.out.size))
          clear hb3 q0 q35 q36
          go_wp2_with fail
          go_ret
          exact ⟨by rw [HEV2.out]; exact sB_ext (by simp [sB, ByteArray.data_append]), HA3.out⟩
  · subst hk
    have hn1 := HFAR.out rfl
    obtain ⟨m, rfl⟩ := Int.eq_ofNat_of_zero_le (show 0 ≤ n by omega)
    rw [Int.toNat_natCast] at HE hs9
    have hs9' := hs9 (by omega)
    clear hs9
    clear HKC HOWN HFAR
    by_cases h1 : kd = 1
    · subst h1
      cases lf with
      | true =>
        have HHV : H = 10 := by rw [HHN.out]; simp
        have HEV := Lib.hid HE.out
        have HEV2 : Hid (E = Wi.num 10 ++ ((cm ++ Wi.num m) ++ [by_])) := Lib.hid (by rw [HEV.out, HHV]; simp)
        have HNH := Lib.hid (fun w => HNUM.out 10 w (by omega))
        simp only [show ((10 : Nat) : Int) = 10 from rfl] at HNH
        have hsh : (sB (Wi.num 10)).size ≤ 9 := num_size (by omega)
        clear HE HEV HHN HHV
        go_enter Tryd.func21, Tryd.ntmps21
        go_wp2_with (refine at_lod 53 (.tmp 12) rfl ?_; go_must (refine wpList_load_mid rfl 53 (.tmp 12) rfl w.heap.size 2 rfl _ _ HRG.out Tryd.underlying53 rfl HLN.out ?_))
        refine HRF.out.mono ?_; rintro e w1 ⟨rfl, hb1⟩
        have HBp := Lib.hid (HB.out.later hb1)
        have p0 := (HBp.out.cell 0).trans HX0.out
        have p35 := (HBp.out.cell 35).trans HX35.out
        have p36 := (HBp.out.cell 36).trans HX36.out
        have HA1 := Lib.hid (HAL.out.trans (hb1.mono HAL.out.size))
        clear hb1 hwa c0 c1
        go_wp2_with fail
        have hg35 := fun u : Grw w1 => (u.prop.cell (p := ⟨w.heap.size, 35, none⟩) HBp.out.lt).trans p35
        have HGD := Lib.hid (fun u : Grw w1 => HRD.out u.val (HBp.out.later u.prop))
        have hz0 : ¬ 9223372036854775807 < (sB cm).size + (sB (Wi.num m)).size := by omega
        refine wp_region_grow (by kernel_rfl) (by kernel_rfl) ?_
        go_big_quiet_step (fail)
        go_big_quiet_step (fail)
        refine quiet_load_any (by rfl) 34 (.tmp 28) rfl ⟨w.heap.size, 3, none⟩ rfl (bv cm) HGD.out _ Tryd.underlying34 rfl HLD.out ?_; go_simp
        go_big_quiet_step ((go_at_call 19; exact grow_call (HBY.out _)))
        go_big_quiet_step (fail)
        go_big_quiet_step (fail)
        go_big_quiet_step (fail)
        go_big_quiet_step ((go_at_call 18; exact grow_call (HNUM.out m _ (by omega))))
        go_big_quiet_step (fail)
        go_big_quiet_step (fail)
        refine wpQuiet_nil ?_
        first | (intro _ hw'; obtain ⟨u, hw''⟩ := hw'; subst hw'') | intro u
        have HBq := Lib.hid (HBp.out.later u.prop)
        have q0 := (HBq.out.cell 0).trans HX0.out
        have q35 := (HBq.out.cell 35).trans HX35.out
        have q36 := (HBq.out.cell 36).trans HX36.out
        have HA2 := Lib.hid (HA1.out.trans (u.prop.mono HA1.out.size))
        clear p0 p35 p36 hg35
        have hz1 : ¬ 9223372036854775807 < (sB (Wi.num 10)).size + ((sB cm).size + (sB (Wi.num m)).size) := by omega
        have hz2 : ¬ 9223372036854775807 < (sB (Wi.num 10)).size + ((sB cm).size + (sB (Wi.num m)).size) + (sB [by_]).size := by omega
        go_wp2_with fail
        refine (HNH.out u.val).mono ?_; rintro e w3 ⟨rfl, hb3⟩
        have HBz := Lib.hid (HBq.out.later hb3)
        have z0 := (HBz.out.cell 0).trans HX0.out
        have z35 := (HBz.out.cell 35).trans HX35.out
        have z36 := (HBz.out.cell 36).trans HX36.out
        have HA3 := Lib.hid (HA2.out.trans (hb3.mono HA2.out.size))
        clear hb3 q0 q35 q36
        go_wp2_with fail
        go_ret
        exact ⟨by rw [HEV2.out]; exact sB_ext (by simp [sB, ByteArray.data_append]), HA3.out.alloc HA3.out.size _⟩
      | false =>
        have HHV : H = 8 := by rw [HHN.out]; simp
        have HEV := Lib.hid HE.out
        have HEV2 : Hid (E = Wi.num 8 ++ ((cm ++ Wi.num m) ++ [by_])) := Lib.hid (by rw [HEV.out, HHV]; simp)
        have HNH := Lib.hid (fun w => HNUM.out 8 w (by omega))
        simp only [show ((8 : Nat) : Int) = 8 from rfl] at HNH
        have hsh : (sB (Wi.num 8)).size ≤ 9 := num_size (by omega)
        clear HE HEV HHN HHV
        go_enter Tryd.func21, Tryd.ntmps21
        go_wp2_with (refine at_lod 53 (.tmp 12) rfl ?_; go_must (refine wpList_load_mid rfl 53 (.tmp 12) rfl w.heap.size 2 rfl _ _ HRG.out Tryd.underlying53 rfl HLN.out ?_))
        refine HRF.out.mono ?_; rintro e w1 ⟨rfl, hb1⟩
        have HBp := Lib.hid (HB.out.later hb1)
        have p0 := (HBp.out.cell 0).trans HX0.out
        have p35 := (HBp.out.cell 35).trans HX35.out
        have p36 := (HBp.out.cell 36).trans HX36.out
        have HA1 := Lib.hid (HAL.out.trans (hb1.mono HAL.out.size))
        clear hb1 hwa c0 c1
        go_wp2_with fail
        have hg35 := fun u : Grw w1 => (u.prop.cell (p := ⟨w.heap.size, 35, none⟩) HBp.out.lt).trans p35
        have HGD := Lib.hid (fun u : Grw w1 => HRD.out u.val (HBp.out.later u.prop))
        have hz0 : ¬ 9223372036854775807 < (sB cm).size + (sB (Wi.num m)).size := by omega
        refine wp_region_grow (by kernel_rfl) (by kernel_rfl) ?_
        go_big_quiet_step (fail)
        go_big_quiet_step (fail)
        refine quiet_load_any (by rfl) 34 (.tmp 28) rfl ⟨w.heap.size, 3, none⟩ rfl (bv cm) HGD.out _ Tryd.underlying34 rfl HLD.out ?_; go_simp
        go_big_quiet_step ((go_at_call 19; exact grow_call (HBY.out _)))
        go_big_quiet_step (fail)
        go_big_quiet_step (fail)
        go_big_quiet_step (fail)
        go_big_quiet_step ((go_at_call 18; exact grow_call (HNUM.out m _ (by omega))))
        go_big_quiet_step (fail)
        go_big_quiet_step (fail)
        refine wpQuiet_nil ?_
        first | (intro _ hw'; obtain ⟨u, hw''⟩ := hw'; subst hw'') | intro u
        have HBq := Lib.hid (HBp.out.later u.prop)
        have q0 := (HBq.out.cell 0).trans HX0.out
        have q35 := (HBq.out.cell 35).trans HX35.out
        have q36 := (HBq.out.cell 36).trans HX36.out
        have HA2 := Lib.hid (HA1.out.trans (u.prop.mono HA1.out.size))
        clear p0 p35 p36 hg35
        have hz1 : ¬ 9223372036854775807 < (sB (Wi.num 8)).size + ((sB cm).size + (sB (Wi.num m)).size) := by omega
        have hz2 : ¬ 9223372036854775807 < (sB (Wi.num 8)).size + ((sB cm).size + (sB (Wi.num m)).size) + (sB [by_]).size := by omega
        go_wp2_with fail
        refine (HNH.out u.val).mono ?_; rintro e w3 ⟨rfl, hb3⟩
        have HBz := Lib.hid (HBq.out.later hb3)
        have z0 := (HBz.out.cell 0).trans HX0.out
        have z35 := (HBz.out.cell 35).trans HX35.out
        have z36 := (HBz.out.cell 36).trans HX36.out
        have HA3 := Lib.hid (HA2.out.trans (hb3.mono HA2.out.size))
        clear hb3 q0 q35 q36
        go_wp2_with fail
        go_ret
        exact ⟨by rw [HEV2.out]; exact sB_ext (by simp [sB, ByteArray.data_append]), HA3.out.alloc HA3.out.size _⟩
    · by_cases h2 : kd = 2
      · subst h2
        cases lf with
        | true =>
          have HHV : H = 11 := by rw [HHN.out]; simp
          have HEV := Lib.hid HE.out
          have HEV2 : Hid (E = Wi.num 11 ++ ((cm ++ Wi.num m) ++ [])) := Lib.hid (by rw [HEV.out, HHV]; simp)
          have HNH := Lib.hid (fun w => HNUM.out 11 w (by omega))
          simp only [show ((11 : Nat) : Int) = 11 from rfl] at HNH
          have hsh : (sB (Wi.num 11)).size ≤ 9 := num_size (by omega)
          clear HE HEV HHN HHV
          go_enter Tryd.func21, Tryd.ntmps21
          go_wp2_with (refine at_lod 53 (.tmp 12) rfl ?_; go_must (refine wpList_load_mid rfl 53 (.tmp 12) rfl w.heap.size 2 rfl _ _ HRG.out Tryd.underlying53 rfl HLN.out ?_))
          refine HRF.out.mono ?_; rintro e w1 ⟨rfl, hb1⟩
          have HBp := Lib.hid (HB.out.later hb1)
          have p0 := (HBp.out.cell 0).trans HX0.out
          have p35 := (HBp.out.cell 35).trans HX35.out
          have p36 := (HBp.out.cell 36).trans HX36.out
          have HA1 := Lib.hid (HAL.out.trans (hb1.mono HAL.out.size))
          clear hb1 hwa c0 c1
          go_wp2_with fail
          have hg35 := fun u : Grw w1 => (u.prop.cell (p := ⟨w.heap.size, 35, none⟩) HBp.out.lt).trans p35
          have HGD := Lib.hid (fun u : Grw w1 => HRD.out u.val (HBp.out.later u.prop))
          have hz0 : ¬ 9223372036854775807 < (sB cm).size + (sB (Wi.num m)).size := by omega
          refine wp_region_grow (by kernel_rfl) (by kernel_rfl) ?_
          go_big_quiet_step (fail)
          go_big_quiet_step (fail)
          refine quiet_load_any (by rfl) 34 (.tmp 28) rfl ⟨w.heap.size, 3, none⟩ rfl (bv cm) HGD.out _ Tryd.underlying34 rfl HLD.out ?_; go_simp
          go_big_quiet_step ((go_at_call 19; exact grow_call (HBY.out _)))
          go_big_quiet_step (fail)
          go_big_quiet_step (fail)
          go_big_quiet_step (fail)
          go_big_quiet_step ((go_at_call 18; exact grow_call (HNUM.out m _ (by omega))))
          go_big_quiet_step (fail)
          go_big_quiet_step (fail)
          refine wpQuiet_nil ?_
          first | (intro _ hw'; obtain ⟨u, hw''⟩ := hw'; subst hw'') | intro u
          have HBq := Lib.hid (HBp.out.later u.prop)
          have q0 := (HBq.out.cell 0).trans HX0.out
          have q35 := (HBq.out.cell 35).trans HX35.out
          have q36 := (HBq.out.cell 36).trans HX36.out
          have HA2 := Lib.hid (HA1.out.trans (u.prop.mono HA1.out.size))
          clear p0 p35 p36 hg35
          have hz1 : ¬ 9223372036854775807 < (sB (Wi.num 11)).size + ((sB cm).size + (sB (Wi.num m)).size) := by omega
          have hz2 : ¬ 9223372036854775807 < (sB (Wi.num 11)).size + ((sB cm).size + (sB (Wi.num m)).size) + (sB [by_]).size := by omega
          go_wp2_with fail
          refine (HNH.out u.val).mono ?_; rintro e w3 ⟨rfl, hb3⟩
          have HBz := Lib.hid (HBq.out.later hb3)
          have z0 := (HBz.out.cell 0).trans HX0.out
          have z35 := (HBz.out.cell 35).trans HX35.out
          have z36 := (HBz.out.cell 36).trans HX36.out
          have HA3 := Lib.hid (HA2.out.trans (hb3.mono HA2.out.size))
          clear hb3 q0 q35 q36
          go_wp2_with fail
          go_ret
          exact ⟨by rw [HEV2.out]; exact sB_ext (by simp [sB, ByteArray.data_append]), HA3.out⟩
        | false =>
          have HHV : H = 9 := by rw [HHN.out]; simp
          have HEV := Lib.hid HE.out
          have HEV2 : Hid (E = Wi.num 9 ++ ((cm ++ Wi.num m) ++ [])) := Lib.hid (by rw [HEV.out, HHV]; simp)
          have HNH := Lib.hid (fun w => HNUM.out 9 w (by omega))
          simp only [show ((9 : Nat) : Int) = 9 from rfl] at HNH
          have hsh : (sB (Wi.num 9)).size ≤ 9 := num_size (by omega)
          clear HE HEV HHN HHV
          go_enter Tryd.func21, Tryd.ntmps21
          go_wp2_with (refine at_lod 53 (.tmp 12) rfl ?_; go_must (refine wpList_load_mid rfl 53 (.tmp 12) rfl w.heap.size 2 rfl _ _ HRG.out Tryd.underlying53 rfl HLN.out ?_))
          refine HRF.out.mono ?_; rintro e w1 ⟨rfl, hb1⟩
          have HBp := Lib.hid (HB.out.later hb1)
          have p0 := (HBp.out.cell 0).trans HX0.out
          have p35 := (HBp.out.cell 35).trans HX35.out
          have p36 := (HBp.out.cell 36).trans HX36.out
          have HA1 := Lib.hid (HAL.out.trans (hb1.mono HAL.out.size))
          clear hb1 hwa c0 c1
          go_wp2_with fail
          have hg35 := fun u : Grw w1 => (u.prop.cell (p := ⟨w.heap.size, 35, none⟩) HBp.out.lt).trans p35
          have HGD := Lib.hid (fun u : Grw w1 => HRD.out u.val (HBp.out.later u.prop))
          have hz0 : ¬ 9223372036854775807 < (sB cm).size + (sB (Wi.num m)).size := by omega
          refine wp_region_grow (by kernel_rfl) (by kernel_rfl) ?_
          go_big_quiet_step (fail)
          go_big_quiet_step (fail)
          refine quiet_load_any (by rfl) 34 (.tmp 28) rfl ⟨w.heap.size, 3, none⟩ rfl (bv cm) HGD.out _ Tryd.underlying34 rfl HLD.out ?_; go_simp
          go_big_quiet_step ((go_at_call 19; exact grow_call (HBY.out _)))
          go_big_quiet_step (fail)
          go_big_quiet_step (fail)
          go_big_quiet_step (fail)
          go_big_quiet_step ((go_at_call 18; exact grow_call (HNUM.out m _ (by omega))))
          go_big_quiet_step (fail)
          go_big_quiet_step (fail)
          refine wpQuiet_nil ?_
          first | (intro _ hw'; obtain ⟨u, hw''⟩ := hw'; subst hw'') | intro u
          have HBq := Lib.hid (HBp.out.later u.prop)
          have q0 := (HBq.out.cell 0).trans HX0.out
          have q35 := (HBq.out.cell 35).trans HX35.out
          have q36 := (HBq.out.cell 36).trans HX36.out
          have HA2 := Lib.hid (HA1.out.trans (u.prop.mono HA1.out.size))
          clear p0 p35 p36 hg35
          have hz1 : ¬ 9223372036854775807 < (sB (Wi.num 9)).size + ((sB cm).size + (sB (Wi.num m)).size) := by omega
          have hz2 : ¬ 9223372036854775807 < (sB (Wi.num 9)).size + ((sB cm).size + (sB (Wi.num m)).size) + (sB [by_]).size := by omega
          go_wp2_with fail
          refine (HNH.out u.val).mono ?_; rintro e w3 ⟨rfl, hb3⟩
          have HBz := Lib.hid (HBq.out.later hb3)
          have z0 := (HBz.out.cell 0).trans HX0.out
          have z35 := (HBz.out.cell 35).trans HX35.out
          have z36 := (HBz.out.cell 36).trans HX36.out
          have HA3 := Lib.hid (HA2.out.trans (hb3.mono HA2.out.size))
          clear hb3 q0 q35 q36
          go_wp2_with fail
          go_ret
          exact ⟨by rw [HEV2.out]; exact sB_ext (by simp [sB, ByteArray.data_append]), HA3.out⟩
      · have e1 : (kd == 1) = false := by rw [beq_eq_false_iff_ne]; exact h1
        have e2 : (kd == 2) = false := by rw [beq_eq_false_iff_ne]; exact h2
        cases lf with
        | true =>
          have HHV : H = 10 := by rw [HHN.out]; simp [h2]
          have HEV := Lib.hid HE.out
          simp only [if_neg h1] at HEV
          have HEV2 : Hid (E = Wi.num 10 ++ ((cm ++ Wi.num m) ++ [])) := Lib.hid (by rw [HEV.out, HHV]; simp)
          have HNH := Lib.hid (fun w => HNUM.out 10 w (by omega))
          simp only [show ((10 : Nat) : Int) = 10 from rfl] at HNH
          have hsh : (sB (Wi.num 10)).size ≤ 9 := num_size (by omega)
          clear HE HEV HHN HHV
          go_enter Tryd.func21, Tryd.ntmps21
          go_wp2_with (refine at_lod 53 (.tmp 12) rfl ?_; go_must (refine wpList_load_mid rfl 53 (.tmp 12) rfl w.heap.size 2 rfl _ _ HRG.out Tryd.underlying53 rfl HLN.out ?_))
          refine HRF.out.mono ?_; rintro e w1 ⟨rfl, hb1⟩
          have HBp := Lib.hid (HB.out.later hb1)
          have p0 := (HBp.out.cell 0).trans HX0.out
          have p35 := (HBp.out.cell 35).trans HX35.out
          have p36 := (HBp.out.cell 36).trans HX36.out
          have HA1 := Lib.hid (HAL.out.trans (hb1.mono HAL.out.size))
          clear hb1 hwa c0 c1
          go_wp2_with fail
          have hg35 := fun u : Grw w1 => (u.prop.cell (p := ⟨w.heap.size, 35, none⟩) HBp.out.lt).trans p35
          have HGD := Lib.hid (fun u : Grw w1 => HRD.out u.val (HBp.out.later u.prop))
          have hz0 : ¬ 9223372036854775807 < (sB cm).size + (sB (Wi.num m)).size := by omega
          refine wp_region_grow (by kernel_rfl) (by kernel_rfl) ?_
          go_big_quiet_step (fail)
          go_big_quiet_step (fail)
          refine quiet_load_any (by rfl) 34 (.tmp 28) rfl ⟨w.heap.size, 3, none⟩ rfl (bv cm) HGD.out _ Tryd.underlying34 rfl HLD.out ?_; go_simp
          go_big_quiet_step ((go_at_call 19; exact grow_call (HBY.out _)))
          go_big_quiet_step (fail)
          go_big_quiet_step (fail)
          go_big_quiet_step (fail)
          go_big_quiet_step ((go_at_call 18; exact grow_call (HNUM.out m _ (by omega))))
          go_big_quiet_step (fail)
          go_big_quiet_step (fail)
          refine wpQuiet_nil ?_
          first | (intro _ hw'; obtain ⟨u, hw''⟩ := hw'; subst hw'') | intro u
          have HBq := Lib.hid (HBp.out.later u.prop)
          have q0 := (HBq.out.cell 0).trans HX0.out
          have q35 := (HBq.out.cell 35).trans HX35.out
          have q36 := (HBq.out.cell 36).trans HX36.out
          have HA2 := Lib.hid (HA1.out.trans (u.prop.mono HA1.out.size))
          clear p0 p35 p36 hg35
          have hz1 : ¬ 9223372036854775807 < (sB (Wi.num 10)).size + ((sB cm).size + (sB (Wi.num m)).size) := by omega
          have hz2 : ¬ 9223372036854775807 < (sB (Wi.num 10)).size + ((sB cm).size + (sB (Wi.num m)).size) + (sB [by_]).size := by omega
          go_wp2_with fail
          refine (HNH.out u.val).mono ?_; rintro e w3 ⟨rfl, hb3⟩
          have HBz := Lib.hid (HBq.out.later hb3)
          have z0 := (HBz.out.cell 0).trans HX0.out
          have z35 := (HBz.out.cell 35).trans HX35.out
          have z36 := (HBz.out.cell 36).trans HX36.out
          have HA3 := Lib.hid (HA2.out.trans (hb3.mono HA2.out.size))
          clear hb3 q0 q35 q36
          go_wp2_with fail
          go_ret
          exact ⟨by rw [HEV2.out]; exact sB_ext (by simp [sB, ByteArray.data_append]), HA3.out⟩
        | false =>
          have HHV : H = 8 := by rw [HHN.out]; simp [h2]
          have HEV := Lib.hid HE.out
          simp only [if_neg h1] at HEV
          have HEV2 : Hid (E = Wi.num 8 ++ ((cm ++ Wi.num m) ++ [])) := Lib.hid (by rw [HEV.out, HHV]; simp)
          have HNH := Lib.hid (fun w => HNUM.out 8 w (by omega))
          simp only [show ((8 : Nat) : Int) = 8 from rfl] at HNH
          have hsh : (sB (Wi.num 8)).size ≤ 9 := num_size (by omega)
          clear HE HEV HHN HHV
          go_enter Tryd.func21, Tryd.ntmps21
          go_wp2_with (refine at_lod 53 (.tmp 12) rfl ?_; go_must (refine wpList_load_mid rfl 53 (.tmp 12) rfl w.heap.size 2 rfl _ _ HRG.out Tryd.underlying53 rfl HLN.out ?_))
          refine HRF.out.mono ?_; rintro e w1 ⟨rfl, hb1⟩
          have HBp := Lib.hid (HB.out.later hb1)
          have p0 := (HBp.out.cell 0).trans HX0.out
          have p35 := (HBp.out.cell 35).trans HX35.out
          have p36 := (HBp.out.cell 36).trans HX36.out
          have HA1 := Lib.hid (HAL.out.trans (hb1.mono HAL.out.size))
          clear hb1 hwa c0 c1
          go_wp2_with fail
          have hg35 := fun u : Grw w1 => (u.prop.cell (p := ⟨w.heap.size, 35, none⟩) HBp.out.lt).trans p35
          have HGD := Lib.hid (fun u : Grw w1 => HRD.out u.val (HBp.out.later u.prop))
          have hz0 : ¬ 9223372036854775807 < (sB cm).size + (sB (Wi.num m)).size := by omega
          refine wp_region_grow (by kernel_rfl) (by kernel_rfl) ?_
          go_big_quiet_step (fail)
          go_big_quiet_step (fail)
          refine quiet_load_any (by rfl) 34 (.tmp 28) rfl ⟨w.heap.size, 3, none⟩ rfl (bv cm) HGD.out _ Tryd.underlying34 rfl HLD.out ?_; go_simp
          go_big_quiet_step ((go_at_call 19; exact grow_call (HBY.out _)))
          go_big_quiet_step (fail)
          go_big_quiet_step (fail)
          go_big_quiet_step (fail)
          go_big_quiet_step ((go_at_call 18; exact grow_call (HNUM.out m _ (by omega))))
          go_big_quiet_step (fail)
          go_big_quiet_step (fail)
          refine wpQuiet_nil ?_
          first | (intro _ hw'; obtain ⟨u, hw''⟩ := hw'; subst hw'') | intro u
          have HBq := Lib.hid (HBp.out.later u.prop)
          have q0 := (HBq.out.cell 0).trans HX0.out
          have q35 := (HBq.out.cell 35).trans HX35.out
          have q36 := (HBq.out.cell 36).trans HX36.out
          have HA2 := Lib.hid (HA1.out.trans (u.prop.mono HA1.out.size))
          clear p0 p35 p36 hg35
          have hz1 : ¬ 9223372036854775807 < (sB (Wi.num 8)).size + ((sB cm).size + (sB (Wi.num m)).size) := by omega
          have hz2 : ¬ 9223372036854775807 < (sB (Wi.num 8)).size + ((sB cm).size + (sB (Wi.num m)).size) + (sB [by_]).size := by omega
          go_wp2_with fail
          refine (HNH.out u.val).mono ?_; rintro e w3 ⟨rfl, hb3⟩
          have HBz := Lib.hid (HBq.out.later hb3)
          have z0 := (HBz.out.cell 0).trans HX0.out
          have z35 := (HBz.out.cell 35).trans HX35.out
          have z36 := (HBz.out.cell 36).trans HX36.out
          have HA3 := Lib.hid (HA2.out.trans (hb3.mono HA2.out.size))
          clear hb3 q0 q35 q36
          go_wp2_with fail
          go_ret
          exact ⟨by rw [HEV2.out]; exact sB_ext (by simp [sB, ByteArray.data_append]), HA3.out⟩
  · subst hk
    clear HKC HOWN HFAR
    by_cases h1 : kd = 1
    · subst h1
      cases lf with
      | true =>
        have HHV : H = 2 := by rw [HHN.out]; simp
        have HEV := Lib.hid HE.out
        have HEV2 : Hid (E = Wi.num 2 ++ ([] ++ [by_])) := Lib.hid (by rw [HEV.out, HHV]; simp)
        have HNH := Lib.hid (fun w => HNUM.out 2 w (by omega))
        simp only [show ((2 : Nat) : Int) = 2 from rfl] at HNH
        have hsh : (sB (Wi.num 2)).size ≤ 9 := num_size (by omega)
        clear HE HEV HHN HHV
        go_enter Tryd.func21, Tryd.ntmps21
        go_wp2_with (refine at_lod 53 (.tmp 12) rfl ?_; go_must (refine wpList_load_mid rfl 53 (.tmp 12) rfl w.heap.size 2 rfl _ _ HRG.out Tryd.underlying53 rfl HLN.out ?_))
        refine HRF.out.mono ?_; rintro e w1 ⟨rfl, hb1⟩
        have HBp := Lib.hid (HB.out.later hb1)
        have p0 := (HBp.out.cell 0).trans HX0.out
        have p35 := (HBp.out.cell 35).trans HX35.out
        have p36 := (HBp.out.cell 36).trans HX36.out
        have HA1 := Lib.hid (HAL.out.trans (hb1.mono HAL.out.size))
        clear hb1 hwa c0 c1
        have hz1 : ¬ 9223372036854775807 < (sB (Wi.num 2)).size := by omega
        have hz2 : ¬ 9223372036854775807 < (sB (Wi.num 2)).size + (sB [by_]).size := by omega
        go_wp2_with fail
        refine (HNH.out w1).mono ?_; rintro e w3 ⟨rfl, hb3⟩
        have HBz := Lib.hid (HBp.out.later hb3)
        have z0 := (HBz.out.cell 0).trans HX0.out
        have z35 := (HBz.out.cell 35).trans HX35.out
        have z36 := (HBz.out.cell 36).trans HX36.out
        have HA3 := Lib.hid (HA1.out.trans (hb3.mono HA1.out.size))
        clear hb3 p0 p35 p36
        go_wp2_with fail
        go_ret
        exact ⟨by rw [HEV2.out]; exact sB_ext (by simp [sB, ByteArray.data_append]), HA3.out.alloc HA3.out.size _⟩
      | false =>
        have HHV : H = 0 := by rw [HHN.out]; simp
        have HEV := Lib.hid HE.out
        have HEV2 : Hid (E = Wi.num 0 ++ ([] ++ [by_])) := Lib.hid (by rw [HEV.out, HHV]; simp)
        have HNH := Lib.hid (fun w => HNUM.out 0 w (by omega))
        simp only [show ((0 : Nat) : Int) = 0 from rfl] at HNH
        have hsh : (sB (Wi.num 0)).size ≤ 9 := num_size (by omega)
        clear HE HEV HHN HHV
        go_enter Tryd.func21, Tryd.ntmps21
        go_wp2_with (refine at_lod 53 (.tmp 12) rfl ?_; go_must (refine wpList_load_mid rfl 53 (.tmp 12) rfl w.heap.size 2 rfl _ _ HRG.out Tryd.underlying53 rfl HLN.out ?_))
        refine HRF.out.mono ?_; rintro e w1 ⟨rfl, hb1⟩
        have HBp := Lib.hid (HB.out.later hb1)
        have p0 := (HBp.out.cell 0).trans HX0.out
        have p35 := (HBp.out.cell 35).trans HX35.out
        have p36 := (HBp.out.cell 36).trans HX36.out
        have HA1 := Lib.hid (HAL.out.trans (hb1.mono HAL.out.size))
        clear hb1 hwa c0 c1
        have hz1 : ¬ 9223372036854775807 < (sB (Wi.num 0)).size := by omega
        have hz2 : ¬ 9223372036854775807 < (sB (Wi.num 0)).size + (sB [by_]).size := by omega
        go_wp2_with fail
        refine (HNH.out w1).mono ?_; rintro e w3 ⟨rfl, hb3⟩
        have HBz := Lib.hid (HBp.out.later hb3)
        have z0 := (HBz.out.cell 0).trans HX0.out
        have z35 := (HBz.out.cell 35).trans HX35.out
        have z36 := (HBz.out.cell 36).trans HX36.out
        have HA3 := Lib.hid (HA1.out.trans (hb3.mono HA1.out.size))
        clear hb3 p0 p35 p36
        go_wp2_with fail
        go_ret
        exact ⟨by rw [HEV2.out]; exact sB_ext (by simp [sB, ByteArray.data_append]), HA3.out.alloc HA3.out.size _⟩
    · by_cases h2 : kd = 2
      · subst h2
        cases lf with
        | true =>
          have HHV : H = 3 := by rw [HHN.out]; simp
          have HEV := Lib.hid HE.out
          have HEV2 : Hid (E = Wi.num 3 ++ ([] ++ [])) := Lib.hid (by rw [HEV.out, HHV]; simp)
          have HNH := Lib.hid (fun w => HNUM.out 3 w (by omega))
          simp only [show ((3 : Nat) : Int) = 3 from rfl] at HNH
          have hsh : (sB (Wi.num 3)).size ≤ 9 := num_size (by omega)
          clear HE HEV HHN HHV
          go_enter Tryd.func21, Tryd.ntmps21
          go_wp2_with (refine at_lod 53 (.tmp 12) rfl ?_; go_must (refine wpList_load_mid rfl 53 (.tmp 12) rfl w.heap.size 2 rfl _ _ HRG.out Tryd.underlying53 rfl HLN.out ?_))
          refine HRF.out.mono ?_; rintro e w1 ⟨rfl, hb1⟩
          have HBp := Lib.hid (HB.out.later hb1)
          have p0 := (HBp.out.cell 0).trans HX0.out
          have p35 := (HBp.out.cell 35).trans HX35.out
          have p36 := (HBp.out.cell 36).trans HX36.out
          have HA1 := Lib.hid (HAL.out.trans (hb1.mono HAL.out.size))
          clear hb1 hwa c0 c1
          have hz1 : ¬ 9223372036854775807 < (sB (Wi.num 3)).size := by omega
          have hz2 : ¬ 9223372036854775807 < (sB (Wi.num 3)).size + (sB [by_]).size := by omega
          go_wp2_with fail
          refine (HNH.out w1).mono ?_; rintro e w3 ⟨rfl, hb3⟩
          have HBz := Lib.hid (HBp.out.later hb3)
          have z0 := (HBz.out.cell 0).trans HX0.out
          have z35 := (HBz.out.cell 35).trans HX35.out
          have z36 := (HBz.out.cell 36).trans HX36.out
          have HA3 := Lib.hid (HA1.out.trans (hb3.mono HA1.out.size))
          clear hb3 p0 p35 p36
          go_wp2_with fail
          go_ret
          exact ⟨by rw [HEV2.out]; exact sB_ext (by simp [sB, ByteArray.data_append]), HA3.out⟩
        | false =>
          have HHV : H = 1 := by rw [HHN.out]; simp
          have HEV := Lib.hid HE.out
          have HEV2 : Hid (E = Wi.num 1 ++ ([] ++ [])) := Lib.hid (by rw [HEV.out, HHV]; simp)
          have HNH := Lib.hid (fun w => HNUM.out 1 w (by omega))
          simp only [show ((1 : Nat) : Int) = 1 from rfl] at HNH
          have hsh : (sB (Wi.num 1)).size ≤ 9 := num_size (by omega)
          clear HE HEV HHN HHV
          go_enter Tryd.func21, Tryd.ntmps21
          go_wp2_with (refine at_lod 53 (.tmp 12) rfl ?_; go_must (refine wpList_load_mid rfl 53 (.tmp 12) rfl w.heap.size 2 rfl _ _ HRG.out Tryd.underlying53 rfl HLN.out ?_))
          refine HRF.out.mono ?_; rintro e w1 ⟨rfl, hb1⟩
          have HBp := Lib.hid (HB.out.later hb1)
          have p0 := (HBp.out.cell 0).trans HX0.out
          have p35 := (HBp.out.cell 35).trans HX35.out
          have p36 := (HBp.out.cell 36).trans HX36.out
          have HA1 := Lib.hid (HAL.out.trans (hb1.mono HAL.out.size))
          clear hb1 hwa c0 c1
          have hz1 : ¬ 9223372036854775807 < (sB (Wi.num 1)).size := by omega
          have hz2 : ¬ 9223372036854775807 < (sB (Wi.num 1)).size + (sB [by_]).size := by omega
          go_wp2_with fail
          refine (HNH.out w1).mono ?_; rintro e w3 ⟨rfl, hb3⟩
          have HBz := Lib.hid (HBp.out.later hb3)
          have z0 := (HBz.out.cell 0).trans HX0.out
          have z35 := (HBz.out.cell 35).trans HX35.out
          have z36 := (HBz.out.cell 36).trans HX36.out
          have HA3 := Lib.hid (HA1.out.trans (hb3.mono HA1.out.size))
          clear hb3 p0 p35 p36
          go_wp2_with fail
          go_ret
          exact ⟨by rw [HEV2.out]; exact sB_ext (by simp [sB, ByteArray.data_append]), HA3.out⟩
      · have e1 : (kd == 1) = false := by rw [beq_eq_false_iff_ne]; exact h1
        have e2 : (kd == 2) = false := by rw [beq_eq_false_iff_ne]; exact h2
        cases lf with
        | true =>
          have HHV : H = 2 := by rw [HHN.out]; simp [h2]
          have HEV := Lib.hid HE.out
          simp only [if_neg h1] at HEV
          have HEV2 : Hid (E = Wi.num 2 ++ ([] ++ [])) := Lib.hid (by rw [HEV.out, HHV]; simp)
          have HNH := Lib.hid (fun w => HNUM.out 2 w (by omega))
          simp only [show ((2 : Nat) : Int) = 2 from rfl] at HNH
          have hsh : (sB (Wi.num 2)).size ≤ 9 := num_size (by omega)
          clear HE HEV HHN HHV
          go_enter Tryd.func21, Tryd.ntmps21
          go_wp2_with (refine at_lod 53 (.tmp 12) rfl ?_; go_must (refine wpList_load_mid rfl 53 (.tmp 12) rfl w.heap.size 2 rfl _ _ HRG.out Tryd.underlying53 rfl HLN.out ?_))
          refine HRF.out.mono ?_; rintro e w1 ⟨rfl, hb1⟩
          have HBp := Lib.hid (HB.out.later hb1)
          have p0 := (HBp.out.cell 0).trans HX0.out
          have p35 := (HBp.out.cell 35).trans HX35.out
          have p36 := (HBp.out.cell 36).trans HX36.out
          have HA1 := Lib.hid (HAL.out.trans (hb1.mono HAL.out.size))
          clear hb1 hwa c0 c1
          have hz1 : ¬ 9223372036854775807 < (sB (Wi.num 2)).size := by omega
          have hz2 : ¬ 9223372036854775807 < (sB (Wi.num 2)).size + (sB [by_]).size := by omega
          go_wp2_with fail
          refine (HNH.out w1).mono ?_; rintro e w3 ⟨rfl, hb3⟩
          have HBz := Lib.hid (HBp.out.later hb3)
          have z0 := (HBz.out.cell 0).trans HX0.out
          have z35 := (HBz.out.cell 35).trans HX35.out
          have z36 := (HBz.out.cell 36).trans HX36.out
          have HA3 := Lib.hid (HA1.out.trans (hb3.mono HA1.out.size))
          clear hb3 p0 p35 p36
          go_wp2_with fail
          go_ret
          exact ⟨by rw [HEV2.out]; exact sB_ext (by simp [sB, ByteArray.data_append]), HA3.out⟩
        | false =>
          have HHV : H = 0 := by rw [HHN.out]; simp [h2]
          have HEV := Lib.hid HE.out
          simp only [if_neg h1] at HEV
          have HEV2 : Hid (E = Wi.num 0 ++ ([] ++ [])) := Lib.hid (by rw [HEV.out, HHV]; simp)
          have HNH := Lib.hid (fun w => HNUM.out 0 w (by omega))
          simp only [show ((0 : Nat) : Int) = 0 from rfl] at HNH
          have hsh : (sB (Wi.num 0)).size ≤ 9 := num_size (by omega)
          clear HE HEV HHN HHV
          go_enter Tryd.func21, Tryd.ntmps21
          go_wp2_with (refine at_lod 53 (.tmp 12) rfl ?_; go_must (refine wpList_load_mid rfl 53 (.tmp 12) rfl w.heap.size 2 rfl _ _ HRG.out Tryd.underlying53 rfl HLN.out ?_))
          refine HRF.out.mono ?_; rintro e w1 ⟨rfl, hb1⟩
          have HBp := Lib.hid (HB.out.later hb1)
          have p0 := (HBp.out.cell 0).trans HX0.out
          have p35 := (HBp.out.cell 35).trans HX35.out
          have p36 := (HBp.out.cell 36).trans HX36.out
          have HA1 := Lib.hid (HAL.out.trans (hb1.mono HAL.out.size))
          clear hb1 hwa c0 c1
          have hz1 : ¬ 9223372036854775807 < (sB (Wi.num 0)).size := by omega
          have hz2 : ¬ 9223372036854775807 < (sB (Wi.num 0)).size + (sB [by_]).size := by omega
          go_wp2_with fail
          refine (HNH.out w1).mono ?_; rintro e w3 ⟨rfl, hb3⟩
          have HBz := Lib.hid (HBp.out.later hb3)
          have z0 := (HBz.out.cell 0).trans HX0.out
          have z35 := (HBz.out.cell 35).trans HX35.out
          have z36 := (HBz.out.cell 36).trans HX36.out
          have HA3 := Lib.hid (HA1.out.trans (hb3.mono HA1.out.size))
          clear hb3 p0 p35 p36
          go_wp2_with fail
          go_ret
          exact ⟨by rw [HEV2.out]; exact sB_ext (by simp [sB, ByteArray.data_append]), HA3.out⟩
end Go.Proofs.YtjgegggcbjecbaaDoor
