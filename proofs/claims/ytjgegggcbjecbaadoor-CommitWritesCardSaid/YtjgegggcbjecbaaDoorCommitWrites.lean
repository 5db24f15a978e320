/- CommitWrites: any commit has the document's bytes and digest, or is refused; it is not turned. No conditions but the row's own. · CommitWrites: any commit has the document's bytes and digest, or is refused; it is not turned. No conditions but the row's own. -/
import Derived.Test.YtjgegggcbjecbaaDoorPID
import Derived.Test.YtjgegggcbjecbaaDoorLOwn
import Derived.Test.YtjgegggcbjecbaaDoorRSams
import Derived.Test.YtjgegggcbjecbaaDoorLift
import Derived.Test.YtjgegggcbjecbaaDoorOpenD
namespace Go.Proofs.YtjgegggcbjecbaaDoor
open Go Go.RowKit

set_option maxRecDepth 100000 in
set_option maxHeartbeats 8000000 in
theorem commitWrites_walk (m : Cm.Cm) (v : Value) (A : Option Addr) (c : Nat) (B : Option Addr) (d : Nat) (w : World) (hI : InCm w v A c B d m) (hm : CmLim m) (hk : KT w) :
    Calls Tryd.prog 3 #[v] w (Ret (.bool true) w) := by
  have HM := Lib.hid hm
  obtain ⟨l1, l2, l3, l4⟩ := hm
  have ⟨hv, _⟩ := hI
  obtain ⟨X, hX⟩ : ∃ X, X = (#[.slice A m.parents.length c, .string (sB m.author), .string (sB m.note), .slice B m.ops.length d] : Array Value) := ⟨_, rfl⟩
  rw [← hX] at hv
  subst hv
  have HXI := Lib.hid (show (Tryd.prog.info? 25).map (·.size) = some X.size by rw [hX]; exact infoC4)
  obtain ⟨wa, hwa⟩ : ∃ y, y = w.alloc (.cells X 25) := ⟨_, rfl⟩
  have HKX := Lib.hid (show Blk wa w.heap.size 25 X by rw [hwa]; exact Blk.new w _ _)
  have HBW := Lib.hid (show Below w.heap.size w wa by rw [hwa]; exact below_alloc w _)
  have HIA := Lib.hid (hI.later HBW.out)
  have HKA := Lib.hid (hk.later HBW.out)
  have C1 := Lib.hid (lown_any m _ A B c d wa HIA.out l1 l2)
  obtain ⟨E, hE⟩ : ∃ E, E = encB m := ⟨_, rfl⟩
  obtain ⟨k, hkk⟩ : ∃ k, k = Cm.may Tx.less m := ⟨_, rfl⟩
  obtain ⟨D, hD⟩ : ∃ D, D = (bv (idB m)).toArray := ⟨_, rfl⟩
  have hDl := idB_len m
  have hDe := fun w => run_equal_dig hDl hDl w
  rw [decide_eq_true rfl] at hDe
  have HPE := Lib.hid (fun v A B c d w h => pencode_any m v A B c d w h (by omega) (by omega) (by omega) (by omega))
  unfold EncO at HPE
  have HRE := Lib.hid (fun v A B c d w h => renc_any m v A B c d w h (by omega) (by omega) (by omega) (by omega))
  have hev : encV m = .tuple #[.string (sB (encB m)), .int .i64 (Cm.may Tx.less m : Int)] := rfl
  rw [hev] at HRE
  have HPI := Lib.hid (fun v A B c d w h h2 => pid_any m v A B c d w h h2 HM.out)
  have HRI := Lib.hid (fun v A B c d w h => rid_any m v A B c d w h HM.out)
  rw [← hkk, ← hE] at HPE HRE
  rw [← hkk, ← hD] at HPI HRI
  rw [← hD] at hDe
  have HDS := Lib.hid (show D.size = 32 by rw [hD, bv_size]; exact hDl)
  have HDI := Lib.hid (show (Tryd.prog.info? 34).map (·.size) = some D.size by rw [HDS.out]; exact infoD32)
  have HDA := Lib.hid (show D.all (·.oneCell') = true by rw [hD]; exact bv_all _)
  have k1 : ((k : Int) == (k : Int)) = true := by simp
  replace hwa := hwa.symm
  clear hX hI hk hE hkk hD hDl hev
  go_enter Tryd.func3, Tryd.ntmps3
  go_wp2_with (refine at_lod 25 (.tmp 1) rfl ?_; go_must (refine wpList_load_boxed (by rfl) 25 (.tmp 1) rfl w.heap.size rfl X HKX.out _ Tryd.underlying25 rfl HXI.out ?_); go_wp2_with fail)
  refine C1.out.mono ?_; rintro e w1 ⟨v1, rfl, hown, hb1⟩
  obtain ⟨Y, hv1, hYS, hYA, hYI⟩ := hown.cells
  subst hv1
  have HYS := Lib.hid hYS
  have HYA := Lib.hid hYA
  have HYI := Lib.hid hYI
  obtain ⟨w2, hw2⟩ : ∃ y, y = w1.alloc (.cells Y 25) := ⟨_, rfl⟩
  have hb2 : Below w1.heap.size w1 w2 := by rw [hw2]; exact below_alloc w1 _
  have hba2 := hb1.trans (hb2.mono hb1.size)
  have HKY := Lib.hid (show Blk w2 w1.heap.size 25 Y by rw [hw2]; exact Blk.new w1 _ _)
  have HKX2 := Lib.hid (HKX.out.later hba2)
  have HB2 := Lib.hid (HBW.out.trans (hba2.mono HBW.out.size))
  have HI2 := Lib.hid (HIA.out.later hba2)
  have HK2 := Lib.hid (HKA.out.later hba2)
  obtain ⟨A2, c2, B2, d2, hY⟩ := (hown.later hb2).inCm
  have HY2 := Lib.hid hY
  have C2 := Lib.hid (HPE.out _ _ _ _ _ w2 hY)
  replace hw2 := hw2.symm
  clear hb1 hb2 hba2 hown hYS hYA hYI hY C1 HPE
  go_wp2_with (refine at_sto 25 (.tmp 3) (.tmp 13) rfl ?_; go_must (refine wpList_store_row rfl 25 (.tmp 3) (.tmp 13) rfl w1.heap.size Y rfl rfl 25 _ (heap_alloc_new w1 _) HYI.out (by rw [HYS.out]; rfl) HYA.out ?_); rw [World.setRow_alloc_new, hw2]; go_wp2_with (refine at_lod 25 (.tmp 3) rfl ?_; go_must (refine wpList_load_boxed (by rfl) 25 (.tmp 3) rfl w1.heap.size rfl Y HKY.out _ Tryd.underlying25 rfl HYI.out ?_); go_wp2_with fail))
  refine C2.out.mono ?_; rintro e w3 ⟨A3, c3, rfl, -, ho3, hb3⟩
  have HR3 := Lib.hid (Rd.of_own ho3)
  have HB3 := Lib.hid (HB2.out.trans (hb3.mono HB2.out.size))
  have HX3 := Lib.hid (HKX2.out.later hb3)
  have HY3 := Lib.hid (HKY.out.later hb3)
  have HI3 := Lib.hid (HI2.out.later hb3)
  have HJ3 := Lib.hid (HY2.out.later hb3)
  have HK3 := Lib.hid (HK2.out.later hb3)
  have C3 := Lib.hid (HRE.out _ _ _ _ _ w3 HI3.out)
  clear ho3 hb3 C2 HRE
  go_wp2_with (refine at_lod 25 (.tmp 1) rfl ?_; go_must (refine wpList_load_boxed (by rfl) 25 (.tmp 1) rfl w.heap.size rfl X HX3.out _ Tryd.underlying25 rfl HXI.out ?_); go_wp2_with fail)
  refine C3.out.mono ?_; rintro e w4 ⟨rfl, hb4⟩
  have HR4 := Lib.hid (HR3.out.later hb4)
  have HB4 := Lib.hid (HB3.out.trans (hb4.mono HB3.out.size))
  have HX4 := Lib.hid (HX3.out.later hb4)
  have HY4 := Lib.hid (HY3.out.later hb4)
  have HI4 := Lib.hid (HI3.out.later hb4)
  have HJ4 := Lib.hid (HJ3.out.later hb4)
  have HK4 := Lib.hid (HK3.out.later hb4)
  have C4 := Lib.hid (HPI.out _ _ _ _ _ w4 HJ4.out HK4.out)
  clear hb4 C3 HPI
  go_wp2_with (refine at_lod 25 (.tmp 3) rfl ?_; go_must (refine wpList_load_boxed (by rfl) 25 (.tmp 3) rfl w1.heap.size rfl Y HY4.out _ Tryd.underlying25 rfl HYI.out ?_); go_wp2_with fail)
  refine C4.out.mono ?_; rintro e w5 ⟨rfl, hb5⟩
  obtain ⟨w6, hw6⟩ : ∃ y, y = w5.alloc (.cells D 34) := ⟨_, rfl⟩
  have hb6 : Below w5.heap.size w5 w6 := by rw [hw6]; exact below_alloc w5 _
  have hb46 := hb5.trans (hb6.mono hb5.size)
  have HD6 := Lib.hid (show Blk w6 w5.heap.size 34 D by rw [hw6]; exact Blk.new w5 _ _)
  have HR6 := Lib.hid (HR4.out.later hb46)
  have HB6 := Lib.hid (HB4.out.trans (hb46.mono HB4.out.size))
  have HX6 := Lib.hid (HX4.out.later hb46)
  have HY6 := Lib.hid (HY4.out.later hb46)
  have HI6 := Lib.hid (HI4.out.later hb46)
  have HJ6 := Lib.hid (HJ4.out.later hb46)
  have C6 := Lib.hid (HRI.out _ _ _ _ _ w6 HI6.out)
  replace hw6 := hw6.symm
  clear hb5 hb6 hb46 C4 HRI
  go_wp2_with (refine at_sto 34 (.tmp 8) (.tmp 27) rfl ?_; go_must (refine wpList_store_row rfl 34 (.tmp 8) (.tmp 27) rfl w5.heap.size D rfl rfl 34 _ (heap_alloc_new w5 _) HDI.out (by rw [HDS.out]; rfl) HDA.out ?_); rw [World.setRow_alloc_new, hw6]; go_wp2_with (refine at_lod 25 (.tmp 1) rfl ?_; go_must (refine wpList_load_boxed (by rfl) 25 (.tmp 1) rfl w.heap.size rfl X HX6.out _ Tryd.underlying25 rfl HXI.out ?_); go_wp2_with fail))
  refine C6.out.mono ?_; rintro e w7 ⟨rfl, hb7⟩
  obtain ⟨w8, hw8⟩ : ∃ y, y = w7.alloc (.cells D 34) := ⟨_, rfl⟩
  have hb8 : Below w7.heap.size w7 w8 := by rw [hw8]; exact below_alloc w7 _
  have hb68 := hb7.trans (hb8.mono hb7.size)
  have HE8 := Lib.hid (show Blk w8 w7.heap.size 34 D by rw [hw8]; exact Blk.new w7 _ _)
  have HD8 := Lib.hid (HD6.out.later hb68)
  have hcv := conv_str w8 _ A3 E.length c3 E (HR6.out.later hb68)
  have HB8 := Lib.hid (HB6.out.trans (hb68.mono HB6.out.size))
  have HX8 := Lib.hid (HX6.out.later hb68)
  have HY8 := Lib.hid (HY6.out.later hb68)
  have C8 := Lib.hid (rsame_any m m _ _ _ _ _ _ _ _ _ _ w8 (HJ6.out.later hb68) (HI6.out.later hb68) (by omega) (by omega))
  rw [decide_eq_true rfl] at C8
  replace hw8 := hw8.symm
  clear hb7 hb8 hb68 C6
  go_wp2_with (refine at_sto 34 (.tmp 10) (.tmp 32) rfl ?_; go_must (refine wpList_store_row rfl 34 (.tmp 10) (.tmp 32) rfl w7.heap.size D rfl rfl 34 _ (heap_alloc_new w7 _) HDI.out (by rw [HDS.out]; rfl) HDA.out ?_); rw [World.setRow_alloc_new, hw8]; go_wp2_with (first | (refine at_lod 34 (.tmp 8) rfl ?_; go_must (refine wpList_load_boxed (by rfl) 34 (.tmp 8) rfl w5.heap.size rfl D HD8.out _ Tryd.underlying34 rfl HDI.out ?_)) | (refine at_lod 34 (.tmp 10) rfl ?_; go_must (refine wpList_load_boxed (by rfl) 34 (.tmp 10) rfl w7.heap.size rfl D HE8.out _ Tryd.underlying34 rfl HDI.out ?_)) | (refine at_lod 25 (.tmp 3) rfl ?_; go_must (refine wpList_load_boxed (by rfl) 25 (.tmp 3) rfl w1.heap.size rfl Y HY8.out _ Tryd.underlying25 rfl HYI.out ?_)) | (refine at_lod 25 (.tmp 1) rfl ?_; go_must (refine wpList_load_boxed (by rfl) 25 (.tmp 1) rfl w.heap.size rfl X HX8.out _ Tryd.underlying25 rfl HXI.out ?_); go_wp2_with fail)))
  refine C8.out.mono ?_; rintro e w9 ⟨rfl, hb9⟩
  have HB9 := Lib.hid (HB8.out.trans (hb9.mono HB8.out.size))
  clear hb9 C8 hcv
  go_wp2_with fail
  refine (alive_any _).mono ?_; rintro e w10 ⟨rfl, hb10⟩
  go_wp2_with fail
  go_ret
  exact ⟨rfl, HB9.out.trans (hb10.mono HB9.out.size)⟩
end Go.Proofs.YtjgegggcbjecbaaDoor

namespace Go.Proofs.YtjgegggcbjecbaaDoor
open Go Go.ChangeShapes Go.WideShapes Go.RowKit

set_option maxRecDepth 100000 in
theorem commitWrites_said : Rows.CommitWritesSaid :=
  OpenClaim.holds_of_wide 3 Tryd.f3 rfl rfl rfl rfl rfl rfl rfl ⟨rfl, rfl, rfl, rfl, rfl⟩ rfl rfl rfl rfl rfl (by kernel_rfl) Tryd.func3 (by kernel_rfl)
    (of_decide_eq_true (by kernel_rfl)) (by unfold Func.isWrapper; first | (rw [if_pos (by decide +kernel)]; kernel_rfl) | (rw [if_neg (by decide +kernel)]; exact ⟨rfl, rfl⟩))
    (fun os started H enc _ => lift (s := Rows.commitWritesSpec) #[.agg #[.slice none 0 0, .string ⟨#[]⟩, .string ⟨#[]⟩, .slice none 0 0]] rfl (by kernel_rfl) Tryd.func3 (by kernel_rfl) (by kernel_rfl) (fun _ => by kernel_rfl) (fun _ _ _ => by kernel_rfl) (fun _ _ _ => by kernel_rfl)
      (fun H enc W base args ds p hval hA hsz hL => by
        rw [Tryd.params3] at hA hval hsz
        obtain ⟨v0, d0, rfl, rfl, h0⟩ := trodAll_one hA
        obtain ⟨A0, c0, B0, k0, m0, hI0, hd0⟩ := open_cm2 Tryd.underlying25 (by kernel_rfl) Tryd.underlying22 Tryd.underlying34 Tryd.underlying5 (by kernel_rfl) (by kernel_rfl) Tryd.underlying9 Tryd.underlying9 Tryd.underlying23 opShape (by kernel_rfl) (hval 0 25 v0 rfl rfl) h0
        have hm0 := cm_lim hsz 0 rfl rfl Tryd.underlying25 Tryd.underlying22 Tryd.underlying23 (by kernel_rfl) (by kernel_rfl) hd0
        exact ⟨rfl, commitWrites_walk m0 _ A0 c0 B0 k0 W hI0 hm0 (kt_of hL)⟩) os started H enc)

theorem commitWrites_holds : Rows.CommitWritesCardSaid :=
  Claim7.holds_tied_plain_at .later [] [.data] true Rows.commitWritesCard.stood.harness true
    commitWrites_said (fun _ h => by cases h) (by kernel_rfl) (fun _ h => by cases h) commitWrites_row_tie rfl ⟨rfl, rfl⟩ (by kernel_rfl) rfl
    (fun f fn hf hfn => by
      obtain rfl : f = 3 := Option.some.inj ((show Tryd.prog.funcNamed Rows.commitWritesRow.func = some 3 by kernel_rfl).symm.trans hf) |>.symm
      obtain rfl : fn = Tryd.f3 := (Option.some.inj (Tryd.func3.symm.trans hfn)).symm
      exact ⟨by kernel_rfl, fun j t ht => by
        rw [Tryd.params3] at ht
        have hm : t ∈ ([25] : List TypeId) := by simpa using Array.mem_of_getElem? ht
        have hall : (([25] : List TypeId).all fun u => !Tryd.prog.wantsStandIn u) = true := by kernel_rfl
        exact (show Tryd.prog.wantsStandIn t = false by simpa using List.all_eq_true.1 hall t hm)⟩)
    (by kernel_rfl)
#print axioms commitWrites_holds
end Go.Proofs.YtjgegggcbjecbaaDoor
