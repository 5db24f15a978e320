/- CommitBack: a commit's bytes are read as that commit. No conditions but the row's own. · CommitBack: a commit's bytes are read as that commit. No conditions but the row's own. -/
import Derived.Test.YtjgegggcbjecbaaDoorPID
import Derived.Test.YtjgegggcbjecbaaDoorLift
import Derived.Test.YtjgegggcbjecbaaDoorOpenD
namespace Go.Proofs.YtjgegggcbjecbaaDoor
open Go Go.RowKit

set_option maxRecDepth 100000 in
set_option maxHeartbeats 8000000 in
theorem commitBack_walk (m : Cm.Cm) (v : Value) (A : Option Addr) (c : Nat) (B : Option Addr) (d : Nat) (w : World) (hI : InCm w v A c B d m) (hm : CmLim m) (hk : KT w) :
    Calls Tryd.prog 4 #[v] w (Ret (.bool true) w) := by
  have HM := Lib.hid hm
  obtain ⟨l1, l2, l3, l4⟩ := hm
  have hOK := fun h => hI.ok h
  have hDim := hI.2.2.2.2.2
  have ⟨hv, _⟩ := hI
  obtain ⟨X, hX⟩ : ∃ X, X = cmX m A c B d := ⟨_, rfl⟩
  have ev : v = .agg X.toArray := by rw [hX]; exact hv
  have HXI := Lib.hid (show (Tryd.prog.info? 25).map (·.size) = some X.length by rw [hX]; exact cmX_info)
  clear hv hX
  subst ev
  have HXJ := Lib.hid (show (Tryd.prog.info? 25).map (·.size) = some X.toArray.size by rw [List.size_toArray]; exact HXI.out)
  obtain ⟨wa, hwa⟩ : ∃ y, y = w.alloc (.cells X.toArray 25) := ⟨_, rfl⟩
  have HKX := Lib.hid (show Blk wa w.heap.size 25 X.toArray by rw [hwa]; exact Blk.new w _ _)
  have HBW := Lib.hid (show Below w.heap.size w wa by rw [hwa]; exact below_alloc w _)
  have HIA := Lib.hid (hI.later HBW.out)
  have HKA := Lib.hid (hk.later HBW.out)
  have C1 := Lib.hid (pencode_any m _ A B c d wa HIA.out (by omega) (by omega) (by omega) (by omega))
  unfold EncO at C1
  replace hwa := hwa.symm
  clear hI hk
  by_cases h0 : Cm.may Tx.less m = 0
  · have hlen := Cm.encC_len (hOK h0)
    have hE : encB m = Cm.encC m := by unfold encB; rw [if_pos h0]
    have hD : idB m = Sh.sum (Cm.encC m) := by unfold idB; rw [if_pos h0]
    have hdec := Cm.decode_encode h0 hDim.1 (fun x hx => (hDim.2 x hx).1)
    obtain ⟨K, hK⟩ : ∃ K, K = Cm.encC m := ⟨_, rfl⟩
    rw [hE, h0, ← hK] at C1
    rw [← hK] at hlen hD hdec
    have HPD := Lib.hid (fun A c w hr hc hm => pdecode_any A c K w hr hc hm)
    unfold DecO at HPD
    rw [hdec] at HPD
    simp only [okM, errM] at HPD
    have HPI := Lib.hid (fun v A B c d w h h2 => pid_any m v A B c d w h h2 HM.out)
    rw [h0, hD] at HPI
    obtain ⟨DL, hDL⟩ : ∃ DL, DL = bv (Sh.sum K) := ⟨_, rfl⟩
    have hDe := fun w => run_equal_dig (sum_length K) (sum_length K) w
    rw [decide_eq_true rfl] at hDe
    have HS := Lib.hid (fun A c w hk hr hc => psum_any K A c w hk hr hc (by omega))
    have HDL := Lib.hid (show DL.length = 32 by rw [hDL, bv_length]; exact sum_length K)
    have HDA := Lib.hid (show DL.toArray.all (·.oneCell') = true by rw [hDL]; exact bv_all _)
    rw [← hDL] at hDe HPI HS
    have HDI := Lib.hid (show (Tryd.prog.info? 34).map (·.size) = some DL.length by rw [HDL.out]; exact infoD32)
    have HDJ := Lib.hid (show (Tryd.prog.info? 34).map (·.size) = some DL.toArray.size by rw [List.size_toArray]; exact HDI.out)
    have HDZ := Lib.hid (show DL.toArray.size = 32 by rw [List.size_toArray]; exact HDL.out)
    clear hE hD hK hDL h0 hOK hdec hDim
    go_enter Tryd.func4, Tryd.ntmps4
    go_wp2_with (refine at_lod 25 (.tmp 1) rfl ?_; go_must (refine wpList_load_boxed (by rfl) 25 (.tmp 1) rfl w.heap.size rfl X.toArray HKX.out _ Tryd.underlying25 rfl HXJ.out ?_); go_wp2_with fail)
    refine C1.out.mono ?_; rintro e w1 ⟨A1, c1, rfl, hc1, ho1, hb1⟩
    have HR1 := Lib.hid (Rd.of_own ho1)
    have HB1 := Lib.hid (HBW.out.trans (hb1.mono HBW.out.size))
    have HX1 := Lib.hid (HKX.out.later hb1)
    have HI1 := Lib.hid (HIA.out.later hb1)
    have HK1 := Lib.hid (HKA.out.later hb1)
    have HC1 := Lib.hid hc1
    have C2 := Lib.hid (HPD.out A1 c1 w1 HR1.out hc1.1 hc1.2)
    clear ho1 hb1 hc1 C1 HPD
    go_wp2_with fail
    refine C2.out.mono ?_; rintro e w2 ⟨hb2, v2, hown, rfl⟩
    obtain ⟨Y, hv2, hYS, hYA, hYI⟩ := hown.cells
    obtain ⟨YL, rfl⟩ : ∃ YL : List Value, Y = YL.toArray := ⟨Y.toList, by simp⟩
    subst hv2
    have HYS := Lib.hid hYS
    have HYA := Lib.hid hYA
    have HYI := Lib.hid hYI
    have HYJ := Lib.hid (show (Tryd.prog.info? 25).map (·.size) = some YL.length by rw [← List.size_toArray]; exact hYI)
    obtain ⟨w3, hw3⟩ : ∃ y, y = w2.alloc (.cells YL.toArray 25) := ⟨_, rfl⟩
    have hb3 : Below w2.heap.size w2 w3 := by rw [hw3]; exact below_alloc w2 _
    have hb13 := hb2.trans (hb3.mono hb2.size)
    have HKY := Lib.hid (show Blk w3 w2.heap.size 25 YL.toArray by rw [hw3]; exact Blk.new w2 _ _)
    have HR3 := Lib.hid (HR1.out.later hb13)
    have HB3 := Lib.hid (HB1.out.trans (hb13.mono HB1.out.size))
    have HX3 := Lib.hid (HX1.out.later hb13)
    have HI3 := Lib.hid (HI1.out.later hb13)
    have HK3 := Lib.hid (HK1.out.later hb13)
    obtain ⟨A3, c3, B3, d3, hJ⟩ := (hown.later hb3).inCm
    have HJ3 := Lib.hid hJ
    have C3 := Lib.hid (HPI.out _ _ _ _ _ w3 HI3.out HK3.out)
    replace hw3 := hw3.symm
    clear hb2 hb3 hb13 hown hYS hYA hYI hJ C2 HPI
    go_wp2_with (refine at_sto 25 (.tmp 5) (.tmp 31) rfl ?_; go_must (refine wpList_store_row rfl 25 (.tmp 5) (.tmp 31) rfl w2.heap.size YL.toArray rfl rfl 25 _ (heap_alloc_new w2 _) HYI.out (by rw [HYS.out]; rfl) HYA.out ?_); rw [World.setRow_alloc_new, hw3]; go_wp2_with (refine at_lod 25 (.tmp 1) rfl ?_; go_must (refine wpList_load_boxed (by rfl) 25 (.tmp 1) rfl w.heap.size rfl X.toArray HX3.out _ Tryd.underlying25 rfl HXJ.out ?_); go_wp2_with fail))
    refine C3.out.mono ?_; rintro e w4 ⟨rfl, hb4⟩
    obtain ⟨w5, hw5⟩ : ∃ y, y = w4.alloc (.cells DL.toArray 34) := ⟨_, rfl⟩
    have hb5 : Below w4.heap.size w4 w5 := by rw [hw5]; exact below_alloc w4 _
    have hb35 := hb4.trans (hb5.mono hb4.size)
    have HKD := Lib.hid (show Blk w5 w4.heap.size 34 DL.toArray by rw [hw5]; exact Blk.new w4 _ _)
    have HR5 := Lib.hid (HR3.out.later hb35)
    have HB5 := Lib.hid (HB3.out.trans (hb35.mono HB3.out.size))
    have HX5 := Lib.hid (HX3.out.later hb35)
    have HY5 := Lib.hid (HKY.out.later hb35)
    have HI5 := Lib.hid (HI3.out.later hb35)
    have HJ5 := Lib.hid (HJ3.out.later hb35)
    have HK5 := Lib.hid (HK3.out.later hb35)
    have HCX := Lib.hid (fun u : Grw w5 => blk_cells (HX5.out.grw u))
    have HCY := Lib.hid (fun u : Grw w5 => blk_cells (HY5.out.grw u))
    have HCD := Lib.hid (fun u : Grw w5 => blk_cells (HKD.out.grw u))
    have C5 := Lib.hid (fun u : Grw w5 => psame_any m m _ _ _ _ _ _ _ _ _ _ u.val (HI5.out.later u.prop) (HJ5.out.later u.prop) (by omega) (by omega))
    rw [decide_eq_true rfl] at C5
    have C6 := Lib.hid (fun u : Grw w5 => HS.out A1 c1 u.val (HK5.out.later u.prop) (HR5.out.later u.prop) HC1.out)
    replace hw5 := hw5.symm
    clear hb4 hb5 hb35 C3 HS
    go_wp2_with (refine at_sto 34 (.tmp 7) (.tmp 36) rfl ?_; go_must (refine wpList_store_row rfl 34 (.tmp 7) (.tmp 36) rfl w4.heap.size DL.toArray rfl rfl 34 _ (heap_alloc_new w4 _) HDJ.out (by rw [HDZ.out]; rfl) HDA.out ?_); rw [World.setRow_alloc_new, hw5]; go_wp2_with fail)
    refine wp_region_grow (by kernel_rfl) (by kernel_rfl) ?_
    go_big_quiet_step (fail)
    go_big_quiet_step (fail)
    go_big_quiet_step (fail)
    refine quiet_load_any (by rfl) 25 (.tmp 1) rfl ⟨w.heap.size, 0, none⟩ rfl X HCX.out _ Tryd.underlying25 rfl HXI.out ?_; go_simp
    refine quiet_load_any (by rfl) 25 (.tmp 5) rfl ⟨w2.heap.size, 0, none⟩ rfl YL HCY.out _ Tryd.underlying25 rfl HYJ.out ?_; go_simp
    go_big_quiet_step ((go_at_call 14; exact grow_call (C5.out _)))
    go_big_quiet_step (fail)
    go_big_quiet_step (fail)
    go_big_quiet_step (fail)
    go_big_quiet_step (fail)
    go_big_quiet_step (fail)
    go_big_quiet_step (fail)
    refine quiet_load_any (by rfl) 34 (.tmp 7) rfl ⟨w4.heap.size, 0, none⟩ rfl DL HCD.out _ Tryd.underlying34 rfl HDI.out ?_; go_simp
    go_big_quiet_step (fail)
    go_big_quiet_step ((go_at_call 15; exact grow_call (C6.out _)))
    go_big_quiet_step (fail)
    go_big_quiet_step (fail)
    go_big_quiet_step (fail)
    go_big_quiet_step ((go_at_call 11; exact grow_call (alive_any _)))
    go_big_quiet_step (fail)
    go_big_quiet_step (fail)
    refine wpQuiet_nil ?_
    first | (intro _ hw'; obtain ⟨u, hw''⟩ := hw'; subst hw'') | intro u
    go_wp2_with fail
    go_ret
    exact ⟨rfl, HB5.out.trans (u.prop.mono HB5.out.size)⟩
  · obtain ⟨k, hkk⟩ : ∃ k, k = Cm.may Tx.less m := ⟨_, rfl⟩
    have hE : encB m = [] := by unfold encB; rw [if_neg h0]
    have HPM := Lib.hid (fun v A B c d w h => pmay_any m v A B c d w h (by omega) (by omega) (by omega) (by omega))
    rw [← hkk] at HPM
    rw [hE, ← hkk] at C1
    have hbe : ((k : Int) != 0) = true := by rw [bne_iff_ne]; omega
    have k1 : ((k : Int) == (k : Int)) = true := by simp
    clear hE hkk h0 hOK hDim
    go_enter Tryd.func4, Tryd.ntmps4
    go_wp2_with (refine at_lod 25 (.tmp 1) rfl ?_; go_must (refine wpList_load_boxed (by rfl) 25 (.tmp 1) rfl w.heap.size rfl X.toArray HKX.out _ Tryd.underlying25 rfl HXJ.out ?_); go_wp2_with fail)
    refine C1.out.mono ?_; rintro e w1 ⟨A1, c1, rfl, hc1, ho1, hb1⟩
    have HB1 := Lib.hid (HBW.out.trans (hb1.mono HBW.out.size))
    have HX1 := Lib.hid (HKX.out.later hb1)
    have C2 := Lib.hid (HPM.out _ _ _ _ _ w1 (HIA.out.later hb1))
    clear ho1 hb1 C1 HPM
    go_wp2_with (refine at_lod 25 (.tmp 1) rfl ?_; go_must (refine wpList_load_boxed (by rfl) 25 (.tmp 1) rfl w.heap.size rfl X.toArray HX1.out _ Tryd.underlying25 rfl HXJ.out ?_); go_wp2_with fail)
    refine C2.out.mono ?_; rintro e w2 ⟨rfl, hb2⟩
    have HB2 := Lib.hid (HB1.out.trans (hb2.mono HB1.out.size))
    clear hb2 C2
    go_wp2_with fail
    refine (alive_any _).mono ?_; rintro e w7 ⟨rfl, hb7⟩
    go_wp2_with fail
    go_ret
    exact ⟨rfl, HB2.out.trans (hb7.mono HB2.out.size)⟩
end Go.Proofs.YtjgegggcbjecbaaDoor

namespace Go.Proofs.YtjgegggcbjecbaaDoor
open Go Go.ChangeShapes Go.WideShapes Go.RowKit

set_option maxRecDepth 100000 in
theorem commitBack_said : Rows.CommitBackSaid :=
  OpenClaim.holds_of_wide 4 Tryd.f4 rfl rfl rfl rfl rfl rfl rfl ⟨rfl, rfl, rfl, rfl, rfl⟩ rfl rfl rfl rfl rfl (by kernel_rfl) Tryd.func4 (by kernel_rfl)
    (of_decide_eq_true (by kernel_rfl)) (by unfold Func.isWrapper; first | (rw [if_pos (by decide +kernel)]; kernel_rfl) | (rw [if_neg (by decide +kernel)]; exact ⟨rfl, rfl⟩))
    (fun os started H enc _ => lift (s := Rows.commitBackSpec) #[.agg #[.slice none 0 0, .string ⟨#[]⟩, .string ⟨#[]⟩, .slice none 0 0]] rfl (by kernel_rfl) Tryd.func4 (by kernel_rfl) (by kernel_rfl) (fun _ => by kernel_rfl) (fun _ _ _ => by kernel_rfl) (fun _ _ _ => by kernel_rfl)
      (fun H enc W base args ds p hval hA hsz hL => by
        rw [Tryd.params4] at hA hval hsz
        obtain ⟨v0, d0, rfl, rfl, h0⟩ := trodAll_one hA
        obtain ⟨A0, c0, B0, k0, m0, hI0, hd0⟩ := open_cm2 Tryd.underlying25 (by kernel_rfl) Tryd.underlying22 Tryd.underlying34 Tryd.underlying5 (by kernel_rfl) (by kernel_rfl) Tryd.underlying9 Tryd.underlying9 Tryd.underlying23 opShape (by kernel_rfl) (hval 0 25 v0 rfl rfl) h0
        have hm0 := cm_lim hsz 0 rfl rfl Tryd.underlying25 Tryd.underlying22 Tryd.underlying23 (by kernel_rfl) (by kernel_rfl) hd0
        exact ⟨rfl, commitBack_walk m0 _ A0 c0 B0 k0 W hI0 hm0 (kt_of hL)⟩) os started H enc)

theorem commitBack_holds : Rows.CommitBackCardSaid :=
  Claim7.holds_tied_plain_at .later [] [.data] true Rows.commitBackCard.stood.harness true
    commitBack_said (fun _ h => by cases h) (by kernel_rfl) (fun _ h => by cases h) commitBack_row_tie rfl ⟨rfl, rfl⟩ (by kernel_rfl) rfl
    (fun f fn hf hfn => by
      obtain rfl : f = 4 := Option.some.inj ((show Tryd.prog.funcNamed Rows.commitBackRow.func = some 4 by kernel_rfl).symm.trans hf) |>.symm
      obtain rfl : fn = Tryd.f4 := (Option.some.inj (Tryd.func4.symm.trans hfn)).symm
      exact ⟨by kernel_rfl, fun j t ht => by
        rw [Tryd.params4] at ht
        have hm : t ∈ ([25] : List TypeId) := by simpa using Array.mem_of_getElem? ht
        have hall : (([25] : List TypeId).all fun u => !Tryd.prog.wantsStandIn u) = true := by kernel_rfl
        exact (show Tryd.prog.wantsStandIn t = false by simpa using List.all_eq_true.1 hall t hm)⟩)
    (by kernel_rfl)
#print axioms commitBack_holds
end Go.Proofs.YtjgegggcbjecbaaDoor
