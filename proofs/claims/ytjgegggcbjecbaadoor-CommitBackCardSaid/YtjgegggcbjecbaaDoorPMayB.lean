/- The program's mayBe, finds and Right. -/
import Derived.Test.YtjgegggcbjecbaaDoorPRef
import Derived.Test.YtjgegggcbjecbaaDoorRowA
namespace Go.Proofs.YtjgegggcbjecbaaDoor
open Go Go.RowKit

/-- An operation in a block of its own. -/
structure BoxO (x : Cm.Op) (g : Nat) (w : World) : Prop where
  blk : Blk w g 55 (opCells x).toArray
  dim : dimOp x
theorem BoxO.later {x : Cm.Op} {g : Nat} {w w' : World} (h : BoxO x g w) (hb : Below w.heap.size w w') : BoxO x g w' := ⟨h.blk.later hb, h.dim⟩
theorem BoxO.c0 {x : Cm.Op} {g : Nat} {w : World} (h : BoxO x g w) : w.cell? ⟨g, 0, none⟩ = some (.int .i64 x.kind) := by rw [h.blk.cell, List.getElem?_toArray, opCells_0]
theorem BoxO.c1 {x : Cm.Op} {g : Nat} {w : World} (h : BoxO x g w) : w.cell? ⟨g, 1, none⟩ = some (.bool x.left) := by rw [h.blk.cell, List.getElem?_toArray, opCells_1]
theorem BoxO.c35 {x : Cm.Op} {g : Nat} {w : World} (h : BoxO x g w) : w.cell? ⟨g, 35, none⟩ = some (.int .i64 x.at_.n) := by rw [h.blk.cell, List.getElem?_toArray, opCells_35 h.dim.1]
theorem BoxO.c36 {x : Cm.Op} {g : Nat} {w : World} (h : BoxO x g w) : w.cell? ⟨g, 36, none⟩ = some (.int .u8 (x.byte.toNat : Int)) := by rw [h.blk.cell, List.getElem?_toArray, opCells_36 h.dim.1]
theorem BoxO.rng {x : Cm.Op} {g : Nat} {w : World} (h : BoxO x g w) : w.rangeAt g 2 (refCells x.at_) := fun j v hv => by rw [h.blk.cell, List.getElem?_toArray, opCells_ref hv]
theorem opA_len {x : Cm.Op} (h : dimOp x) : (opCells x).toArray.size = 37 := by rw [List.size_toArray, opCells_length h]
/-- An operation as a value. -/
def opV (x : Cm.Op) : Value := .agg (opCells x).toArray

set_option maxRecDepth 100000 in
set_option maxHeartbeats 8000000 in
theorem mayBe_any (x : Cm.Op) (w : World) (hd : dimOp x) :
    Calls Tryd.prog 49 #[opV x] w (Ret (.bool (Cm.opMay x)) w) := by
  unfold opV
  obtain ⟨wa, hwa⟩ : ∃ y, y = w.alloc (.cells (opCells x).toArray 55) := ⟨_, rfl⟩
  have HX := Lib.hid (show BoxO x w.heap.size wa from ⟨by rw [hwa]; exact Blk.new w _ _, hd⟩)
  have HB := Lib.hid (show Below w.heap.size w wa by rw [hwa]; exact below_alloc w _)
  have HRL := Lib.hid (show (Tryd.prog.info? 53).map (·.size) = some (refCells x.at_).length by rw [refCells_len hd.1]; exact infoR34)
  have HDL := Lib.hid hd.1
  obtain ⟨X, hX⟩ : ∃ X, X = (opCells x).toArray := ⟨_, rfl⟩
  rw [← hX] at hwa ⊢
  replace hwa := hwa.symm
  have HKC := Lib.hid (Cm.refK_cases x.at_)
  obtain ⟨kd, lf, r, by_⟩ := x
  simp only [] at HRL HDL HKC
  have HO := Lib.hid (fun w => isOwn_any r w HDL.out)
  have HF := Lib.hid (fun w => isFar_any r w HDL.out)
  have HZ := Lib.hid (fun w => isRoot_any r w HDL.out)
  unfold refV at HO HF HZ
  clear hX hd
  rcases HKC.out with hk | hk | hk | hk
  · have HK := Lib.hid hk
    rw [hk, decide_eq_false (show ¬ 0 = 1 by decide)] at HO
    rw [hk, decide_eq_false (show ¬ 0 = 2 by decide)] at HF
    rw [hk, decide_eq_true (rfl : 0 = 0)] at HZ
    clear hk HKC
    by_cases h1 : kd = 1
    · subst h1
      cases lf with
      | true =>
        have HM := Lib.hid (show Cm.opMay ⟨1, true, r, by_⟩ = false by unfold Cm.opMay; simp only []; rw [HK.out]; simp)
        clear HK
        go_enter Tryd.func49, Tryd.ntmps49
        go_wp2_with (refine at_lod 53 (.tmp 4) rfl ?_; go_must (refine wpList_load_mid rfl 53 (.tmp 4) rfl w.heap.size 2 rfl _ _ HX.out.rng Tryd.underlying53 rfl HRL.out ?_))
        refine (HO.out _).mono ?_; rintro e w1 ⟨rfl, hb1⟩
        have HX1 := Lib.hid (HX.out.later hb1)
        have HB1 := Lib.hid (HB.out.trans (hb1.mono HB.out.size))
        clear hb1 hwa
        go_wp2_with (refine at_lod 53 (.tmp 8) rfl ?_; go_must (refine wpList_load_mid_g (by rfl) 53 (.tmp 8) rfl w.heap.size 2 rfl _ _ HX1.out.rng Tryd.underlying53 rfl HRL.out ?_))
        refine (HF.out _).mono ?_; rintro e w2 ⟨rfl, hb2⟩
        have HX2 := Lib.hid (HX1.out.later hb2)
        have HB2 := Lib.hid (HB1.out.trans (hb2.mono HB1.out.size))
        clear hb2
        obtain ⟨c0, c1, c36⟩ := (⟨HX2.out.c0, HX2.out.c1, HX2.out.c36⟩ : _ ∧ _ ∧ _)
        simp only [] at c0 c1 c36
        go_wp2_with (refine at_lod 53 (.tmp 18) rfl ?_; go_must (refine wpList_load_mid_g (by rfl) 53 (.tmp 18) rfl w.heap.size 2 rfl _ _ HX2.out.rng Tryd.underlying53 rfl HRL.out ?_))
        refine (HZ.out _).mono ?_; rintro e w3 ⟨rfl, hb3⟩
        have HX3 := Lib.hid (HX2.out.later hb3)
        have HB3 := Lib.hid (HB2.out.trans (hb3.mono HB2.out.size))
        clear hb3 c0 c1 c36
        obtain ⟨c0, c1, c36⟩ := (⟨HX3.out.c0, HX3.out.c1, HX3.out.c36⟩ : _ ∧ _ ∧ _)
        simp only [] at c0 c1 c36
        go_wp2_with fail
        go_ret
        exact ⟨by rw [HM.out]; rfl, HB3.out⟩
      | false =>
        have HM := Lib.hid (show Cm.opMay ⟨1, false, r, by_⟩ = true by unfold Cm.opMay; simp only []; rw [HK.out]; simp)
        clear HK
        go_enter Tryd.func49, Tryd.ntmps49
        go_wp2_with (refine at_lod 53 (.tmp 4) rfl ?_; go_must (refine wpList_load_mid rfl 53 (.tmp 4) rfl w.heap.size 2 rfl _ _ HX.out.rng Tryd.underlying53 rfl HRL.out ?_))
        refine (HO.out _).mono ?_; rintro e w1 ⟨rfl, hb1⟩
        have HX1 := Lib.hid (HX.out.later hb1)
        have HB1 := Lib.hid (HB.out.trans (hb1.mono HB.out.size))
        clear hb1 hwa
        go_wp2_with (refine at_lod 53 (.tmp 8) rfl ?_; go_must (refine wpList_load_mid_g (by rfl) 53 (.tmp 8) rfl w.heap.size 2 rfl _ _ HX1.out.rng Tryd.underlying53 rfl HRL.out ?_))
        refine (HF.out _).mono ?_; rintro e w2 ⟨rfl, hb2⟩
        have HX2 := Lib.hid (HX1.out.later hb2)
        have HB2 := Lib.hid (HB1.out.trans (hb2.mono HB1.out.size))
        clear hb2
        obtain ⟨c0, c1, c36⟩ := (⟨HX2.out.c0, HX2.out.c1, HX2.out.c36⟩ : _ ∧ _ ∧ _)
        simp only [] at c0 c1 c36
        go_wp2_with (refine at_lod 53 (.tmp 18) rfl ?_; go_must (refine wpList_load_mid_g (by rfl) 53 (.tmp 18) rfl w.heap.size 2 rfl _ _ HX2.out.rng Tryd.underlying53 rfl HRL.out ?_))
        refine (HZ.out _).mono ?_; rintro e w3 ⟨rfl, hb3⟩
        have HX3 := Lib.hid (HX2.out.later hb3)
        have HB3 := Lib.hid (HB2.out.trans (hb3.mono HB2.out.size))
        clear hb3 c0 c1 c36
        obtain ⟨c0, c1, c36⟩ := (⟨HX3.out.c0, HX3.out.c1, HX3.out.c36⟩ : _ ∧ _ ∧ _)
        simp only [] at c0 c1 c36
        go_wp2_with fail
        go_ret
        exact ⟨by rw [HM.out]; rfl, HB3.out⟩
    · have e1 : (kd == 1) = false := by rw [beq_eq_false_iff_ne]; exact h1
      by_cases h2 : kd = 2
      · subst h2
        have HM := Lib.hid (show Cm.opMay ⟨2, lf, r, by_⟩ = false by unfold Cm.opMay; simp only []; rw [HK.out]; simp)
        clear HK
        go_enter Tryd.func49, Tryd.ntmps49
        go_wp2_with (refine at_lod 53 (.tmp 4) rfl ?_; go_must (refine wpList_load_mid rfl 53 (.tmp 4) rfl w.heap.size 2 rfl _ _ HX.out.rng Tryd.underlying53 rfl HRL.out ?_))
        refine (HO.out _).mono ?_; rintro e w1 ⟨rfl, hb1⟩
        have HX1 := Lib.hid (HX.out.later hb1)
        have HB1 := Lib.hid (HB.out.trans (hb1.mono HB.out.size))
        clear hb1 hwa
        go_wp2_with (refine at_lod 53 (.tmp 8) rfl ?_; go_must (refine wpList_load_mid_g (by rfl) 53 (.tmp 8) rfl w.heap.size 2 rfl _ _ HX1.out.rng Tryd.underlying53 rfl HRL.out ?_))
        refine (HF.out _).mono ?_; rintro e w2 ⟨rfl, hb2⟩
        have HX2 := Lib.hid (HX1.out.later hb2)
        have HB2 := Lib.hid (HB1.out.trans (hb2.mono HB1.out.size))
        clear hb2
        obtain ⟨c0, c1, c36⟩ := (⟨HX2.out.c0, HX2.out.c1, HX2.out.c36⟩ : _ ∧ _ ∧ _)
        simp only [] at c0 c1 c36
        go_wp2_with fail
        go_ret
        exact ⟨by rw [HM.out]; rfl, HB2.out⟩
      · have e2 : (kd == 2) = false := by rw [beq_eq_false_iff_ne]; exact h2
        have HM := Lib.hid (show Cm.opMay ⟨kd, lf, r, by_⟩ = false by unfold Cm.opMay; simp only []; rw [HK.out]; simp [h1, h2])
        clear HK
        go_enter Tryd.func49, Tryd.ntmps49
        go_wp2_with (refine at_lod 53 (.tmp 4) rfl ?_; go_must (refine wpList_load_mid rfl 53 (.tmp 4) rfl w.heap.size 2 rfl _ _ HX.out.rng Tryd.underlying53 rfl HRL.out ?_))
        refine (HO.out _).mono ?_; rintro e w1 ⟨rfl, hb1⟩
        have HX1 := Lib.hid (HX.out.later hb1)
        have HB1 := Lib.hid (HB.out.trans (hb1.mono HB.out.size))
        clear hb1 hwa
        go_wp2_with (refine at_lod 53 (.tmp 8) rfl ?_; go_must (refine wpList_load_mid_g (by rfl) 53 (.tmp 8) rfl w.heap.size 2 rfl _ _ HX1.out.rng Tryd.underlying53 rfl HRL.out ?_))
        refine (HF.out _).mono ?_; rintro e w2 ⟨rfl, hb2⟩
        have HX2 := Lib.hid (HX1.out.later hb2)
        have HB2 := Lib.hid (HB1.out.trans (hb2.mono HB1.out.size))
        clear hb2
        obtain ⟨c0, c1, c36⟩ := (⟨HX2.out.c0, HX2.out.c1, HX2.out.c36⟩ : _ ∧ _ ∧ _)
        simp only [] at c0 c1 c36
        go_wp2_with fail
        go_ret
        exact ⟨by rw [HM.out]; rfl, HB2.out⟩
  · have HK := Lib.hid hk
    rw [hk, decide_eq_true (rfl : 1 = 1)] at HO
    rw [hk, decide_eq_false (show ¬ 1 = 2 by decide)] at HF
    rw [hk, decide_eq_false (show ¬ 1 = 0 by decide)] at HZ
    clear hk HKC
    by_cases h1 : kd = 1
    · subst h1
      have HM := Lib.hid (show Cm.opMay ⟨1, lf, r, by_⟩ = true by unfold Cm.opMay; simp only []; rw [HK.out]; simp)
      clear HK
      go_enter Tryd.func49, Tryd.ntmps49
      go_wp2_with (refine at_lod 53 (.tmp 4) rfl ?_; go_must (refine wpList_load_mid rfl 53 (.tmp 4) rfl w.heap.size 2 rfl _ _ HX.out.rng Tryd.underlying53 rfl HRL.out ?_))
      refine (HO.out _).mono ?_; rintro e w1 ⟨rfl, hb1⟩
      have HX1 := Lib.hid (HX.out.later hb1)
      have HB1 := Lib.hid (HB.out.trans (hb1.mono HB.out.size))
      clear hb1 hwa
      obtain ⟨c0, c1, c36⟩ := (⟨HX1.out.c0, HX1.out.c1, HX1.out.c36⟩ : _ ∧ _ ∧ _)
      simp only [] at c0 c1 c36
      go_wp2_with fail
      go_ret
      exact ⟨by rw [HM.out]; rfl, HB1.out⟩
    · have e1 : (kd == 1) = false := by rw [beq_eq_false_iff_ne]; exact h1
      by_cases h2 : kd = 2
      · subst h2
        cases lf with
        | true =>
          have HM := Lib.hid (show Cm.opMay ⟨2, true, r, by_⟩ = false by unfold Cm.opMay; simp only []; rw [HK.out]; simp)
          clear HK
          go_enter Tryd.func49, Tryd.ntmps49
          go_wp2_with (refine at_lod 53 (.tmp 4) rfl ?_; go_must (refine wpList_load_mid rfl 53 (.tmp 4) rfl w.heap.size 2 rfl _ _ HX.out.rng Tryd.underlying53 rfl HRL.out ?_))
          refine (HO.out _).mono ?_; rintro e w1 ⟨rfl, hb1⟩
          have HX1 := Lib.hid (HX.out.later hb1)
          have HB1 := Lib.hid (HB.out.trans (hb1.mono HB.out.size))
          clear hb1 hwa
          obtain ⟨c0, c1, c36⟩ := (⟨HX1.out.c0, HX1.out.c1, HX1.out.c36⟩ : _ ∧ _ ∧ _)
          simp only [] at c0 c1 c36
          go_wp2_with fail
          go_ret
          exact ⟨by rw [HM.out]; rfl, HB1.out⟩
        | false =>
          by_cases hb : by_ = 0
          · subst hb
            have HM := Lib.hid (show Cm.opMay ⟨2, false, r, 0⟩ = true by unfold Cm.opMay; simp only []; rw [HK.out]; simp)
            clear HK
            go_enter Tryd.func49, Tryd.ntmps49
            go_wp2_with (refine at_lod 53 (.tmp 4) rfl ?_; go_must (refine wpList_load_mid rfl 53 (.tmp 4) rfl w.heap.size 2 rfl _ _ HX.out.rng Tryd.underlying53 rfl HRL.out ?_))
            refine (HO.out _).mono ?_; rintro e w1 ⟨rfl, hb1⟩
            have HX1 := Lib.hid (HX.out.later hb1)
            have HB1 := Lib.hid (HB.out.trans (hb1.mono HB.out.size))
            clear hb1 hwa
            obtain ⟨c0, c1, c36⟩ := (⟨HX1.out.c0, HX1.out.c1, HX1.out.c36⟩ : _ ∧ _ ∧ _)
            simp only [] at c0 c1 c36
            go_wp2_with fail
            go_ret
            exact ⟨by rw [HM.out]; rfl, HB1.out⟩
          · have eb : ((by_.toNat : Int) == 0) = false := by rw [beq_eq_false_iff_ne]; exact fun h => hb (UInt8.toNat_inj.1 (by simpa using h))
            have eb2 : ¬ by_.toNat = 0 := fun h => hb (UInt8.toNat_inj.1 (by simpa using h))
            have HM := Lib.hid (show Cm.opMay ⟨2, false, r, by_⟩ = false by unfold Cm.opMay; simp only []; rw [HK.out]; simp [hb])
            clear HK
            go_enter Tryd.func49, Tryd.ntmps49
            go_wp2_with (refine at_lod 53 (.tmp 4) rfl ?_; go_must (refine wpList_load_mid rfl 53 (.tmp 4) rfl w.heap.size 2 rfl _ _ HX.out.rng Tryd.underlying53 rfl HRL.out ?_))
            refine (HO.out _).mono ?_; rintro e w1 ⟨rfl, hb1⟩
            have HX1 := Lib.hid (HX.out.later hb1)
            have HB1 := Lib.hid (HB.out.trans (hb1.mono HB.out.size))
            clear hb1 hwa
            obtain ⟨c0, c1, c36⟩ := (⟨HX1.out.c0, HX1.out.c1, HX1.out.c36⟩ : _ ∧ _ ∧ _)
            simp only [] at c0 c1 c36
            go_wp2_with fail
            go_ret
            exact ⟨by rw [HM.out]; rfl, HB1.out⟩
      · have e2 : (kd == 2) = false := by rw [beq_eq_false_iff_ne]; exact h2
        have HM := Lib.hid (show Cm.opMay ⟨kd, lf, r, by_⟩ = false by unfold Cm.opMay; simp only []; rw [HK.out]; simp [h1, h2])
        clear HK
        go_enter Tryd.func49, Tryd.ntmps49
        go_wp2_with (refine at_lod 53 (.tmp 4) rfl ?_; go_must (refine wpList_load_mid rfl 53 (.tmp 4) rfl w.heap.size 2 rfl _ _ HX.out.rng Tryd.underlying53 rfl HRL.out ?_))
        refine (HO.out _).mono ?_; rintro e w1 ⟨rfl, hb1⟩
        have HX1 := Lib.hid (HX.out.later hb1)
        have HB1 := Lib.hid (HB.out.trans (hb1.mono HB.out.size))
        clear hb1 hwa
        obtain ⟨c0, c1, c36⟩ := (⟨HX1.out.c0, HX1.out.c1, HX1.out.c36⟩ : _ ∧ _ ∧ _)
        simp only [] at c0 c1 c36
        go_wp2_with fail
        go_ret
        exact ⟨by rw [HM.out]; rfl, HB1.out⟩
  · have HK := Lib.hid hk
    rw [hk, decide_eq_false (show ¬ 2 = 1 by decide)] at HO
    rw [hk, decide_eq_true (rfl : 2 = 2)] at HF
    rw [hk, decide_eq_false (show ¬ 2 = 0 by decide)] at HZ
    clear hk HKC
    by_cases h1 : kd = 1
    · subst h1
      have HM := Lib.hid (show Cm.opMay ⟨1, lf, r, by_⟩ = true by unfold Cm.opMay; simp only []; rw [HK.out]; simp)
      clear HK
      go_enter Tryd.func49, Tryd.ntmps49
      go_wp2_with (refine at_lod 53 (.tmp 4) rfl ?_; go_must (refine wpList_load_mid rfl 53 (.tmp 4) rfl w.heap.size 2 rfl _ _ HX.out.rng Tryd.underlying53 rfl HRL.out ?_))
      refine (HO.out _).mono ?_; rintro e w1 ⟨rfl, hb1⟩
      have HX1 := Lib.hid (HX.out.later hb1)
      have HB1 := Lib.hid (HB.out.trans (hb1.mono HB.out.size))
      clear hb1 hwa
      go_wp2_with (refine at_lod 53 (.tmp 8) rfl ?_; go_must (refine wpList_load_mid_g (by rfl) 53 (.tmp 8) rfl w.heap.size 2 rfl _ _ HX1.out.rng Tryd.underlying53 rfl HRL.out ?_))
      refine (HF.out _).mono ?_; rintro e w2 ⟨rfl, hb2⟩
      have HX2 := Lib.hid (HX1.out.later hb2)
      have HB2 := Lib.hid (HB1.out.trans (hb2.mono HB1.out.size))
      clear hb2
      obtain ⟨c0, c1, c36⟩ := (⟨HX2.out.c0, HX2.out.c1, HX2.out.c36⟩ : _ ∧ _ ∧ _)
      simp only [] at c0 c1 c36
      go_wp2_with fail
      go_ret
      exact ⟨by rw [HM.out]; rfl, HB2.out⟩
    · have e1 : (kd == 1) = false := by rw [beq_eq_false_iff_ne]; exact h1
      by_cases h2 : kd = 2
      · subst h2
        cases lf with
        | true =>
          have HM := Lib.hid (show Cm.opMay ⟨2, true, r, by_⟩ = false by unfold Cm.opMay; simp only []; rw [HK.out]; simp)
          clear HK
          go_enter Tryd.func49, Tryd.ntmps49
          go_wp2_with (refine at_lod 53 (.tmp 4) rfl ?_; go_must (refine wpList_load_mid rfl 53 (.tmp 4) rfl w.heap.size 2 rfl _ _ HX.out.rng Tryd.underlying53 rfl HRL.out ?_))
          refine (HO.out _).mono ?_; rintro e w1 ⟨rfl, hb1⟩
          have HX1 := Lib.hid (HX.out.later hb1)
          have HB1 := Lib.hid (HB.out.trans (hb1.mono HB.out.size))
          clear hb1 hwa
          go_wp2_with (refine at_lod 53 (.tmp 8) rfl ?_; go_must (refine wpList_load_mid_g (by rfl) 53 (.tmp 8) rfl w.heap.size 2 rfl _ _ HX1.out.rng Tryd.underlying53 rfl HRL.out ?_))
          refine (HF.out _).mono ?_; rintro e w2 ⟨rfl, hb2⟩
          have HX2 := Lib.hid (HX1.out.later hb2)
          have HB2 := Lib.hid (HB1.out.trans (hb2.mono HB1.out.size))
          clear hb2
          obtain ⟨c0, c1, c36⟩ := (⟨HX2.out.c0, HX2.out.c1, HX2.out.c36⟩ : _ ∧ _ ∧ _)
          simp only [] at c0 c1 c36
          go_wp2_with fail
          go_ret
          exact ⟨by rw [HM.out]; rfl, HB2.out⟩
        | false =>
          by_cases hb : by_ = 0
          · subst hb
            have HM := Lib.hid (show Cm.opMay ⟨2, false, r, 0⟩ = true by unfold Cm.opMay; simp only []; rw [HK.out]; simp)
            clear HK
            go_enter Tryd.func49, Tryd.ntmps49
            go_wp2_with (refine at_lod 53 (.tmp 4) rfl ?_; go_must (refine wpList_load_mid rfl 53 (.tmp 4) rfl w.heap.size 2 rfl _ _ HX.out.rng Tryd.underlying53 rfl HRL.out ?_))
            refine (HO.out _).mono ?_; rintro e w1 ⟨rfl, hb1⟩
            have HX1 := Lib.hid (HX.out.later hb1)
            have HB1 := Lib.hid (HB.out.trans (hb1.mono HB.out.size))
            clear hb1 hwa
            go_wp2_with (refine at_lod 53 (.tmp 8) rfl ?_; go_must (refine wpList_load_mid_g (by rfl) 53 (.tmp 8) rfl w.heap.size 2 rfl _ _ HX1.out.rng Tryd.underlying53 rfl HRL.out ?_))
            refine (HF.out _).mono ?_; rintro e w2 ⟨rfl, hb2⟩
            have HX2 := Lib.hid (HX1.out.later hb2)
            have HB2 := Lib.hid (HB1.out.trans (hb2.mono HB1.out.size))
            clear hb2
            obtain ⟨c0, c1, c36⟩ := (⟨HX2.out.c0, HX2.out.c1, HX2.out.c36⟩ : _ ∧ _ ∧ _)
            simp only [] at c0 c1 c36
            go_wp2_with fail
            go_ret
            exact ⟨by rw [HM.out]; rfl, HB2.out⟩
          · have eb : ((by_.toNat : Int) == 0) = false := by rw [beq_eq_false_iff_ne]; exact fun h => hb (UInt8.toNat_inj.1 (by simpa using h))
            have eb2 : ¬ by_.toNat = 0 := fun h => hb (UInt8.toNat_inj.1 (by simpa using h))
            have HM := Lib.hid (show Cm.opMay ⟨2, false, r, by_⟩ = false by unfold Cm.opMay; simp only []; rw [HK.out]; simp [hb])
            clear HK
            go_enter Tryd.func49, Tryd.ntmps49
            go_wp2_with (refine at_lod 53 (.tmp 4) rfl ?_; go_must (refine wpList_load_mid rfl 53 (.tmp 4) rfl w.heap.size 2 rfl _ _ HX.out.rng Tryd.underlying53 rfl HRL.out ?_))
            refine (HO.out _).mono ?_; rintro e w1 ⟨rfl, hb1⟩
            have HX1 := Lib.hid (HX.out.later hb1)
            have HB1 := Lib.hid (HB.out.trans (hb1.mono HB.out.size))
            clear hb1 hwa
            go_wp2_with (refine at_lod 53 (.tmp 8) rfl ?_; go_must (refine wpList_load_mid_g (by rfl) 53 (.tmp 8) rfl w.heap.size 2 rfl _ _ HX1.out.rng Tryd.underlying53 rfl HRL.out ?_))
            refine (HF.out _).mono ?_; rintro e w2 ⟨rfl, hb2⟩
            have HX2 := Lib.hid (HX1.out.later hb2)
            have HB2 := Lib.hid (HB1.out.trans (hb2.mono HB1.out.size))
            clear hb2
            obtain ⟨c0, c1, c36⟩ := (⟨HX2.out.c0, HX2.out.c1, HX2.out.c36⟩ : _ ∧ _ ∧ _)
            simp only [] at c0 c1 c36
            go_wp2_with fail
            go_ret
            exact ⟨by rw [HM.out]; rfl, HB2.out⟩
      · have e2 : (kd == 2) = false := by rw [beq_eq_false_iff_ne]; exact h2
        have HM := Lib.hid (show Cm.opMay ⟨kd, lf, r, by_⟩ = false by unfold Cm.opMay; simp only []; rw [HK.out]; simp [h1, h2])
        clear HK
        go_enter Tryd.func49, Tryd.ntmps49
        go_wp2_with (refine at_lod 53 (.tmp 4) rfl ?_; go_must (refine wpList_load_mid rfl 53 (.tmp 4) rfl w.heap.size 2 rfl _ _ HX.out.rng Tryd.underlying53 rfl HRL.out ?_))
        refine (HO.out _).mono ?_; rintro e w1 ⟨rfl, hb1⟩
        have HX1 := Lib.hid (HX.out.later hb1)
        have HB1 := Lib.hid (HB.out.trans (hb1.mono HB.out.size))
        clear hb1 hwa
        go_wp2_with (refine at_lod 53 (.tmp 8) rfl ?_; go_must (refine wpList_load_mid_g (by rfl) 53 (.tmp 8) rfl w.heap.size 2 rfl _ _ HX1.out.rng Tryd.underlying53 rfl HRL.out ?_))
        refine (HF.out _).mono ?_; rintro e w2 ⟨rfl, hb2⟩
        have HX2 := Lib.hid (HX1.out.later hb2)
        have HB2 := Lib.hid (HB1.out.trans (hb2.mono HB1.out.size))
        clear hb2
        obtain ⟨c0, c1, c36⟩ := (⟨HX2.out.c0, HX2.out.c1, HX2.out.c36⟩ : _ ∧ _ ∧ _)
        simp only [] at c0 c1 c36
        go_wp2_with fail
        go_ret
        exact ⟨by rw [HM.out]; rfl, HB2.out⟩
  · have HK := Lib.hid hk
    rw [hk, decide_eq_false (show ¬ 3 = 1 by decide)] at HO
    rw [hk, decide_eq_false (show ¬ 3 = 2 by decide)] at HF
    rw [hk, decide_eq_false (show ¬ 3 = 0 by decide)] at HZ
    clear hk HKC
    by_cases h1 : kd = 1
    · subst h1
      have HM := Lib.hid (show Cm.opMay ⟨1, lf, r, by_⟩ = false by unfold Cm.opMay; simp only []; rw [HK.out]; simp)
      clear HK
      go_enter Tryd.func49, Tryd.ntmps49
      go_wp2_with (refine at_lod 53 (.tmp 4) rfl ?_; go_must (refine wpList_load_mid rfl 53 (.tmp 4) rfl w.heap.size 2 rfl _ _ HX.out.rng Tryd.underlying53 rfl HRL.out ?_))
      refine (HO.out _).mono ?_; rintro e w1 ⟨rfl, hb1⟩
      have HX1 := Lib.hid (HX.out.later hb1)
      have HB1 := Lib.hid (HB.out.trans (hb1.mono HB.out.size))
      clear hb1 hwa
      go_wp2_with (refine at_lod 53 (.tmp 8) rfl ?_; go_must (refine wpList_load_mid_g (by rfl) 53 (.tmp 8) rfl w.heap.size 2 rfl _ _ HX1.out.rng Tryd.underlying53 rfl HRL.out ?_))
      refine (HF.out _).mono ?_; rintro e w2 ⟨rfl, hb2⟩
      have HX2 := Lib.hid (HX1.out.later hb2)
      have HB2 := Lib.hid (HB1.out.trans (hb2.mono HB1.out.size))
      clear hb2
      obtain ⟨c0, c1, c36⟩ := (⟨HX2.out.c0, HX2.out.c1, HX2.out.c36⟩ : _ ∧ _ ∧ _)
      simp only [] at c0 c1 c36
      go_wp2_with (refine at_lod 53 (.tmp 18) rfl ?_; go_must (refine wpList_load_mid_g (by rfl) 53 (.tmp 18) rfl w.heap.size 2 rfl _ _ HX2.out.rng Tryd.underlying53 rfl HRL.out ?_))
      refine (HZ.out _).mono ?_; rintro e w3 ⟨rfl, hb3⟩
      have HX3 := Lib.hid (HX2.out.later hb3)
      have HB3 := Lib.hid (HB2.out.trans (hb3.mono HB2.out.size))
      clear hb3 c0 c1 c36
      obtain ⟨c0, c1, c36⟩ := (⟨HX3.out.c0, HX3.out.c1, HX3.out.c36⟩ : _ ∧ _ ∧ _)
      simp only [] at c0 c1 c36
      go_wp2_with fail
      go_ret
      exact ⟨by rw [HM.out]; rfl, HB3.out⟩
    · have e1 : (kd == 1) = false := by rw [beq_eq_false_iff_ne]; exact h1
      by_cases h2 : kd = 2
      · subst h2
        have HM := Lib.hid (show Cm.opMay ⟨2, lf, r, by_⟩ = false by unfold Cm.opMay; simp only []; rw [HK.out]; simp)
        clear HK
        go_enter Tryd.func49, Tryd.ntmps49
        go_wp2_with (refine at_lod 53 (.tmp 4) rfl ?_; go_must (refine wpList_load_mid rfl 53 (.tmp 4) rfl w.heap.size 2 rfl _ _ HX.out.rng Tryd.underlying53 rfl HRL.out ?_))
        refine (HO.out _).mono ?_; rintro e w1 ⟨rfl, hb1⟩
        have HX1 := Lib.hid (HX.out.later hb1)
        have HB1 := Lib.hid (HB.out.trans (hb1.mono HB.out.size))
        clear hb1 hwa
        go_wp2_with (refine at_lod 53 (.tmp 8) rfl ?_; go_must (refine wpList_load_mid_g (by rfl) 53 (.tmp 8) rfl w.heap.size 2 rfl _ _ HX1.out.rng Tryd.underlying53 rfl HRL.out ?_))
        refine (HF.out _).mono ?_; rintro e w2 ⟨rfl, hb2⟩
        have HX2 := Lib.hid (HX1.out.later hb2)
        have HB2 := Lib.hid (HB1.out.trans (hb2.mono HB1.out.size))
        clear hb2
        obtain ⟨c0, c1, c36⟩ := (⟨HX2.out.c0, HX2.out.c1, HX2.out.c36⟩ : _ ∧ _ ∧ _)
        simp only [] at c0 c1 c36
        go_wp2_with fail
        go_ret
        exact ⟨by rw [HM.out]; rfl, HB2.out⟩
      · have e2 : (kd == 2) = false := by rw [beq_eq_false_iff_ne]; exact h2
        have HM := Lib.hid (show Cm.opMay ⟨kd, lf, r, by_⟩ = false by unfold Cm.opMay; simp only []; rw [HK.out]; simp [h1, h2])
        clear HK
        go_enter Tryd.func49, Tryd.ntmps49
        go_wp2_with (refine at_lod 53 (.tmp 4) rfl ?_; go_must (refine wpList_load_mid rfl 53 (.tmp 4) rfl w.heap.size 2 rfl _ _ HX.out.rng Tryd.underlying53 rfl HRL.out ?_))
        refine (HO.out _).mono ?_; rintro e w1 ⟨rfl, hb1⟩
        have HX1 := Lib.hid (HX.out.later hb1)
        have HB1 := Lib.hid (HB.out.trans (hb1.mono HB.out.size))
        clear hb1 hwa
        go_wp2_with (refine at_lod 53 (.tmp 8) rfl ?_; go_must (refine wpList_load_mid_g (by rfl) 53 (.tmp 8) rfl w.heap.size 2 rfl _ _ HX1.out.rng Tryd.underlying53 rfl HRL.out ?_))
        refine (HF.out _).mono ?_; rintro e w2 ⟨rfl, hb2⟩
        have HX2 := Lib.hid (HX1.out.later hb2)
        have HB2 := Lib.hid (HB1.out.trans (hb2.mono HB1.out.size))
        clear hb2
        obtain ⟨c0, c1, c36⟩ := (⟨HX2.out.c0, HX2.out.c1, HX2.out.c36⟩ : _ ∧ _ ∧ _)
        simp only [] at c0 c1 c36
        go_wp2_with fail
        go_ret
        exact ⟨by rw [HM.out]; rfl, HB2.out⟩
end Go.Proofs.YtjgegggcbjecbaaDoor
