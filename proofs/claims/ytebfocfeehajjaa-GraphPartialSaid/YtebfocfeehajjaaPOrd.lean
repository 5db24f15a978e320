/- The contracts of the program's digest.Less and of order, told with what they draw: for a sort. -/
import Derived.Test.YtebfocfeehajjaaRowG
import Derived.Test.YtebfocfeehajjaaPLess
import Derived.Sort.Grow
namespace Go.Proofs.Ytebfocfeehajjaa
open Go Go.RowKit

/-- A world behind: what there was stands, there may be more, and no less is drawn. -/
structure GrD (w w' : World) : Prop where
  below : Below w.heap.size w w'
  drawn : w.drawn ≤ w'.drawn
theorem GrD.refl (w : World) : GrD w w := ⟨Below.refl _ _, Nat.le_refl _⟩
theorem GrD.alloc {w w' : World} (h : GrD w w') (o : Obj) : GrD w (w'.alloc o) := ⟨h.below.alloc h.below.size _, h.drawn⟩
theorem GrD.drew {w w' : World} (h : GrD w w') : GrD w w'.drew := ⟨h.below.drew, Nat.le_succ_of_le h.drawn⟩
theorem GrD.trans {w w' w2 : World} (h : GrD w w') (h2 : GrD w' w2) : GrD w w2 := ⟨h.below.trans (h2.below.mono h.below.size), Nat.le_trans h.drawn h2.drawn⟩
theorem GrD.grow {w w' : World} (h : GrD w w') : ∃ q os', w' = Go.Sort.grow (w.drewN q) os' := by
  obtain ⟨⟨h1, h2, h3, h4, h5⟩, h6⟩ := h
  refine ⟨w'.drawn - w.drawn, w'.heap.extract w.heap.size w'.heap.size, ?_⟩
  have hh : w'.heap = w.heap ++ w'.heap.extract w.heap.size w'.heap.size := by
    apply Array.ext_getElem?
    intro i
    rcases Nat.lt_or_ge i w.heap.size with hi | hi
    · rw [Array.getElem?_append_left hi]; exact h5 i hi
    · rw [Array.getElem?_append_right hi, Array.getElem?_extract]
      rcases Nat.lt_or_ge i w'.heap.size with hj | hj
      · rw [if_pos (by omega)]; congr 1; omega
      · rw [if_neg (by omega), Array.getElem?_eq_none hj]
  have hd : w.drawn + (w'.drawn - w.drawn) = w'.drawn := by omega
  have e : w' = { w with heap := w'.heap, drawn := w'.drawn } := by
    cases w
    cases w'
    simp only at h1 h2 h3
    subst h1 h2 h3
    rfl
  show _ = ({ w with heap := w.heap ++ w'.heap.extract w.heap.size w'.heap.size, drawn := w.drawn + (w'.drawn - w.drawn) } : World)
  rw [hd, ← hh]
  exact e


set_option maxRecDepth 100000 in
set_option maxHeartbeats 2000000 in
theorem pless_dr (a b : List UInt8) (w : World) (ha : a.length = 32) (hb : b.length = 32) :
    Calls Try.prog 64 #[.agg (bv a).toArray, .agg (bv b).toArray] w fun e w' => e = .returned (.bool (Tx.less a b)) ∧ GrD w w' := by
  have hsa := (bv_size a).trans ha
  have hsb := (bv_size b).trans hb
  have HSA := Lib.hid hsa
  have HSB := Lib.hid hsb
  have HA := Lib.hid ha
  have HB := Lib.hid hb
  have hEQ := run_eql_bytes (P := Try.prog) Try.underlying47 Try.underlying5 (by kernel_rfl) ha hb
  have HAT := Lib.hid (fun (p : Nat) (h : p < 32) => bv_at a (p := p) (by rw [ha]; exact h))
  have HBT := Lib.hid (fun (p : Nat) (h : p < 32) => bv_at b (p := p) (by rw [hb]; exact h))
  clear ha hb hsa hsb
  obtain ⟨X, hX⟩ : ∃ X, X = (bv a).toArray := ⟨_, rfl⟩
  obtain ⟨Y, hY⟩ : ∃ Y, Y = (bv b).toArray := ⟨_, rfl⟩
  rw [← hX] at hEQ HAT HSA ⊢
  rw [← hY] at hEQ HBT HSB ⊢
  clear hX hY
  have s1 : (w.alloc (.cells X 47)).heap.size = w.heap.size + 1 := by simp
  have hX0 : Blk ((w.alloc (.cells X 47)).alloc (.cells Y 47)) w.heap.size 47 X := (Blk.new w _ _).alloc _
  have hY0 : Blk ((w.alloc (.cells X 47)).alloc (.cells Y 47)) (w.heap.size + 1) 47 Y := s1 ▸ Blk.new (w.alloc (.cells X 47)) 47 Y
  have hW0 : GrD w ((w.alloc (.cells X 47)).alloc (.cells Y 47)) := ((GrD.refl _).alloc _).alloc _
  clear s1
  by_cases hab : a = b
  · have hl : Tx.less a b = false := by rw [hab, Tx.less_self]
    rw [hl]
    have hd : decide (a = b) = true := decide_eq_true hab
    clear hab hl
    go_enter Try.func64, Try.ntmps64
    go_wp2_with (first
      | (refine at_lod 47 (.tmp 2) rfl ?_; go_must (refine wpList_load_row rfl 47 (.tmp 2) rfl _ rfl _ _ _ _ hX0 Try.underlying47 rfl (by rw [HSA.out]; exact infoD32) ?_))
      | (refine at_lod 47 (.tmp 3) rfl ?_; go_must (refine wpList_load_row rfl 47 (.tmp 3) rfl _ rfl _ _ _ _ hY0 Try.underlying47 rfl (by rw [HSB.out]; exact infoD32) ?_)))
    go_ret
    exact ⟨rfl, hW0⟩
  · have hd : decide (a = b) = false := decide_eq_false hab
    have HAB := Lib.hid hab
    clear hab
    go_enter Try.func64, Try.ntmps64
    go_wp2_with (first
      | (refine at_lod 47 (.tmp 2) rfl ?_; go_must (refine wpList_load_row rfl 47 (.tmp 2) rfl _ rfl _ _ _ _ hX0 Try.underlying47 rfl (by rw [HSA.out]; exact infoD32) ?_))
      | (refine at_lod 47 (.tmp 3) rfl ?_; go_must (refine wpList_load_row rfl 47 (.tmp 3) rfl _ rfl _ _ _ _ hY0 Try.underlying47 rfl (by rw [HSB.out]; exact infoD32) ?_)))
    generalize (w.alloc (.cells X 47)).alloc (.cells Y 47) = wa at *
    go_loopw [5] (fun i wr => ∃ k : Nat, i = .int .i64 (k : Int) ∧ Hid (a.take k = b.take k) ∧ Blk wr w.heap.size 47 X ∧ Blk wr (w.heap.size + 1) 47 Y ∧ GrD w wr) (fun i _ => 32 - (intOf i).toNat)
    case atStart => exact ⟨0, rfl, rfl, hX0, hY0, hW0⟩
    case round =>
      obtain ⟨k, rfl, HT, hXr, hYr, hb⟩ := hrel
      have hk := Tx.ne_at a b HA.out HB.out HT.out HAB.out
      have hkI : (k : Int) < 32 := by omega
      have hXd := hXr.drew
      have hYd := hYr.drew
      have hbd := hb.drew
      have ca := (hXd.cell k).trans (HAT.out k hk)
      have cb := (hYd.cell k).trans (HBT.out k hk)
      clear hXr hYr hb
      by_cases he : a.getD k 0 = b.getD k 0
      · have HT2 := Lib.hid (Tx.take_at a b (by rw [HA.out]; exact hk) (by rw [HB.out]; exact hk) HT.out he)
        rw [← he] at cb
        clear he
        generalize a.getD k 0 = x at *
        have hxx : ((x.toNat : Int) == (x.toNat : Int)) = true := beq_self_eq_true _
        go_wp2_with fail
        refine still_all (by kernel_rfl) (by kernel_rfl) ?_
        generalize World.drew wr = wd at *
        first | (with_reducible refine wpStill_step (fun K hK => ?_); go_simp; refine hK _ ?_; clear hK K) | (with_reducible refine still_skip ?hw (fun K hK => ?_); (case hw => simp [Region.wanted, yielded, undef]); go_simp; refine hK _ ?_; clear hK K)
        first | (with_reducible refine wpStill_step (fun K hK => ?_); go_simp; refine hK _ ?_; clear hK K) | (with_reducible refine still_skip ?hw (fun K hK => ?_); (case hw => simp [Region.wanted, yielded, undef]); go_simp; refine hK _ ?_; clear hK K)
        first | (with_reducible refine wpStill_step (fun K hK => ?_); go_simp; refine hK _ ?_; clear hK K) | (with_reducible refine still_skip ?hw (fun K hK => ?_); (case hw => simp [Region.wanted, yielded, undef]); go_simp; refine hK _ ?_; clear hK K)
        first | (with_reducible refine wpStill_step (fun K hK => ?_); go_simp; refine hK _ ?_; clear hK K) | (with_reducible refine still_skip ?hw (fun K hK => ?_); (case hw => simp [Region.wanted, yielded, undef]); go_simp; refine hK _ ?_; clear hK K)
        first | (with_reducible refine wpStill_step (fun K hK => ?_); go_simp; refine hK _ ?_; clear hK K) | (with_reducible refine still_skip ?hw (fun K hK => ?_); (case hw => simp [Region.wanted, yielded, undef]); go_simp; refine hK _ ?_; clear hK K)
        first | (with_reducible refine wpStill_step (fun K hK => ?_); go_simp; refine hK _ ?_; clear hK K) | (with_reducible refine still_skip ?hw (fun K hK => ?_); (case hw => simp [Region.wanted, yielded, undef]); go_simp; refine hK _ ?_; clear hK K)
        first | (with_reducible refine wpStill_step (fun K hK => ?_); go_simp; refine hK _ ?_; clear hK K) | (with_reducible refine still_skip ?hw (fun K hK => ?_); (case hw => simp [Region.wanted, yielded, undef]); go_simp; refine hK _ ?_; clear hK K)
        refine wpStill_nil ?_
        go_wp2_with fail
        go_roundw
        case rel => exact ⟨k + 1, by go_num, HT2, hXd, hYd, hbd⟩
        case measure => simp [intOf]; omega
      · have hxx := u8_ne he
        have HL := Lib.hid (Tx.less_at a b (by rw [HA.out]; exact hk) (by rw [HB.out]; exact hk) HT.out he)
        clear he
        generalize a.getD k 0 = x at *
        generalize b.getD k 0 = y at *
        go_wp2_with fail
        refine still_all (by kernel_rfl) (by kernel_rfl) ?_
        generalize World.drew wr = wd at *
        first | (with_reducible refine wpStill_step (fun K hK => ?_); go_simp; refine hK _ ?_; clear hK K) | (with_reducible refine still_skip ?hw (fun K hK => ?_); (case hw => simp [Region.wanted, yielded, undef]); go_simp; refine hK _ ?_; clear hK K)
        first | (with_reducible refine wpStill_step (fun K hK => ?_); go_simp; refine hK _ ?_; clear hK K) | (with_reducible refine still_skip ?hw (fun K hK => ?_); (case hw => simp [Region.wanted, yielded, undef]); go_simp; refine hK _ ?_; clear hK K)
        first | (with_reducible refine wpStill_step (fun K hK => ?_); go_simp; refine hK _ ?_; clear hK K) | (with_reducible refine still_skip ?hw (fun K hK => ?_); (case hw => simp [Region.wanted, yielded, undef]); go_simp; refine hK _ ?_; clear hK K)
        first | (with_reducible refine wpStill_step (fun K hK => ?_); go_simp; refine hK _ ?_; clear hK K) | (with_reducible refine still_skip ?hw (fun K hK => ?_); (case hw => simp [Region.wanted, yielded, undef]); go_simp; refine hK _ ?_; clear hK K)
        first | (with_reducible refine wpStill_step (fun K hK => ?_); go_simp; refine hK _ ?_; clear hK K) | (with_reducible refine still_skip ?hw (fun K hK => ?_); (case hw => simp [Region.wanted, yielded, undef]); go_simp; refine hK _ ?_; clear hK K)
        first | (with_reducible refine wpStill_step (fun K hK => ?_); go_simp; refine hK _ ?_; clear hK K) | (with_reducible refine still_skip ?hw (fun K hK => ?_); (case hw => simp [Region.wanted, yielded, undef]); go_simp; refine hK _ ?_; clear hK K)
        first | (with_reducible refine wpStill_step (fun K hK => ?_); go_simp; refine hK _ ?_; clear hK K) | (with_reducible refine still_skip ?hw (fun K hK => ?_); (case hw => simp [Region.wanted, yielded, undef]); go_simp; refine hK _ ?_; clear hK K)
        refine wpStill_nil ?_
        go_wp2_with fail
        have ca := (World.cell?_drew wd _).trans ca
        have cb := (World.cell?_drew wd _).trans cb
        have hbd := hbd.drew
        refine still_all (by kernel_rfl) (by kernel_rfl) ?_
        generalize World.drew wd = we at *
        first | (with_reducible refine wpStill_step (fun K hK => ?_); go_simp; refine hK _ ?_; clear hK K) | (with_reducible refine still_skip ?hw (fun K hK => ?_); (case hw => simp [Region.wanted, yielded, undef]); go_simp; refine hK _ ?_; clear hK K)
        first | (with_reducible refine wpStill_step (fun K hK => ?_); go_simp; refine hK _ ?_; clear hK K) | (with_reducible refine still_skip ?hw (fun K hK => ?_); (case hw => simp [Region.wanted, yielded, undef]); go_simp; refine hK _ ?_; clear hK K)
        first | (with_reducible refine wpStill_step (fun K hK => ?_); go_simp; refine hK _ ?_; clear hK K) | (with_reducible refine still_skip ?hw (fun K hK => ?_); (case hw => simp [Region.wanted, yielded, undef]); go_simp; refine hK _ ?_; clear hK K)
        first | (with_reducible refine wpStill_step (fun K hK => ?_); go_simp; refine hK _ ?_; clear hK K) | (with_reducible refine still_skip ?hw (fun K hK => ?_); (case hw => simp [Region.wanted, yielded, undef]); go_simp; refine hK _ ?_; clear hK K)
        first | (with_reducible refine wpStill_step (fun K hK => ?_); go_simp; refine hK _ ?_; clear hK K) | (with_reducible refine still_skip ?hw (fun K hK => ?_); (case hw => simp [Region.wanted, yielded, undef]); go_simp; refine hK _ ?_; clear hK K)
        first | (with_reducible refine wpStill_step (fun K hK => ?_); go_simp; refine hK _ ?_; clear hK K) | (with_reducible refine still_skip ?hw (fun K hK => ?_); (case hw => simp [Region.wanted, yielded, undef]); go_simp; refine hK _ ?_; clear hK K)
        first | (with_reducible refine wpStill_step (fun K hK => ?_); go_simp; refine hK _ ?_; clear hK K) | (with_reducible refine still_skip ?hw (fun K hK => ?_); (case hw => simp [Region.wanted, yielded, undef]); go_simp; refine hK _ ?_; clear hK K)
        first | (with_reducible refine wpStill_step (fun K hK => ?_); go_simp; refine hK _ ?_; clear hK K) | (with_reducible refine still_skip ?hw (fun K hK => ?_); (case hw => simp [Region.wanted, yielded, undef]); go_simp; refine hK _ ?_; clear hK K)
        refine wpStill_nil ?_
        go_wp2_with fail
        go_ret
        exact ⟨by rw [HL.out]; first | rfl | (congr 2; simp), hbd⟩

/-- How order tells two digests apart. -/
def ordD (a b : List UInt8) : Int := if Tx.less a b = true then -1 else if Tx.less b a = true then 1 else 0

set_option maxRecDepth 100000 in
set_option maxHeartbeats 2000000 in
theorem order_dr (a b : List UInt8) (w : World) (ha : a.length = 32) (hb : b.length = 32) :
    Calls Try.prog 54 #[.agg (bv a).toArray, .agg (bv b).toArray] w fun e w' => e = .returned (.int .i64 (ordD a b)) ∧ GrD w w' := by
  have C1 := Lib.hid (fun w => pless_dr a b w ha hb)
  have C2 := Lib.hid (fun w => pless_dr b a w hb ha)
  obtain ⟨X, hX⟩ : ∃ X, X = (bv a).toArray := ⟨_, rfl⟩
  obtain ⟨Y, hY⟩ : ∃ Y, Y = (bv b).toArray := ⟨_, rfl⟩
  have HXI := Lib.hid (show (Try.prog.info? 47).map (·.size) = some X.size by rw [hX, bv_size, ha]; exact infoD32)
  have HYI := Lib.hid (show (Try.prog.info? 47).map (·.size) = some Y.size by rw [hY, bv_size, hb]; exact infoD32)
  rw [← hX, ← hY] at C1 C2 ⊢
  obtain ⟨wa, hwa⟩ : ∃ y, y = w.alloc (.cells X 47) := ⟨_, rfl⟩
  obtain ⟨wb, hwb⟩ : ∃ y, y = wa.alloc (.cells Y 47) := ⟨_, rfl⟩
  have hsa : wa.heap.size = w.heap.size + 1 := by rw [hwa]; simp
  have HKX := Lib.hid (show Blk wb w.heap.size 47 X by rw [hwb, hwa]; exact (Blk.new w _ _).alloc _)
  have HKY := Lib.hid (show Blk wb (w.heap.size + 1) 47 Y by rw [hwb, ← hsa]; exact Blk.new wa _ _)
  have HG := Lib.hid (show GrD w wb by rw [hwb, hwa]; exact ((GrD.refl _).alloc _).alloc _)
  rw [hwa] at hwb
  replace hwb := hwb.symm
  clear hX hY hwa hsa ha hb
  unfold ordD
  by_cases h1 : Tx.less a b = true
  · rw [h1] at C1
    rw [if_pos h1]
    clear h1
    go_enter Try.func54, Try.ntmps54
    go_wp2_with (first | (refine at_lod 47 (.tmp 2) rfl ?_; go_must (refine wpList_load_row rfl 47 (.tmp 2) rfl w.heap.size rfl _ X (0, 0) _ HKX.out Try.underlying47 rfl HXI.out ?_)) | (refine at_lod 47 (.tmp 3) rfl ?_; go_must (refine wpList_load_row rfl 47 (.tmp 3) rfl (w.heap.size + 1) rfl _ Y (0, 0) _ HKY.out Try.underlying47 rfl HYI.out ?_)))
    refine (C1.out _).mono ?_; rintro e w1 ⟨rfl, hg1⟩
    have HG1 := Lib.hid (HG.out.trans hg1)
    clear hg1
    go_wp2_with fail
    go_ret
    exact ⟨rfl, HG1.out⟩
  · rw [Bool.eq_false_iff.2 h1] at C1
    rw [if_neg h1]
    clear h1
    by_cases h2 : Tx.less b a = true
    · rw [h2] at C2
      rw [if_pos h2]
      clear h2
      go_enter Try.func54, Try.ntmps54
      go_wp2_with (first | (refine at_lod 47 (.tmp 2) rfl ?_; go_must (refine wpList_load_row rfl 47 (.tmp 2) rfl w.heap.size rfl _ X (0, 0) _ HKX.out Try.underlying47 rfl HXI.out ?_)) | (refine at_lod 47 (.tmp 3) rfl ?_; go_must (refine wpList_load_row rfl 47 (.tmp 3) rfl (w.heap.size + 1) rfl _ Y (0, 0) _ HKY.out Try.underlying47 rfl HYI.out ?_)))
      refine (C1.out _).mono ?_; rintro e w1 ⟨rfl, hg1⟩
      have HG1 := Lib.hid (HG.out.trans hg1)
      have HX1 := Lib.hid (HKX.out.later hg1.below)
      have HY1 := Lib.hid (HKY.out.later hg1.below)
      clear hg1
      go_wp2_with (first | (refine at_lod 47 (.tmp 2) rfl ?_; go_must (refine wpList_load_row rfl 47 (.tmp 2) rfl w.heap.size rfl _ X (0, 0) _ HX1.out Try.underlying47 rfl HXI.out ?_)) | (refine at_lod 47 (.tmp 3) rfl ?_; go_must (refine wpList_load_row rfl 47 (.tmp 3) rfl (w.heap.size + 1) rfl _ Y (0, 0) _ HY1.out Try.underlying47 rfl HYI.out ?_)))
      refine (C2.out _).mono ?_; rintro e w2 ⟨rfl, hg2⟩
      have HG2 := Lib.hid (HG1.out.trans hg2)
      clear hg2
      go_wp2_with fail
      go_ret
      exact ⟨rfl, HG2.out⟩
    · rw [Bool.eq_false_iff.2 h2] at C2
      rw [if_neg h2]
      clear h2
      go_enter Try.func54, Try.ntmps54
      go_wp2_with (first | (refine at_lod 47 (.tmp 2) rfl ?_; go_must (refine wpList_load_row rfl 47 (.tmp 2) rfl w.heap.size rfl _ X (0, 0) _ HKX.out Try.underlying47 rfl HXI.out ?_)) | (refine at_lod 47 (.tmp 3) rfl ?_; go_must (refine wpList_load_row rfl 47 (.tmp 3) rfl (w.heap.size + 1) rfl _ Y (0, 0) _ HKY.out Try.underlying47 rfl HYI.out ?_)))
      refine (C1.out _).mono ?_; rintro e w1 ⟨rfl, hg1⟩
      have HG1 := Lib.hid (HG.out.trans hg1)
      have HX1 := Lib.hid (HKX.out.later hg1.below)
      have HY1 := Lib.hid (HKY.out.later hg1.below)
      clear hg1
      go_wp2_with (first | (refine at_lod 47 (.tmp 2) rfl ?_; go_must (refine wpList_load_row rfl 47 (.tmp 2) rfl w.heap.size rfl _ X (0, 0) _ HX1.out Try.underlying47 rfl HXI.out ?_)) | (refine at_lod 47 (.tmp 3) rfl ?_; go_must (refine wpList_load_row rfl 47 (.tmp 3) rfl (w.heap.size + 1) rfl _ Y (0, 0) _ HY1.out Try.underlying47 rfl HYI.out ?_)))
      refine (C2.out _).mono ?_; rintro e w2 ⟨rfl, hg2⟩
      have HG2 := Lib.hid (HG1.out.trans hg2)
      clear hg2
      go_wp2_with fail
      go_ret
      exact ⟨rfl, HG2.out⟩
end Go.Proofs.Ytebfocfeehajjaa
