/- The contract of the program's digest.Less. -/
import Derived.Test.YtebfocfeehajjaaRLess
namespace Go.Proofs.Ytebfocfeehajjaa
open Go Go.RowKit

set_option maxRecDepth 100000 in
set_option maxHeartbeats 2000000 in
theorem pless_any (a b : List UInt8) (w : World) (ha : a.length = 32) (hb : b.length = 32) :
    Calls Try.prog 64 #[.agg (bv a).toArray, .agg (bv b).toArray] w fun e w' => e = .returned (.bool (Tx.less a b)) ∧ Below w.heap.size w w' := by
  have hsa := (bv_size a).trans ha
  have hsb := (bv_size b).trans hb
  have HSA := Lib.hid hsa
  have HSB := Lib.hid hsb
  have HA := Lib.hid ha
  have HB := Lib.hid hb
  have hEQ := run_eql_bytes (P := Try.prog) Try.underlying47 Try.underlying5 (by kernel_rfl) ha hb
  have HAT := Lib.hid (fun (p : Nat) (h : p < 32) => bv_at a (p := p) (by rw [ha]; exact h))
  have HBT := Lib.hid (fun (p : Nat) (h : p < 32) => bv_at b (p := p) (by rw [hb]; exact h))
  clear ha hb hsa hsb
  obtain ⟨X, hX⟩ : ∃ X, X = (bv a).toArray := ⟨_, rfl⟩
  obtain ⟨Y, hY⟩ : ∃ Y, Y = (bv b).toArray := ⟨_, rfl⟩
  rw [← hX] at hEQ HAT HSA ⊢
  rw [← hY] at hEQ HBT HSB ⊢
  clear hX hY
  have s1 : (w.alloc (.cells X 47)).heap.size = w.heap.size + 1 := by simp
  have hX0 : Blk ((w.alloc (.cells X 47)).alloc (.cells Y 47)) w.heap.size 47 X := (Blk.new w _ _).alloc _
  have hY0 : Blk ((w.alloc (.cells X 47)).alloc (.cells Y 47)) (w.heap.size + 1) 47 Y := s1 ▸ Blk.new (w.alloc (.cells X 47)) 47 Y
  have hW0 : Below w.heap.size w ((w.alloc (.cells X 47)).alloc (.cells Y 47)) := ((Below.refl _ _).alloc (Nat.le_refl _) _).alloc (by simp) _
  clear s1
  by_cases hab : a = b
  · have hl : Tx.less a b = false := by rw [hab, Tx.less_self]
    rw [hl]
    have hd : decide (a = b) = true := decide_eq_true hab
    clear hab hl
    go_enter Try.func64, Try.ntmps64
    go_wp2_with (first
      | (refine at_lod 47 (.tmp 2) rfl ?_; go_must (refine wpList_load_row rfl 47 (.tmp 2) rfl _ rfl _ _ _ _ hX0 Try.underlying47 rfl (by rw [HSA.out]; exact infoD32) ?_))
      | (refine at_lod 47 (.tmp 3) rfl ?_; go_must (refine wpList_load_row rfl 47 (.tmp 3) rfl _ rfl _ _ _ _ hY0 Try.underlying47 rfl (by rw [HSB.out]; exact infoD32) ?_)))
    go_ret
    exact ⟨rfl, hW0⟩
  · have hd : decide (a = b) = false := decide_eq_false hab
    have HAB := Lib.hid hab
    clear hab
    go_enter Try.func64, Try.ntmps64
    go_wp2_with (first
      | (refine at_lod 47 (.tmp 2) rfl ?_; go_must (refine wpList_load_row rfl 47 (.tmp 2) rfl _ rfl _ _ _ _ hX0 Try.underlying47 rfl (by rw [HSA.out]; exact infoD32) ?_))
      | (refine at_lod 47 (.tmp 3) rfl ?_; go_must (refine wpList_load_row rfl 47 (.tmp 3) rfl _ rfl _ _ _ _ hY0 Try.underlying47 rfl (by rw [HSB.out]; exact infoD32) ?_)))
    generalize (w.alloc (.cells X 47)).alloc (.cells Y 47) = wa at *
    go_loopw [5] (fun i wr => ∃ k : Nat, i = .int .i64 (k : Int) ∧ Hid (a.take k = b.take k) ∧ Blk wr w.heap.size 47 X ∧ Blk wr (w.heap.size + 1) 47 Y ∧ Below w.heap.size w wr) (fun i _ => 32 - (intOf i).toNat)
    case atStart => exact ⟨0, rfl, rfl, hX0, hY0, hW0⟩
    case round =>
      obtain ⟨k, rfl, HT, hXr, hYr, hb⟩ := hrel
      have hk := Tx.ne_at a b HA.out HB.out HT.out HAB.out
      have hkI : (k : Int) < 32 := by omega
      have hXd := hXr.drew
      have hYd := hYr.drew
      have hbd := hb.drew
      have ca := (hXd.cell k).trans (HAT.out k hk)
      have cb := (hYd.cell k).trans (HBT.out k hk)
      clear hXr hYr hb
      by_cases he : a.getD k 0 = b.getD k 0
      · have HT2 := Lib.hid (Tx.take_at a b (by rw [HA.out]; exact hk) (by rw [HB.out]; exact hk) HT.out he)
        rw [← he] at cb
        clear he
        generalize a.getD k 0 = x at *
        have hxx : ((x.toNat : Int) == (x.toNat : Int)) = true := beq_self_eq_true _
        go_wp2_with fail
        refine still_all (by kernel_rfl) (by kernel_rfl) ?_
        generalize World.drew wr = wd at *
        first | (with_reducible refine wpStill_step (fun K hK => ?_); go_simp; refine hK _ ?_; clear hK K) | (with_reducible refine still_skip ?hw (fun K hK => ?_); (case hw => simp [Region.wanted, yielded, undef]); go_simp; refine hK _ ?_; clear hK K)
        first | (with_reducible refine wpStill_step (fun K hK => ?_); go_simp; refine hK _ ?_; clear hK K) | (with_reducible refine still_skip ?hw (fun K hK => ?_); (case hw => simp [Region.wanted, yielded, undef]); go_simp; refine hK _ ?_; clear hK K)
        first | (with_reducible refine wpStill_step (fun K hK => ?_); go_simp; refine hK _ ?_; clear hK K) | (with_reducible refine still_skip ?hw (fun K hK => ?_); (case hw => simp [Region.wanted, yielded, undef]); go_simp; refine hK _ ?_; clear hK K)
        first | (with_reducible refine wpStill_step (fun K hK => ?_); go_simp; refine hK _ ?_; clear hK K) | (with_reducible refine still_skip ?hw (fun K hK => ?_); (case hw => simp [Region.wanted, yielded, undef]); go_simp; refine hK _ ?_; clear hK K)
        first | (with_reducible refine wpStill_step (fun K hK => ?_); go_simp; refine hK _ ?_; clear hK K) | (with_reducible refine still_skip ?hw (fun K hK => ?_); (case hw => simp [Region.wanted, yielded, undef]); go_simp; refine hK _ ?_; clear hK K)
        first | (with_reducible refine wpStill_step (fun K hK => ?_); go_simp; refine hK _ ?_; clear hK K) | (with_reducible refine still_skip ?hw (fun K hK => ?_); (case hw => simp [Region.wanted, yielded, undef]); go_simp; refine hK _ ?_; clear hK K)
        first | (with_reducible refine wpStill_step (fun K hK => ?_); go_simp; refine hK _ ?_; clear hK K) | (with_reducible refine still_skip ?hw (fun K hK => ?_); (case hw => simp [Region.wanted, yielded, undef]); go_simp; refine hK _ ?_; clear hK K)
        refine wpStill_nil ?_
        go_wp2_with fail
        go_roundw
        case rel => exact ⟨k + 1, by go_num, HT2, hXd, hYd, hbd⟩
        case measure => simp [intOf]; omega
      · have hxx := u8_ne he
        have HL := Lib.hid (Tx.less_at a b (by rw [HA.out]; exact hk) (by rw [HB.out]; exact hk) HT.out he)
        clear he
        generalize a.getD k 0 = x at *
        generalize b.getD k 0 = y at *
        go_wp2_with fail
        refine still_all (by kernel_rfl) (by kernel_rfl) ?_
        generalize World.drew wr = wd at *
        first | (with_reducible refine wpStill_step (fun K hK => ?_); go_simp; refine hK _ ?_; clear hK K) | (with_reducible refine still_skip ?hw (fun K hK => ?_); (case hw => simp [Region.wanted, yielded, undef]); go_simp; refine hK _ ?_; clear hK K)
        first | (with_reducible refine wpStill_step (fun K hK => ?_); go_simp; refine hK _ ?_; clear hK K) | (with_reducible refine still_skip ?hw (fun K hK => ?_); (case hw => simp [Region.wanted, yielded, undef]); go_simp; refine hK _ ?_; clear hK K)
        first | (with_reducible refine wpStill_step (fun K hK => ?_); go_simp; refine hK _ ?_; clear hK K) | (with_reducible refine still_skip ?hw (fun K hK => ?_); (case hw => simp [Region.wanted, yielded, undef]); go_simp; refine hK _ ?_; clear hK K)
        first | (with_reducible refine wpStill_step (fun K hK => ?_); go_simp; refine hK _ ?_; clear hK K) | (with_reducible refine still_skip ?hw (fun K hK => ?_); (case hw => simp [Region.wanted, yielded, undef]); go_simp; refine hK _ ?_; clear hK K)
        first | (with_reducible refine wpStill_step (fun K hK => ?_); go_simp; refine hK _ ?_; clear hK K) | (with_reducible refine still_skip ?hw (fun K hK => ?_); (case hw => simp [Region.wanted, yielded, undef]); go_simp; refine hK _ ?_; clear hK K)
        first | (with_reducible refine wpStill_step (fun K hK => ?_); go_simp; refine hK _ ?_; clear hK K) | (with_reducible refine still_skip ?hw (fun K hK => ?_); (case hw => simp [Region.wanted, yielded, undef]); go_simp; refine hK _ ?_; clear hK K)
        first | (with_reducible refine wpStill_step (fun K hK => ?_); go_simp; refine hK _ ?_; clear hK K) | (with_reducible refine still_skip ?hw (fun K hK => ?_); (case hw => simp [Region.wanted, yielded, undef]); go_simp; refine hK _ ?_; clear hK K)
        refine wpStill_nil ?_
        go_wp2_with fail
        have ca := (World.cell?_drew wd _).trans ca
        have cb := (World.cell?_drew wd _).trans cb
        have hbd := hbd.drew
        refine still_all (by kernel_rfl) (by kernel_rfl) ?_
        generalize World.drew wd = we at *
        first | (with_reducible refine wpStill_step (fun K hK => ?_); go_simp; refine hK _ ?_; clear hK K) | (with_reducible refine still_skip ?hw (fun K hK => ?_); (case hw => simp [Region.wanted, yielded, undef]); go_simp; refine hK _ ?_; clear hK K)
        first | (with_reducible refine wpStill_step (fun K hK => ?_); go_simp; refine hK _ ?_; clear hK K) | (with_reducible refine still_skip ?hw (fun K hK => ?_); (case hw => simp [Region.wanted, yielded, undef]); go_simp; refine hK _ ?_; clear hK K)
        first | (with_reducible refine wpStill_step (fun K hK => ?_); go_simp; refine hK _ ?_; clear hK K) | (with_reducible refine still_skip ?hw (fun K hK => ?_); (case hw => simp [Region.wanted, yielded, undef]); go_simp; refine hK _ ?_; clear hK K)
        first | (with_reducible refine wpStill_step (fun K hK => ?_); go_simp; refine hK _ ?_; clear hK K) | (with_reducible refine still_skip ?hw (fun K hK => ?_); (case hw => simp [Region.wanted, yielded, undef]); go_simp; refine hK _ ?_; clear hK K)
        first | (with_reducible refine wpStill_step (fun K hK => ?_); go_simp; refine hK _ ?_; clear hK K) | (with_reducible refine still_skip ?hw (fun K hK => ?_); (case hw => simp [Region.wanted, yielded, undef]); go_simp; refine hK _ ?_; clear hK K)
        first | (with_reducible refine wpStill_step (fun K hK => ?_); go_simp; refine hK _ ?_; clear hK K) | (with_reducible refine still_skip ?hw (fun K hK => ?_); (case hw => simp [Region.wanted, yielded, undef]); go_simp; refine hK _ ?_; clear hK K)
        first | (with_reducible refine wpStill_step (fun K hK => ?_); go_simp; refine hK _ ?_; clear hK K) | (with_reducible refine still_skip ?hw (fun K hK => ?_); (case hw => simp [Region.wanted, yielded, undef]); go_simp; refine hK _ ?_; clear hK K)
        first | (with_reducible refine wpStill_step (fun K hK => ?_); go_simp; refine hK _ ?_; clear hK K) | (with_reducible refine still_skip ?hw (fun K hK => ?_); (case hw => simp [Region.wanted, yielded, undef]); go_simp; refine hK _ ?_; clear hK K)
        refine wpStill_nil ?_
        go_wp2_with fail
        go_ret
        exact ⟨by rw [HL.out]; first | rfl | (congr 2; simp), hbd⟩

end Go.Proofs.Ytebfocfeehajjaa
