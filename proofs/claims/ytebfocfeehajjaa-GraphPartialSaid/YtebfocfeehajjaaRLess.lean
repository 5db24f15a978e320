/- The contracts of Less, the document's. -/
import Derived.Test.YtebfocfeehajjaaDg
namespace Go.Proofs.Ytebfocfeehajjaa
open Go Go.RowKit

theorem u8_ne {a b : UInt8} (h : ¬ a = b) : ((a.toNat : Int) == (b.toNat : Int)) = false := by
  rw [beq_eq_false_iff_ne]
  exact fun e => h (UInt8.toNat_inj.1 (by omega))
theorem u8_ne' {a b : UInt8} (h : ¬ a = b) : ((a.toNat : Int) != (b.toNat : Int)) = true := by
  rw [bne_iff_ne]
  exact fun e => h (UInt8.toNat_inj.1 (by omega))

set_option maxRecDepth 100000 in
set_option maxHeartbeats 2000000 in
theorem rless_any (a b : List UInt8) (w : World) (ha : a.length = 32) (hb : b.length = 32) :
    Calls Try.prog 50 #[.agg (bv a).toArray, .agg (bv b).toArray] w fun e w' => e = .returned (.bool (Tx.less a b)) ∧ Below w.heap.size w w' := by
  have HA := Lib.hid ha
  have HB := Lib.hid hb
  have HAT := Lib.hid (fun (p : Nat) (h : p < 32) => bv_at a (p := p) (by rw [ha]; exact h))
  have HBT := Lib.hid (fun (p : Nat) (h : p < 32) => bv_at b (p := p) (by rw [hb]; exact h))
  clear ha hb
  obtain ⟨X, hX⟩ : ∃ X, X = (bv a).toArray := ⟨_, rfl⟩
  obtain ⟨Y, hY⟩ : ∃ Y, Y = (bv b).toArray := ⟨_, rfl⟩
  rw [← hX] at HAT ⊢
  rw [← hY] at HBT ⊢
  clear hX hY
  have s1 : (w.alloc (.cells X 47)).heap.size = w.heap.size + 1 := by simp
  have hX0 : Blk ((w.alloc (.cells X 47)).alloc (.cells Y 47)) w.heap.size 47 X := (Blk.new w _ _).alloc _
  have hY0 : Blk ((w.alloc (.cells X 47)).alloc (.cells Y 47)) (w.heap.size + 1) 47 Y := s1 ▸ Blk.new (w.alloc (.cells X 47)) 47 Y
  have hW0 : Below w.heap.size w ((w.alloc (.cells X 47)).alloc (.cells Y 47)) := ((Below.refl _ _).alloc (Nat.le_refl _) _).alloc (by simp) _
  clear s1
  go_enter Try.func50, Try.ntmps50
  go_wp2_with fail
  generalize (w.alloc (.cells X 47)).alloc (.cells Y 47) = wa at *
  go_loopw [5] (fun i wr => ∃ k : Nat, k ≤ 32 ∧ i = .int .i64 (k : Int) ∧ Hid (a.take k = b.take k) ∧ Blk wr w.heap.size 47 X ∧ Blk wr (w.heap.size + 1) 47 Y ∧ Below w.heap.size w wr) (fun i _ => 32 - (intOf i).toNat)
  case atStart => exact ⟨0, Nat.zero_le _, rfl, rfl, hX0, hY0, hW0⟩
  case round =>
    obtain ⟨k, hk32, rfl, HT, hXr, hYr, hb⟩ := hrel
    by_cases hk : k < 32
    · have hkI : (k : Int) < 32 := by omega
      have hXd := hXr.drew
      have hYd := hYr.drew
      have hbd := hb.drew
      have ca := (hXd.cell k).trans (HAT.out k hk)
      have cb := (hYd.cell k).trans (HBT.out k hk)
      clear hXr hYr hb
      by_cases he : a.getD k 0 = b.getD k 0
      · have HT2 := Lib.hid (Tx.take_at a b (by rw [HA.out]; exact hk) (by rw [HB.out]; exact hk) HT.out he)
        rw [← he] at cb
        clear he
        generalize a.getD k 0 = x at *
        have hxx : ((x.toNat : Int) != (x.toNat : Int)) = false := by rw [bne_eq_false_iff_eq]
        go_wp2_with fail
        refine still_all (by kernel_rfl) (by kernel_rfl) ?_
        generalize World.drew wr = wd at *
        first | (with_reducible refine wpStill_step (fun K hK => ?_); go_simp; refine hK _ ?_; clear hK K) | (with_reducible refine still_skip ?hw (fun K hK => ?_); (case hw => simp [Region.wanted, yielded, undef]); go_simp; refine hK _ ?_; clear hK K)
        first | (with_reducible refine wpStill_step (fun K hK => ?_); go_simp; refine hK _ ?_; clear hK K) | (with_reducible refine still_skip ?hw (fun K hK => ?_); (case hw => simp [Region.wanted, yielded, undef]); go_simp; refine hK _ ?_; clear hK K)
        first | (with_reducible refine wpStill_step (fun K hK => ?_); go_simp; refine hK _ ?_; clear hK K) | (with_reducible refine still_skip ?hw (fun K hK => ?_); (case hw => simp [Region.wanted, yielded, undef]); go_simp; refine hK _ ?_; clear hK K)
        first | (with_reducible refine wpStill_step (fun K hK => ?_); go_simp; refine hK _ ?_; clear hK K) | (with_reducible refine still_skip ?hw (fun K hK => ?_); (case hw => simp [Region.wanted, yielded, undef]); go_simp; refine hK _ ?_; clear hK K)
        first | (with_reducible refine wpStill_step (fun K hK => ?_); go_simp; refine hK _ ?_; clear hK K) | (with_reducible refine still_skip ?hw (fun K hK => ?_); (case hw => simp [Region.wanted, yielded, undef]); go_simp; refine hK _ ?_; clear hK K)
        first | (with_reducible refine wpStill_step (fun K hK => ?_); go_simp; refine hK _ ?_; clear hK K) | (with_reducible refine still_skip ?hw (fun K hK => ?_); (case hw => simp [Region.wanted, yielded, undef]); go_simp; refine hK _ ?_; clear hK K)
        first | (with_reducible refine wpStill_step (fun K hK => ?_); go_simp; refine hK _ ?_; clear hK K) | (with_reducible refine still_skip ?hw (fun K hK => ?_); (case hw => simp [Region.wanted, yielded, undef]); go_simp; refine hK _ ?_; clear hK K)
        refine wpStill_nil ?_
        go_wp2_with fail
        go_roundw
        case rel => exact ⟨k + 1, by omega, by go_num, HT2, hXd, hYd, hbd⟩
        case measure => simp [intOf]; omega
      · have hxx := u8_ne' he
        have HL := Lib.hid (Tx.less_at a b (by rw [HA.out]; exact hk) (by rw [HB.out]; exact hk) HT.out he)
        clear he
        generalize a.getD k 0 = x at *
        generalize b.getD k 0 = y at *
        go_wp2_with fail
        refine still_all (by kernel_rfl) (by kernel_rfl) ?_
        generalize World.drew wr = wd at *
        first | (with_reducible refine wpStill_step (fun K hK => ?_); go_simp; refine hK _ ?_; clear hK K) | (with_reducible refine still_skip ?hw (fun K hK => ?_); (case hw => simp [Region.wanted, yielded, undef]); go_simp; refine hK _ ?_; clear hK K)
        first | (with_reducible refine wpStill_step (fun K hK => ?_); go_simp; refine hK _ ?_; clear hK K) | (with_reducible refine still_skip ?hw (fun K hK => ?_); (case hw => simp [Region.wanted, yielded, undef]); go_simp; refine hK _ ?_; clear hK K)
        first | (with_reducible refine wpStill_step (fun K hK => ?_); go_simp; refine hK _ ?_; clear hK K) | (with_reducible refine still_skip ?hw (fun K hK => ?_); (case hw => simp [Region.wanted, yielded, undef]); go_simp; refine hK _ ?_; clear hK K)
        first | (with_reducible refine wpStill_step (fun K hK => ?_); go_simp; refine hK _ ?_; clear hK K) | (with_reducible refine still_skip ?hw (fun K hK => ?_); (case hw => simp [Region.wanted, yielded, undef]); go_simp; refine hK _ ?_; clear hK K)
        first | (with_reducible refine wpStill_step (fun K hK => ?_); go_simp; refine hK _ ?_; clear hK K) | (with_reducible refine still_skip ?hw (fun K hK => ?_); (case hw => simp [Region.wanted, yielded, undef]); go_simp; refine hK _ ?_; clear hK K)
        first | (with_reducible refine wpStill_step (fun K hK => ?_); go_simp; refine hK _ ?_; clear hK K) | (with_reducible refine still_skip ?hw (fun K hK => ?_); (case hw => simp [Region.wanted, yielded, undef]); go_simp; refine hK _ ?_; clear hK K)
        first | (with_reducible refine wpStill_step (fun K hK => ?_); go_simp; refine hK _ ?_; clear hK K) | (with_reducible refine still_skip ?hw (fun K hK => ?_); (case hw => simp [Region.wanted, yielded, undef]); go_simp; refine hK _ ?_; clear hK K)
        refine wpStill_nil ?_
        go_wp2_with fail
        have ca := (World.cell?_drew wd _).trans ca
        have cb := (World.cell?_drew wd _).trans cb
        have hbd := hbd.drew
        refine still_all (by kernel_rfl) (by kernel_rfl) ?_
        generalize World.drew wd = we at *
        first | (with_reducible refine wpStill_step (fun K hK => ?_); go_simp; refine hK _ ?_; clear hK K) | (with_reducible refine still_skip ?hw (fun K hK => ?_); (case hw => simp [Region.wanted, yielded, undef]); go_simp; refine hK _ ?_; clear hK K)
        first | (with_reducible refine wpStill_step (fun K hK => ?_); go_simp; refine hK _ ?_; clear hK K) | (with_reducible refine still_skip ?hw (fun K hK => ?_); (case hw => simp [Region.wanted, yielded, undef]); go_simp; refine hK _ ?_; clear hK K)
        first | (with_reducible refine wpStill_step (fun K hK => ?_); go_simp; refine hK _ ?_; clear hK K) | (with_reducible refine still_skip ?hw (fun K hK => ?_); (case hw => simp [Region.wanted, yielded, undef]); go_simp; refine hK _ ?_; clear hK K)
        first | (with_reducible refine wpStill_step (fun K hK => ?_); go_simp; refine hK _ ?_; clear hK K) | (with_reducible refine still_skip ?hw (fun K hK => ?_); (case hw => simp [Region.wanted, yielded, undef]); go_simp; refine hK _ ?_; clear hK K)
        first | (with_reducible refine wpStill_step (fun K hK => ?_); go_simp; refine hK _ ?_; clear hK K) | (with_reducible refine still_skip ?hw (fun K hK => ?_); (case hw => simp [Region.wanted, yielded, undef]); go_simp; refine hK _ ?_; clear hK K)
        first | (with_reducible refine wpStill_step (fun K hK => ?_); go_simp; refine hK _ ?_; clear hK K) | (with_reducible refine still_skip ?hw (fun K hK => ?_); (case hw => simp [Region.wanted, yielded, undef]); go_simp; refine hK _ ?_; clear hK K)
        first | (with_reducible refine wpStill_step (fun K hK => ?_); go_simp; refine hK _ ?_; clear hK K) | (with_reducible refine still_skip ?hw (fun K hK => ?_); (case hw => simp [Region.wanted, yielded, undef]); go_simp; refine hK _ ?_; clear hK K)
        first | (with_reducible refine wpStill_step (fun K hK => ?_); go_simp; refine hK _ ?_; clear hK K) | (with_reducible refine still_skip ?hw (fun K hK => ?_); (case hw => simp [Region.wanted, yielded, undef]); go_simp; refine hK _ ?_; clear hK K)
        refine wpStill_nil ?_
        go_wp2_with fail
        go_ret
        exact ⟨by rw [HL.out]; first | rfl | (congr 2; simp), hbd⟩
    · obtain rfl : k = 32 := by omega
      have HL := Lib.hid (Tx.less_end a b HA.out HB.out HT.out)
      go_wp2_with fail
      go_ret
      exact ⟨by rw [HL.out]; rfl, hb⟩
end Go.Proofs.Ytebfocfeehajjaa
