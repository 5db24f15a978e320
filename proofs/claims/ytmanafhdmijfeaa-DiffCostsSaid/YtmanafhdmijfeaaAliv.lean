/- What must come; what the law's cost tells. -/
import Derived.Test.YtmanafhdmijfeaaActs
namespace Go.Proofs.Ytmanafhdmijfeaa
open Go Go.RowKit

def scr4 : List Ed := [⟨1, 1, []⟩, ⟨2, 1, []⟩, ⟨3, 0, [120]⟩, ⟨1, 1, []⟩]
theorem make4 : makeR [97, 98, 99] [97, 120, 99] = (scr4, 0) := by
  unfold makeR
  rw [if_neg (by decide)]
  have h : steps [97, 98, 99] [97, 120, 99] = [(1, []), (2, []), (3, [120]), (1, [])] := by
    rw [steps_keep, steps_cut (by decide) (by simp [Df.dist]), steps_put (by decide) (by simp [Df.dist]), steps_keep, steps]
  unfold scriptS
  rw [h]
  rfl
theorem cost4 : costR scr4 = .tuple #[.int .i64 2, .int .i64 0] := by
  unfold costR
  rw [if_pos (by rfl), show sumC scr4 = 2 from rfl, IntWalk.wrap64_in _ (by omega)]
  rfl
theorem apply4 : resA (applyS [97, 98] [⟨1, 1, []⟩]) = .tuple #[.string (sB []), .int .i64 8] := by rfl
theorem build_kn (k n : Int) (w : World) : (Instr.build 32 #[(0, .int .i64 k), (1, .int .i64 n)]).run Try.prog w = .ok (.agg #[.int .i64 k, .int .i64 n, .string ⟨#[]⟩]) w := run_build w 32 _ _ (by kernel_rfl)
/-- Edits in a new block. -/
theorem rd_new (w : World) (L : List Ed) (t : TypeId) : Rd (w.alloc (.cells (ev L).toArray t)) (w.alloc (.cells (ev L).toArray t)).heap.size (some ⟨w.heap.size, 0, none⟩) (L.length * 3) (ev L) :=
  ⟨ev_length L, fun _ => ⟨_, rfl, by simp, fun j u hu => by
    have h := (Blk.new w t (ev L).toArray).cell j
    have hadd : (⟨w.heap.size, 0, none⟩ : Addr).add j = ⟨w.heap.size, j, none⟩ := by unfold Addr.add; split <;> simp_all
    rw [hadd, h]
    simpa using hu⟩⟩

set_option maxRecDepth 100000 in
set_option maxHeartbeats 2000000 in
theorem alive_any (w : World) : Calls Try.prog 15 #[] w fun e w' => e = .returned (.bool true) ∧ Below w.heap.size w w' := by
  have hm := pmake_any [97, 98, 99] [97, 120, 99] w (by decide) (by decide)
  rw [make4] at hm
  have HM := Lib.hid hm
  have hbk := build_kn 1 1
  clear hm
  go_enter Try.func15, Try.ntmps15
  go_wp2_with fail
  refine HM.out.mono ?_; rintro x w1 ⟨v, rfl, ho, hb1⟩
  obtain ⟨A, c, hv, hc1, hc2, -⟩ := own_form ho
  subst hv
  obtain ⟨q, hq⟩ := own_some ho (by decide)
  subst hq
  have hc := pcost_any (some ⟨q, 0, none⟩) c scr4 w1 (Rd.of_ownK ho) (by decide) ⟨hc1, by simpa [maxLen] using hc2⟩
  rw [cost4] at hc
  have HC := Lib.hid hc
  have HO := Lib.hid ho
  clear hc ho HM hc1 hc2
  go_wp2_with fail
  refine HC.out.mono ?_; rintro x w2 ⟨rfl, hb2⟩
  have hap := papply_any [97, 98] (some ⟨w2.heap.size, 0, none⟩) 1 [⟨1, 1, []⟩] (w2.alloc (.cells #[.int .i64 1, .int .i64 1, .string ⟨#[]⟩] 32)) (rd_new w2 [⟨1, 1, []⟩] 32) (by decide) ⟨by decide, by decide⟩ (by decide) (by decide)
  rw [apply4] at hap
  have HAP := Lib.hid hap
  have HO2 := Lib.hid (own_below HO.out hb2)
  clear hap HC
  go_wp2_with fail
  refine HAP.out.mono ?_; rintro x w3 ⟨rfl, hb3⟩
  have hb23 : Below w2.heap.size w2 w3 := (below_alloc w2 _).trans (hb3.mono (by simp))
  have ho3 := own_below HO2.out hb23
  have p := ho3.cellAt 3 (by decide)
  have p' : w3.cell? ⟨q, 3, none⟩ = some (.int .i64 2) := p.trans rfl
  have HB := Lib.hid (hb1.trans ((hb2.trans (hb23.mono hb2.size)).mono hb1.size))
  clear ho3 p hb3 hb23 HAP HO HO2
  go_wp2_with fail
  go_ret
  exact ⟨rfl, HB.out⟩
end Go.Proofs.Ytmanafhdmijfeaa
