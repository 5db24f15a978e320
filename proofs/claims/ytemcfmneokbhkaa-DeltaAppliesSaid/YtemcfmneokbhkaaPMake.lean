/- The program's Make. -/
import Derived.Test.YtemcfmneokbhkaaPLong
namespace Go.Proofs.Ytemcfmneokbhkaa
open Go Go.RowKit

set_option maxRecDepth 100000 in
set_option maxHeartbeats 4000000 in
theorem pmake_any (A1 A2 : Option Addr) (c1 c2 : Nat) (base t : List UInt8) (w : World) (h1 : Rd w w.heap.size A1 base.length (bv base)) (h2 : Rd w w.heap.size A2 t.length (bv t)) (hc1 : base.length ≤ c1 ∧ c1 ≤ 9223372036854775807) (hc2 : t.length ≤ c2 ∧ c2 ≤ 9223372036854775807)
    (hb : base.length ≤ 140737488355328) (ht : t.length ≤ 140737488355328) : Calls Try.prog 11 #[.slice A1 base.length c1, .slice A2 t.length c2] w (OwnBs (Dl.makeD base t).1 (Dl.makeD base t).2 w) := by
  by_cases ha : 4096 < base.length
  · rw [show Dl.makeD base t = ([], 3) from by unfold Dl.makeD; rw [if_pos (.inl ha)]]
    have hd : decide ((4096 : Int) < (base.length : Int)) = true := decide_eq_true (by omega)
    clear ha h1 h2
    go_enter Try.func11, Try.ntmps11
    go_wp2_with fail
    go_ret2
    exact ⟨_, rfl, World.ownsRow_nil w _ _ 1, Below.refl _ _⟩
  by_cases ha2 : 4096 < t.length
  · rw [show Dl.makeD base t = ([], 3) from by unfold Dl.makeD; rw [if_pos (.inr ha2)]]
    have hd0 : decide ((4096 : Int) < (base.length : Int)) = false := decide_eq_false (by omega)
    have hd : decide ((4096 : Int) < (t.length : Int)) = true := decide_eq_true (by omega)
    clear ha ha2 h1 h2
    go_enter Try.func11, Try.ntmps11
    go_wp2_with fail
    go_ret2
    exact ⟨_, rfl, World.ownsRow_nil w _ _ 1, Below.refl _ _⟩
  have hd0 : decide ((4096 : Int) < (base.length : Int)) = false := decide_eq_false (by omega)
  have hd1 : decide ((4096 : Int) < (t.length : Int)) = false := decide_eq_false (by omega)
  have hb' : base.length ≤ 4096 := by omega
  have ht' : t.length ≤ 4096 := by omega
  have HFL := Lib.hid (Dl.makeD_len hb' ht')
  rw [show Dl.makeD base t = (Wi.num base.length ++ (Wi.num t.length ++ Dl.mkGo base [] t), 0) by unfold Dl.makeD; rw [if_neg (by omega)]] at HFL ⊢
  obtain ⟨F, hF⟩ : ∃ F, F = Wi.num base.length ++ (Wi.num t.length ++ Dl.mkGo base [] t) := ⟨_, rfl⟩
  simp only [] at HFL ⊢
  rw [← hF] at HFL ⊢
  have HF := Lib.hid hF
  have HFL2 := Lib.hid (show F.length ≤ 4102 by have := HFL.out; omega)
  have h91 := Wi.num_len_nine (n := base.length) (by omega)
  have h92 := Wi.num_len_nine (n := t.length) (by omega)
  have H1 := Lib.hid h1
  have H2 := Lib.hid h2
  have HC1 := Lib.hid hc1
  have HC2 := Lib.hid hc2
  have HL9 := Lib.hid (⟨h91, h92⟩ : _ ∧ _)
  obtain ⟨wa, hwa⟩ : ∃ y, y = w.alloc (.cells #[.slice none 0 0] 36) := ⟨_, rfl⟩
  have hAl : Below w.heap.size w wa := by rw [hwa]; exact below_alloc w _
  have hX0 : Wr w.heap.size [] (.slice none 0 0) wa := ⟨by rw [hwa]; exact Blk.new w _ _, World.ownsRow_nil wa _ _ 1⟩
  have HC := Lib.hid (number_any w.heap.size [] _ base.length wa hX0 (by simp) (by omega))
  have HAL := Lib.hid hAl
  replace hwa := hwa.symm
  clear ha ha2 h1 h2 hc1 hc2 hF hb ht HFL h91 h92 hAl hX0
  go_enter Try.func11, Try.ntmps11
  go_wp2_with fail
  refine HC.out.mono ?_; rintro e w1 ⟨rfl, v1, hh1⟩
  have HB1 := Lib.hid (HAL.out.trans hh1.hb)
  have HCC := Lib.hid (number_any w.heap.size _ v1 t.length w1 hh1.box (by rw [List.nil_append]; have := HL9.out.1; omega) (by omega))
  clear hwa hh1 HC HAL
  go_wp2_with fail
  refine HCC.out.mono ?_; rintro e w2 ⟨rfl, v2, hh2⟩
  have HB2 := Lib.hid (HB1.out.trans hh2.hb)
  have HX2 := Lib.hid hh2.box
  have HLG := Lib.hid (longest_any base t A1 A2 c1 c2 w2 (H1.out.later HB2.out) (H2.out.later HB2.out) HC1.out HC2.out hb' ht')
  clear hh2 HB1 HCC
  have hmf : ∀ (fn : Fn) (first cap : Array Value) (w : World), (Instr.makeFunc fn first cap).run Try.prog w = .ok (.func fn first cap) w := fun _ _ _ _ => rfl
  go_wp2_with fail
  refine HLG.out.mono ?_; rintro e w3 ⟨M, rfl, hM, hM2, hb3⟩
  have HX3 := Lib.hid (HX2.out.later hb3)
  have HB3 := Lib.hid (HB2.out.trans (hb3.mono HB2.out.size))
  have HCU := Lib.hid (cutUp_any w.heap.size M base t _ F A2 c2 v2 w3 HX3.out (by rw [HF.out]; simp only [List.nil_append, List.append_assoc]) HFL2.out (H2.out.below HB3.out) HC2.out hM (by have := HX2.out.size; omega) ht' hb')
  clear hM hM2 hb3 HX2 HB2 HLG
  go_wp2_with fail
  refine HCU.out.mono ?_; rintro e w4 ⟨rfl, v4, hw4, hb4⟩
  have HB4 := Lib.hid (HB3.out.trans hb4)
  have c4 : w4.cell? ⟨w.heap.size, 0, none⟩ = some v4 := hw4.blk.cell 0
  have HO4 := Lib.hid hw4.own
  obtain ⟨A4, k4, hv4, -, -, -⟩ := own_form hw4.own
  subst hv4
  clear hw4 hb4 hmf
  go_wp2_with fail
  go_ret2
  exact ⟨_, rfl, HO4.out, HB4.out⟩
end Go.Proofs.Ytemcfmneokbhkaa
