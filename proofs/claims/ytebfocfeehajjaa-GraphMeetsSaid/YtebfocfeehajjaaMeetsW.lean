/- GraphMeets: the walk. -/
import Derived.Test.YtebfocfeehajjaaGmL
namespace Go.Proofs.Ytebfocfeehajjaa
open Go Go.RowKit

theorem meets_math {l : List Nod} {a b c : List (List UInt8)} (h : (chk l).2 = 0) (ha : ∀ s ∈ a, s ∈ Gr.idsOf l) (hb : ∀ s ∈ b, s ∈ Gr.idsOf l) (hc : ∀ s ∈ c, s ∈ Gr.idsOf l) :
    (∀ s ∈ Gr.commonL Tx.less l a b, s ∈ Gr.idsOf l) ∧ Gr.withinB Tx.less l (Gr.commonL Tx.less l a b) a = true ∧ Gr.withinB Tx.less l (Gr.commonL Tx.less l a b) b = true ∧
      Gr.withinB Tx.less l c (Gr.commonL Tx.less l a b) = (Gr.withinB Tx.less l c a && Gr.withinB Tx.less l c b) := by
  have hl := (chk_gr h).2.2.2.2
  obtain ⟨h1, h2⟩ := Gr.rch_common Tx.less hl ha hb
  refine ⟨h1, (Gr.within_rch Tx.less hl ha).2 (fun d hd => ((h2 d).1 (.base hd)).1), (Gr.within_rch Tx.less hl hb).2 (fun d hd => ((h2 d).1 (.base hd)).2), ?_⟩
  rw [Bool.eq_iff_iff, Bool.and_eq_true, Gr.within_rch Tx.less hl h1, Gr.within_rch Tx.less hl ha, Gr.within_rch Tx.less hl hb]
  exact ⟨fun h => ⟨fun d hd => ((h2 d).1 (h d hd)).1, fun d hd => ((h2 d).1 (h d hd)).2⟩, fun h d hd => (h2 d).2 ⟨h.1 d hd, h.2 d hd⟩⟩

set_option maxRecDepth 100000 in
set_option maxHeartbeats 4000000 in
theorem meets_walk (ll : List (Nod × Option Addr × Nat)) (A0 : Option Addr) (c0 : Nat) (q0 q1 q2 : Qst) (w : World) (hN : NIn w ll) (hR : Rd w w.heap.size A0 (ll.length * 33) (rows nC ll)) (hl : ll.length * 56 ≤ 140737488351232) (h0 : QIn w [q0]) (h1 : QIn w [q1]) (h2 : QIn w [q2]) :
    Calls Try.prog 10 #[.slice A0 ll.length c0, .agg #[qv q0, qv q1, qv q2]] w fun e w' => e = .returned (.bool true) ∧ Below w.heap.size w w' := by
  obtain ⟨wa, hwa⟩ : ∃ y, y = w.alloc (.cells #[qv q0, qv q1, qv q2] 43) := ⟨_, rfl⟩
  have hba : Below w.heap.size w wa := by rw [hwa]; exact below_alloc w _
  have HL := Lib.hid (show Law3 ll A0 q0 q1 q2 w.heap.size wa from ⟨hN.later hba, hR.later hba, by rw [hwa]; exact Blk.new w _ _, h0.later hba, h1.later hba, h2.later hba⟩)
  have HBA := Lib.hid hba
  have H32 := Lib.hid (ids32 hN)
  clear hN hR h0 h1 h2 hba
  obtain ⟨La, Aa, ca⟩ := q0
  obtain ⟨Lb, Ab, cb⟩ := q1
  obtain ⟨Lc, Ac, cc⟩ := q2
  simp only [qv] at hwa ⊢
  have k0 : wa.cell? ⟨w.heap.size, 0, none⟩ = some (.slice Aa La.length ca) := HL.out.box.cell 0
  have k1 : wa.cell? ⟨w.heap.size, 1, none⟩ = some (.slice Ab Lb.length cb) := HL.out.box.cell 1
  have C1 := Lib.hid (api_common ll A0 c0 wa.heap.size wa HL.out.nin HL.out.rd (Nat.le_refl _) hl La Aa ca Lb Ab cb (q_two HL.out.i0 HL.out.i1))
  obtain ⟨e1, he1⟩ : ∃ e, e = askE (nsOf ll) [La, Lb] := ⟨_, rfl⟩
  obtain ⟨e2, he2⟩ : ∃ e, e = askE (nsOf ll) [Lc, La] := ⟨_, rfl⟩
  obtain ⟨e3, he3⟩ : ∃ e, e = askE (nsOf ll) [Lc, Lb] := ⟨_, rfl⟩
  obtain ⟨b2, hb2⟩ : ∃ e, e = Gr.withinB Tx.less (nsOf ll) Lc La := ⟨_, rfl⟩
  obtain ⟨b3, hb3⟩ : ∃ e, e = Gr.withinB Tx.less (nsOf ll) Lc Lb := ⟨_, rfl⟩
  obtain ⟨R, hRR⟩ : ∃ e, e = Gr.commonL Tx.less (nsOf ll) La Lb := ⟨_, rfl⟩
  rw [← he1, ← hRR] at C1
  have HE := Lib.hid (And.intro he1 (And.intro he2 he3))
  have HBB := Lib.hid (And.intro hb2 (And.intro hb3 hRR))
  replace hwa := hwa.symm
  clear he1 he2 he3 hb2 hb3 hRR
  go_enter Try.func10, Try.ntmps10
  go_wp2_with (rw [hwa])
  refine C1.out.mono ?_; intro e w1 ho; obtain ⟨AR, cR, rfl, hr, hrl, hb⟩ := lst_uni ho
  obtain ⟨V, hV⟩ : ∃ V, V = ans e1 R := ⟨_, rfl⟩
  rw [← hV] at hr hrl ⊢
  have HV := Lib.hid hV
  have HR1 := Lib.hid hr
  have HL1 := Lib.hid (HL.out.later hb)
  have HB1 := Lib.hid (HBA.out.trans (hb.mono HBA.out.size))
  have C2 := Lib.hid (api_within ll A0 c0 w1.heap.size w1 HL1.out.nin HL1.out.rd (Nat.le_refl _) hl Lc Ac cc La Aa ca (q_two HL1.out.i2 HL1.out.i0))
  rw [← HE.out.2.1, ← HBB.out.1] at C2
  have k0 : w1.cell? ⟨w.heap.size, 0, none⟩ = some (.slice Aa La.length ca) := HL1.out.box.cell 0
  have k2 : w1.cell? ⟨w.heap.size, 2, none⟩ = some (.slice Ac Lc.length cc) := HL1.out.box.cell 2
  clear ho hr hb k1 C1 hV HL
  go_wp2_with fail
  refine C2.out.mono ?_; intro e w2 ho; obtain ⟨rfl, hb⟩ := bol_uni ho
  have HR2 := Lib.hid (HR1.out.later hb)
  have HL2 := Lib.hid (HL1.out.later hb)
  have HB2 := Lib.hid (HB1.out.trans (hb.mono HB1.out.size))
  have C3 := Lib.hid (api_within ll A0 c0 w2.heap.size w2 HL2.out.nin HL2.out.rd (Nat.le_refl _) hl Lc Ac cc Lb Ab cb (q_two HL2.out.i2 HL2.out.i1))
  rw [← HE.out.2.2, ← HBB.out.2.1] at C3
  have k1 : w2.cell? ⟨w.heap.size, 1, none⟩ = some (.slice Ab Lb.length cb) := HL2.out.box.cell 1
  have k2 : w2.cell? ⟨w.heap.size, 2, none⟩ = some (.slice Ac Lc.length cc) := HL2.out.box.cell 2
  clear ho hb k0 C2 HL1 HR1
  go_wp2_with fail
  refine C3.out.mono ?_; intro e w3 ho; obtain ⟨rfl, hb⟩ := bol_uni ho
  have HR3 := Lib.hid (HR2.out.later hb)
  have HL3 := Lib.hid (HL2.out.later hb)
  have HB3 := Lib.hid (HB2.out.trans (hb.mono HB2.out.size))
  clear ho hb k1 k2 C3 HL2 HR2
  have HA := Lib.hid (fun u : World => alive_any u)
  by_cases hz : e1 = 0 ∧ e2 = 0 ∧ e3 = 0
  · obtain ⟨rfl, rfl, rfl⟩ := hz
    obtain ⟨x1, x2, x3⟩ := askE_two_in HE.out.1.symm
    obtain ⟨-, x4, -⟩ := askE_two_in HE.out.2.1.symm
    obtain ⟨m1, m2, m3, m4⟩ := meets_math x1 x2 x3 x4
    have hVR : V = R := HV.out
    subst hVR
    rw [← HBB.out.2.2] at m1 m2 m3 m4
    rw [← HBB.out.1, ← HBB.out.2.1] at m4
    have k0 : w3.cell? ⟨w.heap.size, 0, none⟩ = some (.slice Aa La.length ca) := HL3.out.box.cell 0
    have hqV := ans_in cR HR3.out hrl (fun s hs => H32.out s (m1 s hs))
    have C4 := Lib.hid (api_within ll A0 c0 w3.heap.size w3 HL3.out.nin HL3.out.rd (Nat.le_refl _) hl V AR cR La Aa ca (q_two hqV HL3.out.i0))
    rw [askE_two x1 m1 x2, m2] at C4
    have hd : decide ((0 : Nat) = 0) = true := rfl
    have M := Lib.hid (And.intro x1 (And.intro x2 (And.intro x3 (And.intro x4 (And.intro m1 (And.intro m3 m4))))))
    clear x1 x2 x3 x4 m1 m2 m3 m4 hqV HV
    simp only [decide_true, Bool.true_and]
    have hcz : ((↑(0 : Nat) : Int) != 0) = false := rfl
    go_wp2_with fail
    refine C4.out.mono ?_; intro e w4 ho; obtain ⟨rfl, hb⟩ := bol_uni ho
    simp only [decide_true, Bool.true_and]
    have HR4 := Lib.hid (HR3.out.later hb)
    have HL4 := Lib.hid (HL3.out.later hb)
    have HB4 := Lib.hid (HB3.out.trans (hb.mono HB3.out.size))
    have k1 : w4.cell? ⟨w.heap.size, 1, none⟩ = some (.slice Ab Lb.length cb) := HL4.out.box.cell 1
    have hqV := ans_in cR HR4.out hrl (fun s hs => H32.out s (M.out.2.2.2.2.1 s hs))
    have C5 := Lib.hid (api_within ll A0 c0 w4.heap.size w4 HL4.out.nin HL4.out.rd (Nat.le_refl _) hl V AR cR Lb Ab cb (q_two hqV HL4.out.i1))
    rw [askE_two M.out.1 M.out.2.2.2.2.1 M.out.2.2.1, M.out.2.2.2.2.2.1] at C5
    clear ho hb k0 C4 HL3 HR3 hqV
    go_wp2_with fail
    refine C5.out.mono ?_; intro e w5 ho; obtain ⟨rfl, hb⟩ := bol_uni ho
    simp only [decide_true, Bool.true_and]
    have HR5 := Lib.hid (HR4.out.later hb)
    have HL5 := Lib.hid (HL4.out.later hb)
    have HB5 := Lib.hid (HB4.out.trans (hb.mono HB4.out.size))
    have k2 : w5.cell? ⟨w.heap.size, 2, none⟩ = some (.slice Ac Lc.length cc) := HL5.out.box.cell 2
    have hqV := ans_in cR HR5.out hrl (fun s hs => H32.out s (M.out.2.2.2.2.1 s hs))
    have C6 := Lib.hid (api_within ll A0 c0 w5.heap.size w5 HL5.out.nin HL5.out.rd (Nat.le_refl _) hl Lc Ac cc V AR cR (q_two HL5.out.i2 hqV))
    rw [askE_two M.out.1 M.out.2.2.2.1 M.out.2.2.2.2.1, M.out.2.2.2.2.2.2] at C6
    clear ho hb k1 C5 HL4 HR4 hqV
    go_wp2_with fail
    refine C6.out.mono ?_; intro e w6 ho; obtain ⟨rfl, hb⟩ := bol_uni ho
    simp only [decide_true, Bool.true_and]
    have HB6 := Lib.hid (HB5.out.trans (hb.mono HB5.out.size))
    clear ho hb k2 C6 HL5 HR5
    clear HBB M HE
    cases b2 <;> cases b3 <;> (
      go_wp2_with fail
      refine (HA.out _).mono ?_; rintro e w7 ⟨rfl, hb⟩
      go_wp2_with fail
      go_ret
      exact ⟨rfl, HB6.out.trans (hb.mono HB6.out.size)⟩)
  · have hz' : e1 ≠ 0 ∨ (e1 = 0 ∧ e2 ≠ 0) ∨ (e1 = 0 ∧ e2 = 0 ∧ e3 ≠ 0) := by omega
    have hcz : ((↑(0 : Nat) : Int) != 0) = false := rfl
    rcases hz' with h | ⟨rfl, h⟩ | ⟨rfl, rfl, h⟩ <;> (
      have hn := bne_zero h
      clear hz HE HBB HV
      go_wp2_with fail
      refine (HA.out _).mono ?_; rintro e w7 ⟨rfl, hb⟩
      go_wp2_with fail
      go_ret
      exact ⟨rfl, HB3.out.trans (hb.mono HB3.out.size)⟩)
end Go.Proofs.Ytebfocfeehajjaa
