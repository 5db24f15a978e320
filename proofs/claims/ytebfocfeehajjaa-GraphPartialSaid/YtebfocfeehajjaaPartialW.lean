/- GraphPartial: the walk. -/
import Derived.Test.YtebfocfeehajjaaGmL
namespace Go.Proofs.Ytebfocfeehajjaa
open Go Go.RowKit

theorem rch_cases {α : Type} [DecidableEq α] {l : List (Gr.Nd α)} {S : List α} {d : α} (h : Gr.Rch l S d) : d ∈ S ∨ ∃ e, Gr.Rch l S e ∧ d ∈ Gr.psOf l e := by
  cases h with
  | base h => exact .inl h
  | step he hp => exact .inr ⟨_, he, hp⟩
theorem partial_math {l : List Nod} {S T Z : List (List UInt8)} (h : (chk l).2 = 0) (hD : ∀ s ∈ Gr.idsOf l, s.length = 32) (hS : ∀ s ∈ S, s ∈ Gr.idsOf l) (hT : ∀ s ∈ T, s ∈ Gr.idsOf l) (hZ : ∀ s ∈ Z, s ∈ Gr.idsOf l) :
    Gr.withinB Tx.less l S (Gr.headsL Tx.less l S) = true ∧
      (Gr.withinB Tx.less l (Gr.headsL Tx.less l S) (Gr.headsL Tx.less l T) = true → Gr.withinB Tx.less l (Gr.headsL Tx.less l T) (Gr.headsL Tx.less l Z) = true → Gr.withinB Tx.less l (Gr.headsL Tx.less l S) (Gr.headsL Tx.less l Z) = true) ∧
      decide (Gr.headsL Tx.less l S = Gr.headsL Tx.less l T) = (Gr.withinB Tx.less l (Gr.headsL Tx.less l S) (Gr.headsL Tx.less l T) && Gr.withinB Tx.less l (Gr.headsL Tx.less l T) (Gr.headsL Tx.less l S)) := by
  have hl := (chk_gr h).2.2.2.2
  have iS := fun s hs => hS s (Gr.heads_in Tx.less hl hS s hs)
  have iT := fun s hs => hT s (Gr.heads_in Tx.less hl hT s hs)
  have iZ := fun s hs => hZ s (Gr.heads_in Tx.less hl hZ s hs)
  have key : ∀ {X Y : List (List UInt8)}, (∀ s ∈ X, s ∈ Gr.idsOf l) → (∀ s ∈ Y, s ∈ Gr.idsOf l) → (∀ d ∈ Gr.headsL Tx.less l X, Gr.Rch l (Gr.headsL Tx.less l Y) d) → (∀ d ∈ Gr.headsL Tx.less l Y, Gr.Rch l (Gr.headsL Tx.less l X) d) → ∀ d ∈ Gr.headsL Tx.less l X, d ∈ Gr.headsL Tx.less l Y := by
    intro X Y hX hY h1 h2 d hd
    rcases rch_cases (h1 d hd) with h | ⟨e, he, hp⟩
    · exact h
    · exact absurd hp (((Gr.mem_heads Tx.less hl hX).1 hd).2 e ((Gr.rch_heads Tx.less hl hX).1 (Gr.rch_sub h2 he)))
  refine ⟨(Gr.within_rch Tx.less hl iS).2 (fun d hd => (Gr.rch_heads Tx.less hl hS).2 (.base hd)), fun h1 h2 => ?_, ?_⟩
  · rw [Gr.within_rch Tx.less hl iT] at h1
    rw [Gr.within_rch Tx.less hl iZ] at h2 ⊢
    exact fun d hd => Gr.rch_sub h2 (h1 d hd)
  · rw [Bool.eq_iff_iff, decide_eq_true_iff, Bool.and_eq_true, Gr.within_rch Tx.less hl iT, Gr.within_rch Tx.less hl iS]
    constructor
    · intro e
      rw [e]
      exact ⟨fun d hd => .base hd, fun d hd => .base hd⟩
    · rintro ⟨h1, h2⟩
      exact So.up_uniq Tx.less Tx.less_self Tx.less_trans _ _ (heads_up hD hS) (heads_up hD hT) fun d => ⟨key hS hT h1 h2 d, key hT hS h2 h1 d⟩

set_option maxRecDepth 100000 in
set_option maxHeartbeats 8000000 in
theorem partial_walk (ll : List (Nod × Option Addr × Nat)) (A0 : Option Addr) (c0 : Nat) (q0 q1 q2 : Qst) (w : World) (hN : NIn w ll) (hR : Rd w w.heap.size A0 (ll.length * 33) (rows nC ll)) (hl : ll.length * 56 ≤ 140737488351232) (h0 : QIn w [q0]) (h1 : QIn w [q1]) (h2 : QIn w [q2]) :
    Calls Try.prog 9 #[.slice A0 ll.length c0, .agg #[qv q0, qv q1, qv q2]] w fun e w' => e = .returned (.bool true) ∧ Below w.heap.size w w' := by
  obtain ⟨wa, hwa⟩ : ∃ y, y = w.alloc (.cells #[qv q0, qv q1, qv q2] 43) := ⟨_, rfl⟩
  have hba : Below w.heap.size w wa := by rw [hwa]; exact below_alloc w _
  have HL := Lib.hid (show Law3 ll A0 q0 q1 q2 w.heap.size wa from ⟨hN.later hba, hR.later hba, by rw [hwa]; exact Blk.new w _ _, h0.later hba, h1.later hba, h2.later hba⟩)
  have HBA := Lib.hid hba
  have H32 := Lib.hid (ids32 hN)
  clear hN hR h0 h1 h2 hba
  obtain ⟨La, Aa, ca⟩ := q0
  obtain ⟨Lb, Ab, cb⟩ := q1
  obtain ⟨Lc, Ac, cc⟩ := q2
  simp only [qv] at hwa ⊢
  obtain ⟨e1, he1⟩ : ∃ e, e = askE (nsOf ll) [La] := ⟨_, rfl⟩
  obtain ⟨e2, he2⟩ : ∃ e, e = askE (nsOf ll) [Lb] := ⟨_, rfl⟩
  obtain ⟨e3, he3⟩ : ∃ e, e = askE (nsOf ll) [Lc] := ⟨_, rfl⟩
  obtain ⟨Ra, hRa⟩ : ∃ e, e = Gr.headsL Tx.less (nsOf ll) La := ⟨_, rfl⟩
  obtain ⟨Rb, hRb⟩ : ∃ e, e = Gr.headsL Tx.less (nsOf ll) Lb := ⟨_, rfl⟩
  obtain ⟨Rc, hRc⟩ : ∃ e, e = Gr.headsL Tx.less (nsOf ll) Lc := ⟨_, rfl⟩
  have HE := Lib.hid (And.intro he1 (And.intro he2 he3))
  have HRR := Lib.hid (And.intro hRa (And.intro hRb hRc))
  have k0 : wa.cell? ⟨w.heap.size, 0, none⟩ = some (.slice Aa La.length ca) := HL.out.box.cell 0
  have C1 := Lib.hid (api_heads ll A0 c0 wa.heap.size wa HL.out.nin HL.out.rd (Nat.le_refl _) hl La Aa ca HL.out.i0)
  rw [← he1, ← hRa] at C1
  replace hwa := hwa.symm
  clear he1 he2 he3 hRa hRb hRc
  go_enter Try.func9, Try.ntmps9
  go_wp2_with (rw [hwa])
  refine C1.out.mono ?_; intro e w1 ho; obtain ⟨Xa, xa, rfl, hr, hrl1, hb⟩ := lst_uni ho
  obtain ⟨Va, hV⟩ : ∃ V, V = ans e1 Ra := ⟨_, rfl⟩
  rw [← hV] at hr hrl1 ⊢
  have HVa := Lib.hid hV
  have HRa := Lib.hid hr
  have HL := Lib.hid (HL.out.later hb)
  have HBA := Lib.hid (HBA.out.trans (hb.mono HBA.out.size))
  have k0 : w1.cell? ⟨w.heap.size, 1, none⟩ = some (.slice Ab Lb.length cb) := HL.out.box.cell 1
  have C2 := Lib.hid (api_heads ll A0 c0 w1.heap.size w1 HL.out.nin HL.out.rd (Nat.le_refl _) hl Lb Ab cb HL.out.i1)
  rw [← HE.out.2.1, ← HRR.out.2.1] at C2
  clear ho hr hb hV C1
  go_wp2_with fail
  refine C2.out.mono ?_; intro e w2 ho; obtain ⟨Xb, xb, rfl, hr, hrl2, hb⟩ := lst_uni ho
  obtain ⟨Vb, hV⟩ : ∃ V, V = ans e2 Rb := ⟨_, rfl⟩
  rw [← hV] at hr hrl2 ⊢
  have HVb := Lib.hid hV
  have HRb := Lib.hid hr
  have HRa := Lib.hid (HRa.out.later hb)
  have HL := Lib.hid (HL.out.later hb)
  have HBA := Lib.hid (HBA.out.trans (hb.mono HBA.out.size))
  have k0 : w2.cell? ⟨w.heap.size, 2, none⟩ = some (.slice Ac Lc.length cc) := HL.out.box.cell 2
  have C3 := Lib.hid (api_heads ll A0 c0 w2.heap.size w2 HL.out.nin HL.out.rd (Nat.le_refl _) hl Lc Ac cc HL.out.i2)
  rw [← HE.out.2.2, ← HRR.out.2.2] at C3
  clear ho hr hb hV C2
  go_wp2_with fail
  refine C3.out.mono ?_; intro e w3 ho; obtain ⟨Xc, xc, rfl, hr, hrl3, hb⟩ := lst_uni ho
  obtain ⟨Vc, hV⟩ : ∃ V, V = ans e3 Rc := ⟨_, rfl⟩
  rw [← hV] at hr hrl3 ⊢
  have HVc := Lib.hid hV
  have HRc := Lib.hid hr
  have HRa := Lib.hid (HRa.out.later hb)
  have HRb := Lib.hid (HRb.out.later hb)
  have HL := Lib.hid (HL.out.later hb)
  have HBA := Lib.hid (HBA.out.trans (hb.mono HBA.out.size))
  clear ho hr hb hV C3
  have HA := Lib.hid (fun u : World => alive_any u)
  by_cases hz : e1 = 0 ∧ e2 = 0 ∧ e3 = 0
  · obtain ⟨rfl, rfl, rfl⟩ := hz
    obtain ⟨x1, x2⟩ := askE_one_in HE.out.1.symm
    obtain ⟨-, x3⟩ := askE_one_in HE.out.2.1.symm
    obtain ⟨-, x4⟩ := askE_one_in HE.out.2.2.symm
    obtain ⟨m1, m2, m3⟩ := partial_math x1 H32.out x2 x3 x4
    have hok := (chk_gr x1).2.2.2.2
    have i1 : ∀ s ∈ Ra, s ∈ Gr.idsOf (nsOf ll) := by rw [HRR.out.1]; exact fun s hs => x2 s (Gr.heads_in Tx.less hok x2 s hs)
    have i2 : ∀ s ∈ Rb, s ∈ Gr.idsOf (nsOf ll) := by rw [HRR.out.2.1]; exact fun s hs => x3 s (Gr.heads_in Tx.less hok x3 s hs)
    have i3 : ∀ s ∈ Rc, s ∈ Gr.idsOf (nsOf ll) := by rw [HRR.out.2.2]; exact fun s hs => x4 s (Gr.heads_in Tx.less hok x4 s hs)
    rw [← HRR.out.1, ← HRR.out.2.1] at m2 m3
    rw [← HRR.out.2.2] at m2
    rw [← HRR.out.1] at m1
    have hVa : Va = Ra := HVa.out
    have hVb : Vb = Rb := HVb.out
    have hVc : Vc = Rc := HVc.out
    subst hVa
    subst hVb
    subst hVc
    obtain ⟨ab, hab⟩ : ∃ e, e = Gr.withinB Tx.less (nsOf ll) Va Vb := ⟨_, rfl⟩
    obtain ⟨ba, hbaa⟩ : ∃ e, e = Gr.withinB Tx.less (nsOf ll) Vb Va := ⟨_, rfl⟩
    obtain ⟨bc, hbc⟩ : ∃ e, e = Gr.withinB Tx.less (nsOf ll) Vb Vc := ⟨_, rfl⟩
    obtain ⟨ac, hac⟩ : ∃ e, e = Gr.withinB Tx.less (nsOf ll) Va Vc := ⟨_, rfl⟩
    rw [← hab, ← hbc, ← hac] at m2
    rw [← hab, ← hbaa] at m3
    have hqa := fun (u : World) (h : Rd u u.heap.size Xa (Va.length * 32) (rows bv Va)) => ans_in xa h hrl1 (fun s hs => H32.out s (i1 s hs))
    have hqb := fun (u : World) (h : Rd u u.heap.size Xb (Vb.length * 32) (rows bv Vb)) => ans_in xb h hrl2 (fun s hs => H32.out s (i2 s hs))
    have hqc := fun (u : World) (h : Rd u u.heap.size Xc (Vc.length * 32) (rows bv Vc)) => ans_in xc h hrl3 (fun s hs => H32.out s (i3 s hs))
    have HQ := Lib.hid (And.intro hqa (And.intro hqb hqc))
    have da : ∀ s ∈ Va, s.length = 32 := fun s hs => H32.out s (i1 s hs)
    have db : ∀ s ∈ Vb, s.length = 32 := fun s hs => H32.out s (i2 s hs)
    have E1 := Lib.hid (And.intro (askE_two x1 i1 i2) (And.intro (askE_two x1 i2 i1) (And.intro (askE_two x1 i2 i3) (And.intro (askE_two x1 i1 i3) (askE_two x1 x2 i1)))))
    have HD := Lib.hid (And.intro da db)
    have HW := Lib.hid (And.intro hab (And.intro hbaa (And.intro hbc hac)))
    have M := Lib.hid (And.intro m1 (And.intro m2 m3))
    clear x1 x2 x3 x4 m1 m2 m3 hok i1 i2 i3 hqa hqb hqc da db hab hbaa hbc hac HVa HVb HVc HE HRR
    have hcz : ((↑(0 : Nat) : Int) != 0) = false := rfl
    have C := Lib.hid (api_within ll A0 c0 w3.heap.size w3 HL.out.nin HL.out.rd (Nat.le_refl _) hl Va Xa xa Vb Xb xb (q_two (HQ.out.1 _ HRa.out) (HQ.out.2.1 _ HRb.out)))
    rw [E1.out.1, ← HW.out.1] at C
    go_wp2_with fail
    refine C.out.mono ?_; intro e w4 ho; obtain ⟨rfl, hb⟩ := bol_uni ho
    simp only [decide_true, Bool.true_and]
    have HRa := Lib.hid (HRa.out.later hb)
    have HRb := Lib.hid (HRb.out.later hb)
    have HRc := Lib.hid (HRc.out.later hb)
    have HL := Lib.hid (HL.out.later hb)
    have HBA := Lib.hid (HBA.out.trans (hb.mono HBA.out.size))
    clear ho hb C
    have C := Lib.hid (api_within ll A0 c0 w4.heap.size w4 HL.out.nin HL.out.rd (Nat.le_refl _) hl Vb Xb xb Va Xa xa (q_two (HQ.out.2.1 _ HRb.out) (HQ.out.1 _ HRa.out)))
    rw [E1.out.2.1, ← HW.out.2.1] at C
    go_wp2_with fail
    refine C.out.mono ?_; intro e w5 ho; obtain ⟨rfl, hb⟩ := bol_uni ho
    simp only [decide_true, Bool.true_and]
    have HRa := Lib.hid (HRa.out.later hb)
    have HRb := Lib.hid (HRb.out.later hb)
    have HRc := Lib.hid (HRc.out.later hb)
    have HL := Lib.hid (HL.out.later hb)
    have HBA := Lib.hid (HBA.out.trans (hb.mono HBA.out.size))
    clear ho hb C
    have C := Lib.hid (api_within ll A0 c0 w5.heap.size w5 HL.out.nin HL.out.rd (Nat.le_refl _) hl Vb Xb xb Vc Xc xc (q_two (HQ.out.2.1 _ HRb.out) (HQ.out.2.2 _ HRc.out)))
    rw [E1.out.2.2.1, ← HW.out.2.2.1] at C
    go_wp2_with fail
    refine C.out.mono ?_; intro e w6 ho; obtain ⟨rfl, hb⟩ := bol_uni ho
    simp only [decide_true, Bool.true_and]
    have HRa := Lib.hid (HRa.out.later hb)
    have HRb := Lib.hid (HRb.out.later hb)
    have HRc := Lib.hid (HRc.out.later hb)
    have HL := Lib.hid (HL.out.later hb)
    have HBA := Lib.hid (HBA.out.trans (hb.mono HBA.out.size))
    clear ho hb C
    have C := Lib.hid (api_within ll A0 c0 w6.heap.size w6 HL.out.nin HL.out.rd (Nat.le_refl _) hl Va Xa xa Vc Xc xc (q_two (HQ.out.1 _ HRa.out) (HQ.out.2.2 _ HRc.out)))
    rw [E1.out.2.2.2.1, ← HW.out.2.2.2] at C
    go_wp2_with fail
    refine C.out.mono ?_; intro e w7 ho; obtain ⟨rfl, hb⟩ := bol_uni ho
    simp only [decide_true, Bool.true_and]
    have HRa := Lib.hid (HRa.out.later hb)
    have HRb := Lib.hid (HRb.out.later hb)
    have HRc := Lib.hid (HRc.out.later hb)
    have HL := Lib.hid (HL.out.later hb)
    have HBA := Lib.hid (HBA.out.trans (hb.mono HBA.out.size))
    clear ho hb C
    have k0 : w7.cell? ⟨w.heap.size, 0, none⟩ = some (.slice Aa La.length ca) := HL.out.box.cell 0
    have C := Lib.hid (api_within ll A0 c0 w7.heap.size w7 HL.out.nin HL.out.rd (Nat.le_refl _) hl La Aa ca Va Xa xa (q_two HL.out.i0 (HQ.out.1 _ HRa.out)))
    rw [E1.out.2.2.2.2, M.out.1] at C
    go_wp2_with fail
    refine C.out.mono ?_; intro e w8 ho; obtain ⟨rfl, hb⟩ := bol_uni ho
    simp only [decide_true, Bool.true_and]
    have HRa := Lib.hid (HRa.out.later hb)
    have HRb := Lib.hid (HRb.out.later hb)
    have HRc := Lib.hid (HRc.out.later hb)
    have HL := Lib.hid (HL.out.later hb)
    have HBA := Lib.hid (HBA.out.trans (hb.mono HBA.out.size))
    clear ho hb C
    have S := Lib.hid (rsame_digs Xa Xb xa xb Va Vb _ _ w8 HRa.out (Nat.le_refl _) HRb.out (Nat.le_refl _) (by omega) HD.out.1 HD.out.2)
    rw [M.out.2.2] at S
    have htr := M.out.2.1
    clear M HW E1 HQ HD HL HRa HRb HRc
    cases ab <;> cases ba <;> cases bc <;> cases ac <;> first
      | (exact absurd (htr rfl rfl) (by decide))
      | (clear htr
         go_wp2_with fail
         refine S.out.mono ?_; rintro e w9 ⟨rfl, hb⟩
         have HB9 := Lib.hid (HBA.out.trans (hb.mono HBA.out.size))
         clear hb S
         go_wp2_with fail
         refine (HA.out _).mono ?_; rintro e wx ⟨rfl, hb⟩
         go_wp2_with fail
         go_ret
         exact ⟨rfl, HB9.out.trans (hb.mono HB9.out.size)⟩)
  · have hz' : e1 ≠ 0 ∨ (e1 = 0 ∧ e2 ≠ 0) ∨ (e1 = 0 ∧ e2 = 0 ∧ e3 ≠ 0) := by omega
    have hcz : ((↑(0 : Nat) : Int) != 0) = false := rfl
    rcases hz' with h | ⟨rfl, h⟩ | ⟨rfl, rfl, h⟩ <;> (
      have hn := bne_zero h
      clear hz HE HRR HVa HVb HVc
      go_wp2_with fail
      refine (HA.out _).mono ?_; rintro e w7 ⟨rfl, hb⟩
      go_wp2_with fail
      go_ret
      exact ⟨rfl, HBA.out.trans (hb.mono HBA.out.size)⟩)
end Go.Proofs.Ytebfocfeehajjaa
