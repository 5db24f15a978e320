/- The program's goAlong, with Make's literal. -/
import Derived.Test.YtmanafhdmijfeaaPRun
namespace Go.Proofs.Ytmanafhdmijfeaa
open Go Go.RowKit

set_option maxRecDepth 100000 in
set_option maxHeartbeats 8000000 in
theorem along_any (a b : List UInt8) (ha : a.length ≤ 1000) (hb : b.length ≤ 1000) (B T : Nat) (v : Value) (w : World) (hX : Boxed B [] T v w) (hT : T ≤ w.heap.size) :
    Calls Try.prog 23 #[.string (sB a), .string (sB b), .func (.func 24) #[] #[.pointer (some ⟨B, 0, none⟩)]] w fun e w' => e = .returned (.tuple #[]) ∧ Below B w w' ∧ ∃ v' T', Boxed B (scriptS a b) T' v' w' := by
  have hmf : ∀ (fn : Fn) (first cap : Array Value) (w : World), (Instr.makeFunc fn first cap).run Try.prog w = .ok (.func fn first cap) w := fun _ _ _ _ => rfl
  have hsa := sB_size a
  have hsb := sB_size b
  obtain ⟨w2, hw2⟩ : ∃ y, y = (w.alloc (.cells #[.string (sB a)] 9)).alloc (.cells #[.string (sB b)] 9) := ⟨_, rfl⟩
  have HA2 := Lib.hid (show Blk w2 w.heap.size 9 #[.string (sB a)] by rw [hw2]; exact (Blk.new w _ _).alloc _)
  have HB2 := Lib.hid (show Blk w2 (w.heap.size + 1) 9 #[.string (sB b)] by rw [hw2]; have := Blk.new (w.alloc (.cells #[.string (sB a)] 9)) 9 #[.string (sB b)]; simpa using this)
  have HBW2 := Lib.hid (show Below w.heap.size w w2 by rw [hw2]; exact (below_alloc w _).alloc (by simp) _)
  have a2 := HA2.out.cell 0
  have b2 := HB2.out.cell 0
  have HC := Lib.hid (costs_any a b ha hb w2)
  have HX := Lib.hid hX
  simp only [List.getElem?_toArray, List.getElem?_cons_zero] at a2 b2
  replace hw2 := hw2.symm
  clear hX
  go_enter Try.func23, Try.ntmps23
  go_wp2_with fail
  refine HC.out.mono ?_; rintro e w3 ⟨R, G, rfl, hC3, hb3⟩
  have HC3 := Lib.hid hC3
  have HBW3 := Lib.hid (HBW2.out.trans (hb3.mono HBW2.out.size))
  have hA3 := HA2.out.later hb3
  have hB3 := HB2.out.later hb3
  clear hC3 a2 b2 hw2 hb3
  go_wp2_with fail
  obtain ⟨w6, hw6⟩ : ∃ y, y = ((w3.alloc (.cells #[.slice (some ⟨R, 0, none⟩) (a.length + 1) (a.length + 1)] 52)).alloc (.cells #[.int .i64 0] 3)).alloc (.cells #[.int .i64 0] 3) := ⟨_, rfl⟩
  have hb36 : Below w3.heap.size w3 w6 := by rw [hw6]; exact ((below_alloc w3 _).alloc (by simp) _).alloc (by simp; omega) _
  have hc6 : Blk w6 w3.heap.size 52 #[.slice (some ⟨R, 0, none⟩) (a.length + 1) (a.length + 1)] := by rw [hw6]; exact ((Blk.new w3 _ _).alloc _).alloc _
  have hi6 : Blk w6 (w3.heap.size + 1) 3 #[.int .i64 ((0 : Nat) : Int)] := by
    rw [hw6]
    have := (Blk.new (w3.alloc (.cells #[.slice (some ⟨R, 0, none⟩) (a.length + 1) (a.length + 1)] 52)) 3 #[.int .i64 0]).alloc (.cells #[.int .i64 0] 3)
    simpa using this
  have hj6 : Blk w6 (w3.heap.size + 1 + 1) 3 #[.int .i64 ((0 : Nat) : Int)] := by
    rw [hw6]
    have := Blk.new ((w3.alloc (.cells #[.slice (some ⟨R, 0, none⟩) (a.length + 1) (a.length + 1)] 52)).alloc (.cells #[.int .i64 0] 3)) 3 #[.int .i64 0]
    simpa using this
  have hGl : G < w3.heap.size := by obtain ⟨-, ⟨cs, k1, -⟩⟩ := HC3.out; exact k1.lt
  have HE6 := Lib.hid (Env.mk (hA3.later hb36) (hB3.later hb36) hc6 hi6 hj6 (HC3.out.later hb36) (by omega) (by omega) (by omega))
  have HX6 := Lib.hid (HX.out.later (HBW3.out.trans (hb36.mono HBW3.out.size)))
  have hBw : B ≤ w.heap.size := Nat.le_of_lt HX.out.size
  have HB6 := Lib.hid ((HBW3.out.trans (hb36.mono HBW3.out.size)).mono hBw)
  have hBi0 : B ≤ w3.heap.size + 1 := by have := HBW3.out.size; omega
  have hBj0 : B ≤ w3.heap.size + 1 + 1 := by have := HBW3.out.size; omega
  have hT6 : T ≤ w6.heap.size := by have := HB6.out.size; omega
  rw [← hw6]
  obtain ⟨Bi, hBi⟩ : ∃ y, y = w3.heap.size + 1 := ⟨_, rfl⟩
  obtain ⟨Bj, hBj⟩ : ∃ y, y = w3.heap.size + 1 + 1 := ⟨_, rfl⟩
  obtain ⟨Bc, hBc⟩ : ∃ y, y = w3.heap.size := ⟨_, rfl⟩
  obtain ⟨Ba, hBa⟩ : ∃ y, y = w.heap.size := ⟨_, rfl⟩
  obtain ⟨Bb, hBb⟩ : ∃ y, y = w.heap.size + 1 := ⟨_, rfl⟩
  rw [← hBj] at HE6 hBj0 ⊢
  rw [← hBi] at HE6 hBi0 ⊢
  rw [← hBc] at HE6 ⊢
  rw [← hBb] at HE6 ⊢
  rw [← hBa] at HE6 ⊢
  have HKA := Lib.hid (kind_any a b ha hb R G 0 0 Ba Bb Bc Bi Bj w6 HE6.out (Nat.zero_le _) (Nat.zero_le _))
  clear hBi hBj hBc hBa hBb hA3 hB3 hb36 hc6 hi6 hj6 hGl hw6 HC3 HBW3 HA2 HB2 HBW2 HC HX
  refine HKA.out.mono ?_; rintro e w7 ⟨rfl, hb7⟩
  have HE7 := Lib.hid (HE6.out.later hb7)
  have HX7 := Lib.hid (HX6.out.later hb7)
  have hB6s : B ≤ w6.heap.size := Nat.le_of_lt HX6.out.size
  have HB7 := Lib.hid (HB6.out.trans (hb7.mono hB6s))
  have hT7 : T ≤ w7.heap.size := Nat.le_trans hT6 hb7.size
  clear hb7 HKA HE6 HX6 HB6 hT6
  go_wp2_with fail
  go_loopw [10] (fun nv wr => ∃ (p q T : Nat) (K : List Ed) (v : Value), nv = .int .i64 (kindS a b p q) ∧ RunI a b K (kindS a b p q) p q p q ∧ Env a b R G p q Ba Bb Bc Bi Bj wr ∧ Boxed B K T v wr ∧ T ≤ wr.heap.size ∧ Below B w wr) (fun _ wr => a.length + b.length - posOf Bi Bj wr)
  case atStart => exact ⟨0, 0, T, [], v, rfl, run_begin a b _, HE7.out, HX7.out, hT7, HB7.out⟩
  clear HE7 HX7 HB7 hT7 hT
  case round =>
    obtain ⟨p, q, T, K, v, rfl, hR, hE, hX, hT, hB⟩ := hrel
    have HR := Lib.hid hR
    have HE := Lib.hid hE
    have HX := Lib.hid hX
    have HB := Lib.hid hB
    have hst := step_at a b p q hR.hp hR.hq
    have HPOS := Lib.hid hE.pos
    clear hR hE hX hB
    obtain ⟨kd, hkd⟩ : ∃ k, k = kindS a b p q := ⟨_, rfl⟩
    rw [← hkd] at HR hst ⊢
    have HKD := Lib.hid hkd
    by_cases h0 : kd = 0
    · subst h0
      have HS := Lib.hid (show steps (a.drop p) (b.drop q) = [] by cases hst; assumption)
      clear hst hkd
      have hnz : ((0 : Int) != 0) = false := rfl
      go_wp2_with fail
      go_end0
      exact ⟨rfl, HB.out, v, T, by rw [← run_end HR.out HS.out]; exact HX.out⟩
    · have hnz : (kd != 0) = true := by rw [bne_iff_ne]; exact h0
      clear hst hkd
      have HEd := Lib.hid HE.out.drew
      have HXd := Lib.hid HX.out.drew
      have HBd := Lib.hid HB.out.drew
      have hTd : T ≤ wr.drew.heap.size := hT
      obtain ⟨e0, e1, e2, e3, e4⟩ := HEd.out.cells
      go_wp2_with fail
      refine still_all (by kernel_rfl) (by kernel_rfl) ?_
      generalize World.drew wr = wd at *
      first | (with_reducible refine wpStill_step (fun K hK => ?_); go_simp; refine hK _ ?_; clear hK K) | (with_reducible refine still_skip ?hw (fun K hK => ?_); (case hw => simp [Region.wanted, yielded, undef]); go_simp; refine hK _ ?_; clear hK K)
      first | (with_reducible refine wpStill_step (fun K hK => ?_); go_simp; refine hK _ ?_; clear hK K) | (with_reducible refine still_skip ?hw (fun K hK => ?_); (case hw => simp [Region.wanted, yielded, undef]); go_simp; refine hK _ ?_; clear hK K)
      first | (with_reducible refine wpStill_step (fun K hK => ?_); go_simp; refine hK _ ?_; clear hK K) | (with_reducible refine still_skip ?hw (fun K hK => ?_); (case hw => simp [Region.wanted, yielded, undef]); go_simp; refine hK _ ?_; clear hK K)
      first | (with_reducible refine wpStill_step (fun K hK => ?_); go_simp; refine hK _ ?_; clear hK K) | (with_reducible refine still_skip ?hw (fun K hK => ?_); (case hw => simp [Region.wanted, yielded, undef]); go_simp; refine hK _ ?_; clear hK K)
      refine wpStill_nil ?_
      go_wp2_with fail
      go_loopw [13] (fun nv wr => ∃ (p' q' : Nat), nv = .int .i64 (kindS a b p' q') ∧ RunI a b K kd p q p' q' ∧ Env a b R G p' q' Ba Bb Bc Bi Bj wr ∧ Boxed B K T v wr ∧ T ≤ wr.heap.size ∧ Below B w wr) (fun _ wr => a.length + b.length - posOf Bi Bj wr)
      case atStart => exact ⟨p, q, by rw [← HKD.out], HR.out, HEd.out, HXd.out, hTd, HBd.out⟩
      clear HEd HXd HBd hTd e0 e1 e2 e3 e4 HE HX HB hT
      case round =>
        obtain ⟨p', q', rfl, hR2, hE2, hX2, hT2, hB2⟩ := hrel
        have hst := step_at a b p' q' hR2.hp hR2.hq
        have HR2 := Lib.hid hR2
        have HE2 := Lib.hid hE2
        have HX2 := Lib.hid hX2
        have HB2 := Lib.hid hB2
        clear hR2 hE2 hX2 hB2
        by_cases hn : kindS a b p' q' = kd
        · rw [hn] at hst ⊢
          clear hn
          cases hst with
          | done => exact absurd rfl h0
          | keep hp1 hq1 hst2 =>
            have hpI : (p' : Int) ≤ (a.length : Int) := by have := HR2.out.hp; omega
            have hqI : (q' : Int) ≤ (b.length : Int) := by have := HR2.out.hq; omega
            have hw1 : IntKind.i64.wrap ((p' : Int) + 1) = (p' : Int) + 1 := IntWalk.i64_in _ (by omega)
            have hw2 : IntKind.i64.wrap ((q' : Int) + 1) = (q' : Int) + 1 := IntWalk.i64_in _ (by omega)
            obtain ⟨e0, -, e2, -, -⟩ := HE2.out.cells
            have f0 := HE2.out.ci.frozen 0
            have f2 := HE2.out.cj.frozen 0
            obtain ⟨wa, hwa⟩ : ∃ y, y = wr.setCell ⟨Bi, 0, none⟩ (.int .i64 ((p' : Int) + 1)) := ⟨_, rfl⟩
            have HEa := Lib.hid (show Env a b R G (p' + 1) q' Ba Bb Bc Bi Bj wa by rw [hwa]; exact HE2.out.goI)
            have HXa := Lib.hid (show Boxed B K T v wa by rw [hwa]; exact HX2.out.far HE2.out.ci (by decide) (by decide) _)
            have HBa := Lib.hid (show Below B w wa by rw [hwa]; exact HB2.out.setCell hBi0 _)
            obtain ⟨-, -, g2, -, -⟩ := HEa.out.cells
            have k2 := HEa.out.cj.frozen 0
            obtain ⟨ws, hws⟩ : ∃ y, y = wa.setCell ⟨Bj, 0, none⟩ (.int .i64 ((q' : Int) + 1)) := ⟨_, rfl⟩
            have HEs := Lib.hid (show Env a b R G (p' + 1) (q' + 1) Ba Bb Bc Bi Bj ws by rw [hws]; exact HEa.out.goJ)
            have HXs := Lib.hid (show Boxed B K T v ws by rw [hws]; exact HXa.out.far HEa.out.cj (by decide) (by decide) _)
            have HBs := Lib.hid (show Below B w ws by rw [hws]; exact HBa.out.setCell hBj0 _)
            have hss : ws.heap.size = wr.heap.size := by rw [hws, hwa]; simp [World.setCell]
            replace hwa := hwa.symm
            replace hws := hws.symm
            have HRs := Lib.hid (run_step HR2.out hst2 (by omega) (by omega) (by omega) (by have := HR2.out.hp; omega) (by have := HR2.out.hq; omega) (run_keep HR2.out.hp0 hp1 _))
            have HKS := Lib.hid (kind_any a b ha hb R G _ _ Ba Bb Bc Bi Bj ws HEs.out HRs.out.hp HRs.out.hq)
            have hBs0 : B ≤ ws.heap.size := Nat.le_trans hBw HBs.out.size
            have hTs : T ≤ ws.heap.size := by omega
            have hk1 : ((1 : Int) == 1) = true := rfl
            go_wp2_with fail
            refine HKS.out.mono ?_; rintro e w5 ⟨rfl, hb5⟩
            have HE5 := Lib.hid (HEs.out.later hb5)
            have HX5 := Lib.hid (HXs.out.later hb5)
            have HB5 := Lib.hid (HBs.out.trans (hb5.mono hBs0))
            have hT5 : T ≤ w5.heap.size := Nat.le_trans hTs hb5.size
            clear hb5
            go_wp2_with fail
            go_roundw
            case rel => exact ⟨_, _, rfl, HRs.out, HE5.out, HX5.out, hT5, HB5.out⟩
            case measure =>
              have h1 := HE5.out.pos
              have h2 := HE2.out.pos
              have h3 := HRs.out.hp
              have h4 := HRs.out.hq
              omega
          | cut hp1 hst2 =>
            have hpI : (p' : Int) ≤ (a.length : Int) := by have := HR2.out.hp; omega
            have hqI : (q' : Int) ≤ (b.length : Int) := by have := HR2.out.hq; omega
            have hw1 : IntKind.i64.wrap ((p' : Int) + 1) = (p' : Int) + 1 := IntWalk.i64_in _ (by omega)
            obtain ⟨e0, -, e2, -, -⟩ := HE2.out.cells
            have f0 := HE2.out.ci.frozen 0
            have f2 := HE2.out.cj.frozen 0
            obtain ⟨ws, hws⟩ : ∃ y, y = wr.setCell ⟨Bi, 0, none⟩ (.int .i64 ((p' : Int) + 1)) := ⟨_, rfl⟩
            have HEs := Lib.hid (show Env a b R G (p' + 1) q' Ba Bb Bc Bi Bj ws by rw [hws]; exact HE2.out.goI)
            have HXs := Lib.hid (show Boxed B K T v ws by rw [hws]; exact HX2.out.far HE2.out.ci (by decide) (by decide) _)
            have HBs := Lib.hid (show Below B w ws by rw [hws]; exact HB2.out.setCell hBi0 _)
            have hss : ws.heap.size = wr.heap.size := by rw [hws]; simp [World.setCell]
            replace hws := hws.symm
            have HRs := Lib.hid (run_step HR2.out hst2 (by omega) (by omega) (by omega) (by have := HR2.out.hp; omega) (by have := HR2.out.hq; omega) (run_cut HR2.out.hp0 hp1 _))
            have HKS := Lib.hid (kind_any a b ha hb R G _ _ Ba Bb Bc Bi Bj ws HEs.out HRs.out.hp HRs.out.hq)
            have hBs0 : B ≤ ws.heap.size := Nat.le_trans hBw HBs.out.size
            have hTs : T ≤ ws.heap.size := by omega
            have hk1 : ((2 : Int) == 2) = true := rfl
            go_wp2_with fail
            refine HKS.out.mono ?_; rintro e w5 ⟨rfl, hb5⟩
            have HE5 := Lib.hid (HEs.out.later hb5)
            have HX5 := Lib.hid (HXs.out.later hb5)
            have HB5 := Lib.hid (HBs.out.trans (hb5.mono hBs0))
            have hT5 : T ≤ w5.heap.size := Nat.le_trans hTs hb5.size
            clear hb5
            go_wp2_with fail
            go_roundw
            case rel => exact ⟨_, _, rfl, HRs.out, HE5.out, HX5.out, hT5, HB5.out⟩
            case measure =>
              have h1 := HE5.out.pos
              have h2 := HE2.out.pos
              have h3 := HRs.out.hp
              have h4 := HRs.out.hq
              omega
          | put hq1 hst2 =>
            have hpI : (p' : Int) ≤ (a.length : Int) := by have := HR2.out.hp; omega
            have hqI : (q' : Int) ≤ (b.length : Int) := by have := HR2.out.hq; omega
            have hw2 : IntKind.i64.wrap ((q' : Int) + 1) = (q' : Int) + 1 := IntWalk.i64_in _ (by omega)
            obtain ⟨e0, -, e2, -, -⟩ := HE2.out.cells
            have f0 := HE2.out.ci.frozen 0
            have f2 := HE2.out.cj.frozen 0
            obtain ⟨ws, hws⟩ : ∃ y, y = wr.setCell ⟨Bj, 0, none⟩ (.int .i64 ((q' : Int) + 1)) := ⟨_, rfl⟩
            have HEs := Lib.hid (show Env a b R G p' (q' + 1) Ba Bb Bc Bi Bj ws by rw [hws]; exact HE2.out.goJ)
            have HXs := Lib.hid (show Boxed B K T v ws by rw [hws]; exact HX2.out.far HE2.out.cj (by decide) (by decide) _)
            have HBs := Lib.hid (show Below B w ws by rw [hws]; exact HB2.out.setCell hBj0 _)
            have hss : ws.heap.size = wr.heap.size := by rw [hws]; simp [World.setCell]
            replace hws := hws.symm
            have HRs := Lib.hid (run_step HR2.out hst2 (by omega) (by omega) (by omega) (by have := HR2.out.hp; omega) (by have := HR2.out.hq; omega) (run_put HR2.out.hq0 hq1 _))
            have HKS := Lib.hid (kind_any a b ha hb R G _ _ Ba Bb Bc Bi Bj ws HEs.out HRs.out.hp HRs.out.hq)
            have hBs0 : B ≤ ws.heap.size := Nat.le_trans hBw HBs.out.size
            have hTs : T ≤ ws.heap.size := by omega
            have hk1 : ((3 : Int) == 3) = true := rfl
            go_wp2_with fail
            refine HKS.out.mono ?_; rintro e w5 ⟨rfl, hb5⟩
            have HE5 := Lib.hid (HEs.out.later hb5)
            have HX5 := Lib.hid (HXs.out.later hb5)
            have HB5 := Lib.hid (HBs.out.trans (hb5.mono hBs0))
            have hT5 : T ≤ w5.heap.size := Nat.le_trans hTs hb5.size
            clear hb5
            go_wp2_with fail
            go_roundw
            case rel => exact ⟨_, _, rfl, HRs.out, HE5.out, HX5.out, hT5, HB5.out⟩
            case measure =>
              have h1 := HE5.out.pos
              have h2 := HE2.out.pos
              have h3 := HRs.out.hp
              have h4 := HRs.out.hq
              omega
        · have hlt : p + q < p' + q' := by
            rcases HR2.out.bld with ⟨rfl, rfl, -⟩ | ⟨h, -⟩
            · exact absurd HKD.out.symm hn
            · exact h
          clear hst
          have HNK := Lib.hid (run_next HR2.out hlt hn)
          obtain ⟨n, hnn⟩ : ∃ n, n = kindS a b p' q' := ⟨_, rfl⟩
          rw [← hnn] at hn ⊢
          have HNN := Lib.hid hnn
          have hnb : (n == kd) = false := by rw [beq_eq_false_iff_ne]; exact hn
          have hpp := HR2.out.hp0
          have hqq := HR2.out.hq0
          have hpl := HR2.out.hp
          have hql := HR2.out.hq
          have hsa1 := fun w => run_str_mid (P := Try.prog) Try.underlying9 a p p' hpp hpl w
          have hsb1 := fun w => run_str_mid (P := Try.prog) Try.underlying9 b q q' hqq hql w
          have HEd := Lib.hid HE2.out.drew
          have HXd := Lib.hid HX2.out.drew
          have HBd := Lib.hid HB2.out.drew
          obtain ⟨e0, e1, e2, e3, e4⟩ := HEd.out.cells
          have HMK := Lib.hid (mk1_any B T K v kd ((a.take p').drop p) ((b.take q').drop q) wr.drew HX2.out.drew (by have := HR2.out.len; omega) (by rw [mid_length hql]; omega))
          have HRE := Lib.hid (show newE kd ((a.take p').drop p) ((b.take q').drop q) = runE a b kd p q p' q' from rfl)
          rw [HRE.out] at HMK
          clear hnn HE2 HX2 HB2
          go_wp2_with fail
          refine still_tail 10 (by kernel_rfl) (by kernel_rfl) ?_
          simp only [List.take_succ_cons, List.take_zero, List.drop_succ_cons, List.drop_zero]
          generalize World.drew wr = wd at *
          with_reducible refine wpStill_step (fun K hK => ?_); go_simp; refine hK _ ?_; clear hK K
          with_reducible refine wpStill_step (fun K hK => ?_); go_simp; refine hK _ ?_; clear hK K
          with_reducible refine wpStill_step (fun K hK => ?_); go_simp; refine hK _ ?_; clear hK K
          with_reducible refine wpStill_step (fun K hK => ?_); go_simp; refine hK _ ?_; clear hK K
          with_reducible refine wpStill_step (fun K hK => ?_); go_simp; refine hK _ ?_; clear hK K
          with_reducible refine wpStill_step (fun K hK => ?_); go_simp; refine hK _ ?_; clear hK K
          with_reducible refine wpStill_step (fun K hK => ?_); go_simp; refine hK _ ?_; clear hK K
          with_reducible refine wpStill_step (fun K hK => ?_); go_simp; refine hK _ ?_; clear hK K
          with_reducible refine wpStill_step (fun K hK => ?_); go_simp; refine hK _ ?_; clear hK K
          with_reducible refine wpStill_step (fun K hK => ?_); go_simp; refine hK _ ?_; clear hK K
          refine wpStill_nil ?_
          go_wp2_with fail
          refine HMK.out.mono ?_; rintro e w5 ⟨rfl, v5, hh⟩
          have HH := Lib.hid hh
          clear hh e0 e1 e2 e3 e4
          go_wp2_with fail
          have HE5 := Lib.hid (HEd.out.held HXd.out HH.out)
          go_roundw
          case rel => exact ⟨p', q', _, _, v5, by rw [HNN.out], HNK.out, HE5.out, HH.out.box, Nat.le_refl _, HBd.out.trans HH.out.hb⟩
          case measure =>
            have h1 := HE5.out.pos
            have h2 := HPOS.out
            omega
end Go.Proofs.Ytmanafhdmijfeaa
