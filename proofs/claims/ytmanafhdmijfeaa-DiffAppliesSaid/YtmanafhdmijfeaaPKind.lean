/- The program's goAlong, its literal: of what kind is the next edit? -/
import Derived.Test.YtmanafhdmijfeaaPTab
import Derived.Test.YtmanafhdmijfeaaMake
namespace Go.Proofs.Ytmanafhdmijfeaa
open Go Go.RowKit

/-- The kind of the next step; 0: there is none. -/
def kindS (a b : List UInt8) (p q : Nat) : Int := match steps (a.drop p) (b.drop q) with
  | [] => 0
  | s :: _ => s.1
theorem kindS_of {a b : List UInt8} {p q : Nat} {s : Stp} {ss : List Stp} (h : steps (a.drop p) (b.drop q) = s :: ss) : kindS a b p q = s.1 := by unfold kindS; rw [h]
theorem kindS_end (a b : List UInt8) : kindS a b a.length b.length = 0 := by unfold kindS; rw [List.drop_length, List.drop_length, steps]

/-- What the literal reads: both texts, the table, the places. -/
structure Env (a b : List UInt8) (R G p q Ba Bb Bc Bi Bj : Nat) (w : World) : Prop where
  ca : Blk w Ba 9 #[.string (sB a)]
  cb : Blk w Bb 9 #[.string (sB b)]
  cc : Blk w Bc 52 #[.slice (some ⟨R, 0, none⟩) (a.length + 1) (a.length + 1)]
  ci : Blk w Bi 3 #[.int .i64 (p : Int)]
  cj : Blk w Bj 3 #[.int .i64 (q : Int)]
  tab : Costs a b R G w
  nij : Bi ≠ Bj
  ngi : G ≠ Bi
  ngj : G ≠ Bj

section
variable {a b : List UInt8} {R G p q Ba Bb Bc Bi Bj : Nat} {w w' : World}
theorem Costs.later (h : Costs a b R G w) (hb : Below w.heap.size w w') : Costs a b R G w' := ⟨h.rows.later hb, h.grid.later hb⟩
theorem Env.later (h : Env a b R G p q Ba Bb Bc Bi Bj w) (hb : Below w.heap.size w w') : Env a b R G p q Ba Bb Bc Bi Bj w' :=
  ⟨h.ca.later hb, h.cb.later hb, h.cc.later hb, h.ci.later hb, h.cj.later hb, h.tab.later hb, h.nij, h.ngi, h.ngj⟩
theorem Env.drew (h : Env a b R G p q Ba Bb Bc Bi Bj w) : Env a b R G p q Ba Bb Bc Bi Bj w.drew := ⟨h.ca, h.cb, h.cc, h.ci, h.cj, ⟨h.tab.rows, h.tab.grid⟩, h.nij, h.ngi, h.ngj⟩
theorem Env.cells (h : Env a b R G p q Ba Bb Bc Bi Bj w) : w.cell? ⟨Bi, 0, none⟩ = some (.int .i64 (p : Int)) ∧ w.cell? ⟨Ba, 0, none⟩ = some (.string (sB a)) ∧ w.cell? ⟨Bj, 0, none⟩ = some (.int .i64 (q : Int)) ∧ w.cell? ⟨Bb, 0, none⟩ = some (.string (sB b)) ∧
    w.cell? ⟨Bc, 0, none⟩ = some (.slice (some ⟨R, 0, none⟩) (a.length + 1) (a.length + 1)) := ⟨h.ci.cell 0, h.ca.cell 0, h.cj.cell 0, h.cb.cell 0, h.cc.cell 0⟩
theorem costs_cell {i j : Nat} (h : Costs a b R G w) (hi : i ≤ a.length) (hj : j ≤ b.length) :
    w.cell? ⟨R, i, none⟩ = some (.slice (some ⟨G, i * (b.length + 1), none⟩) (b.length + 1) (b.length + 1)) ∧ w.cell? ⟨G, i * (b.length + 1) + j, none⟩ = some (.int .i64 (D a b i j : Int)) :=
  ⟨h.rows.cell (by omega), h.grid.cell (by omega) hi hj⟩
theorem costs_grown {row : Option Nat} (h : Costs a b R G w) (hg : w.grownBy w' row) (h1 : some R ≠ row) (h2 : some G ≠ row) : Costs a b R G w' := by
  obtain ⟨⟨cr, k1, k2, k3⟩, ⟨cs, l1, l2, l3⟩⟩ := h
  exact ⟨⟨cr, k1.grown hg h1, k2, k3⟩, ⟨cs, l1.grown hg h2, l2, l3⟩⟩
end

set_option maxRecDepth 100000 in
set_option maxHeartbeats 16000000 in
theorem kind_any (a b : List UInt8) (ha' : a.length ≤ 1000) (hb' : b.length ≤ 1000) (R G p q Ba Bb Bc Bi Bj : Nat) (w : World) (hE : Env a b R G p q Ba Bb Bc Bi Bj w) (hp : p ≤ a.length) (hq : q ≤ b.length) :
    Calls Try.prog 36 #[.pointer (some ⟨Bi, 0, none⟩), .pointer (some ⟨Ba, 0, none⟩), .pointer (some ⟨Bj, 0, none⟩), .pointer (some ⟨Bb, 0, none⟩), .pointer (some ⟨Bc, 0, none⟩)] w fun e w' => e = .returned (.int .i64 (kindS a b p q)) ∧ Below w.heap.size w w' := by
  have hsa := sB_size a
  have hsb := sB_size b
  have HE0 := Lib.hid hE
  have HE1 := Lib.hid hE.drew
  have HE2 := Lib.hid hE.drew.drew
  clear hE
  obtain ⟨e0, e1, e2, e3, e4⟩ := HE0.out.cells
  obtain ⟨f0, f1, f2, f3, f4⟩ := HE1.out.cells
  obtain ⟨g0, g1, g2, g3, g4⟩ := HE2.out.cells
  have HBD := Lib.hid (Below.refl w.heap.size w).drew.drew
  have HBD1 := Lib.hid (Below.refl w.heap.size w).drew
  have hpI : (p : Int) ≤ (a.length : Int) := by omega
  have hqI : (q : Int) ≤ (b.length : Int) := by omega
  have hw1 : IntKind.i64.wrap ((p : Int) + 1) = (p : Int) + 1 := IntWalk.i64_in _ (by omega)
  have hw2 : IntKind.i64.wrap ((q : Int) + 1) = (q : Int) + 1 := IntWalk.i64_in _ (by omega)
  by_cases hpl : p < a.length
  · have dp : decide (p < a.length) = true := decide_eq_true hpl
    have hplI : (p : Int) < (a.length : Int) := by omega
    have bp : ((p : Int) == (a.length : Int)) = false := by rw [beq_nat]; exact decide_eq_false (by omega)
    by_cases hql : q < b.length
    · have dq : decide (q < b.length) = true := decide_eq_true hql
      have hqlI : (q : Int) < (b.length : Int) := by omega
      have bq : ((q : Int) == (b.length : Int)) = false := by rw [beq_nat]; exact decide_eq_false (by omega)
      have hia := fun w => run_str_index (P := Try.prog) Try.underlying9 a p hpl w
      have hib := fun w => run_str_index (P := Try.prog) Try.underlying9 b q hql w
      have HSK := Lib.hid (st_keep hpl hql)
      have HSC := Lib.hid (st_cut hpl hql)
      have HSP := Lib.hid (st_put hpl hql)
      obtain ⟨xa, hxa⟩ : ∃ x, x = a[p] := ⟨_, rfl⟩
      obtain ⟨xb, hxb⟩ : ∃ x, x = b[q] := ⟨_, rfl⟩
      rw [← hxa] at hia HSK HSC HSP
      rw [← hxb] at hib HSK HSC HSP
      clear hxa hxb
      by_cases hab : xa = xb
      · subst hab
        have HS := Lib.hid (kindS_of (HSK.out rfl))
        rw [HS.out]
        clear HSK HSC HSP
        go_enter Try.func36, Try.ntmps36
        go_wp2_with fail
        refine still_all (by kernel_rfl) (by kernel_rfl) ?_
        generalize World.drew w = wd at *
        first | (with_reducible refine wpStill_step (fun K hK => ?_); go_simp; refine hK _ ?_; clear hK K) | (with_reducible refine still_skip ?hw (fun K hK => ?_); (case hw => simp [Region.wanted, yielded, undef]); go_simp; refine hK _ ?_; clear hK K)
        first | (with_reducible refine wpStill_step (fun K hK => ?_); go_simp; refine hK _ ?_; clear hK K) | (with_reducible refine still_skip ?hw (fun K hK => ?_); (case hw => simp [Region.wanted, yielded, undef]); go_simp; refine hK _ ?_; clear hK K)
        first | (with_reducible refine wpStill_step (fun K hK => ?_); go_simp; refine hK _ ?_; clear hK K) | (with_reducible refine still_skip ?hw (fun K hK => ?_); (case hw => simp [Region.wanted, yielded, undef]); go_simp; refine hK _ ?_; clear hK K)
        first | (with_reducible refine wpStill_step (fun K hK => ?_); go_simp; refine hK _ ?_; clear hK K) | (with_reducible refine still_skip ?hw (fun K hK => ?_); (case hw => simp [Region.wanted, yielded, undef]); go_simp; refine hK _ ?_; clear hK K)
        first | (with_reducible refine wpStill_step (fun K hK => ?_); go_simp; refine hK _ ?_; clear hK K) | (with_reducible refine still_skip ?hw (fun K hK => ?_); (case hw => simp [Region.wanted, yielded, undef]); go_simp; refine hK _ ?_; clear hK K)
        first | (with_reducible refine wpStill_step (fun K hK => ?_); go_simp; refine hK _ ?_; clear hK K) | (with_reducible refine still_skip ?hw (fun K hK => ?_); (case hw => simp [Region.wanted, yielded, undef]); go_simp; refine hK _ ?_; clear hK K)
        first | (with_reducible refine wpStill_step (fun K hK => ?_); go_simp; refine hK _ ?_; clear hK K) | (with_reducible refine still_skip ?hw (fun K hK => ?_); (case hw => simp [Region.wanted, yielded, undef]); go_simp; refine hK _ ?_; clear hK K)
        first | (with_reducible refine wpStill_step (fun K hK => ?_); go_simp; refine hK _ ?_; clear hK K) | (with_reducible refine still_skip ?hw (fun K hK => ?_); (case hw => simp [Region.wanted, yielded, undef]); go_simp; refine hK _ ?_; clear hK K)
        first | (with_reducible refine wpStill_step (fun K hK => ?_); go_simp; refine hK _ ?_; clear hK K) | (with_reducible refine still_skip ?hw (fun K hK => ?_); (case hw => simp [Region.wanted, yielded, undef]); go_simp; refine hK _ ?_; clear hK K)
        first | (with_reducible refine wpStill_step (fun K hK => ?_); go_simp; refine hK _ ?_; clear hK K) | (with_reducible refine still_skip ?hw (fun K hK => ?_); (case hw => simp [Region.wanted, yielded, undef]); go_simp; refine hK _ ?_; clear hK K)
        first | (with_reducible refine wpStill_step (fun K hK => ?_); go_simp; refine hK _ ?_; clear hK K) | (with_reducible refine still_skip ?hw (fun K hK => ?_); (case hw => simp [Region.wanted, yielded, undef]); go_simp; refine hK _ ?_; clear hK K)
        first | (with_reducible refine wpStill_step (fun K hK => ?_); go_simp; refine hK _ ?_; clear hK K) | (with_reducible refine still_skip ?hw (fun K hK => ?_); (case hw => simp [Region.wanted, yielded, undef]); go_simp; refine hK _ ?_; clear hK K)
        first | (with_reducible refine wpStill_step (fun K hK => ?_); go_simp; refine hK _ ?_; clear hK K) | (with_reducible refine still_skip ?hw (fun K hK => ?_); (case hw => simp [Region.wanted, yielded, undef]); go_simp; refine hK _ ?_; clear hK K)
        first | (with_reducible refine wpStill_step (fun K hK => ?_); go_simp; refine hK _ ?_; clear hK K) | (with_reducible refine still_skip ?hw (fun K hK => ?_); (case hw => simp [Region.wanted, yielded, undef]); go_simp; refine hK _ ?_; clear hK K)
        first | (with_reducible refine wpStill_step (fun K hK => ?_); go_simp; refine hK _ ?_; clear hK K) | (with_reducible refine still_skip ?hw (fun K hK => ?_); (case hw => simp [Region.wanted, yielded, undef]); go_simp; refine hK _ ?_; clear hK K)
        first | (with_reducible refine wpStill_step (fun K hK => ?_); go_simp; refine hK _ ?_; clear hK K) | (with_reducible refine still_skip ?hw (fun K hK => ?_); (case hw => simp [Region.wanted, yielded, undef]); go_simp; refine hK _ ?_; clear hK K)
        first | (with_reducible refine wpStill_step (fun K hK => ?_); go_simp; refine hK _ ?_; clear hK K) | (with_reducible refine still_skip ?hw (fun K hK => ?_); (case hw => simp [Region.wanted, yielded, undef]); go_simp; refine hK _ ?_; clear hK K)
        first | (with_reducible refine wpStill_step (fun K hK => ?_); go_simp; refine hK _ ?_; clear hK K) | (with_reducible refine still_skip ?hw (fun K hK => ?_); (case hw => simp [Region.wanted, yielded, undef]); go_simp; refine hK _ ?_; clear hK K)
        first | (with_reducible refine wpStill_step (fun K hK => ?_); go_simp; refine hK _ ?_; clear hK K) | (with_reducible refine still_skip ?hw (fun K hK => ?_); (case hw => simp [Region.wanted, yielded, undef]); go_simp; refine hK _ ?_; clear hK K)
        first | (with_reducible refine wpStill_step (fun K hK => ?_); go_simp; refine hK _ ?_; clear hK K) | (with_reducible refine still_skip ?hw (fun K hK => ?_); (case hw => simp [Region.wanted, yielded, undef]); go_simp; refine hK _ ?_; clear hK K)
        refine wpStill_nil ?_
        go_wp2_with fail
        go_ret
        exact ⟨rfl, HBD1.out⟩
      · have hne : ((xa.toNat : Int) == (xb.toNat : Int)) = false := by rw [beq_eq_false_iff_ne]; exact fun h => hab (UInt8.toNat_inj.1 (by omega))
        have hne2 : ¬ xa.toNat = xb.toNat := fun h => hab (UInt8.toNat_inj.1 h)
        obtain ⟨c1, d1⟩ := costs_cell (i := p + 1) (j := q) HE2.out.tab (by omega) hq
        obtain ⟨c0, d0⟩ := costs_cell (i := p) (j := q + 1) HE2.out.tab hp (by omega)
        have hn1 : 0 ≤ (p : Int) + 1 := by omega
        have hn2 : 0 ≤ (q : Int) + 1 := by omega
        have hl1 : (p : Int) + 1 < (a.length : Int) + 1 := by omega
        have hl2 : (q : Int) + 1 < (b.length : Int) + 1 := by omega
        have hl3 : (q : Int) < (b.length : Int) + 1 := by omega
        have hl4 : (p : Int) < (a.length : Int) + 1 := by omega
        have ht1 : ((p : Int) + 1).toNat = p + 1 := by omega
        have ht2 : ((q : Int) + 1).toNat = q + 1 := by omega
        obtain ⟨o, ho⟩ : ∃ o, o = p * (b.length + 1) := ⟨_, rfl⟩
        obtain ⟨o', ho'⟩ : ∃ o, o = (p + 1) * (b.length + 1) := ⟨_, rfl⟩
        rw [← ho] at c0 d0
        rw [← ho'] at c1 d1
        obtain ⟨X, hX⟩ : ∃ X, X = D a b (p + 1) q := ⟨_, rfl⟩
        obtain ⟨Y, hY⟩ : ∃ Y, Y = D a b p (q + 1) := ⟨_, rfl⟩
        rw [← hX] at d1 HSC HSP
        rw [← hY] at d0 HSC HSP
        clear hX hY ho ho'
        by_cases hxy : X ≤ Y
        · have dx : decide (X ≤ Y) = true := decide_eq_true hxy
          have HS := Lib.hid (kindS_of (HSC.out hab hxy))
          rw [HS.out]
          clear HSK HSC HSP hxy hab
          go_enter Try.func36, Try.ntmps36
          go_wp2_with fail
          refine still_all (by kernel_rfl) (by kernel_rfl) ?_
          generalize World.drew w = wd at *
          first | (with_reducible refine wpStill_step (fun K hK => ?_); go_simp; refine hK _ ?_; clear hK K) | (with_reducible refine still_skip ?hw (fun K hK => ?_); (case hw => simp [Region.wanted, yielded, undef]); go_simp; refine hK _ ?_; clear hK K)
          first | (with_reducible refine wpStill_step (fun K hK => ?_); go_simp; refine hK _ ?_; clear hK K) | (with_reducible refine still_skip ?hw (fun K hK => ?_); (case hw => simp [Region.wanted, yielded, undef]); go_simp; refine hK _ ?_; clear hK K)
          first | (with_reducible refine wpStill_step (fun K hK => ?_); go_simp; refine hK _ ?_; clear hK K) | (with_reducible refine still_skip ?hw (fun K hK => ?_); (case hw => simp [Region.wanted, yielded, undef]); go_simp; refine hK _ ?_; clear hK K)
          first | (with_reducible refine wpStill_step (fun K hK => ?_); go_simp; refine hK _ ?_; clear hK K) | (with_reducible refine still_skip ?hw (fun K hK => ?_); (case hw => simp [Region.wanted, yielded, undef]); go_simp; refine hK _ ?_; clear hK K)
          first | (with_reducible refine wpStill_step (fun K hK => ?_); go_simp; refine hK _ ?_; clear hK K) | (with_reducible refine still_skip ?hw (fun K hK => ?_); (case hw => simp [Region.wanted, yielded, undef]); go_simp; refine hK _ ?_; clear hK K)
          first | (with_reducible refine wpStill_step (fun K hK => ?_); go_simp; refine hK _ ?_; clear hK K) | (with_reducible refine still_skip ?hw (fun K hK => ?_); (case hw => simp [Region.wanted, yielded, undef]); go_simp; refine hK _ ?_; clear hK K)
          first | (with_reducible refine wpStill_step (fun K hK => ?_); go_simp; refine hK _ ?_; clear hK K) | (with_reducible refine still_skip ?hw (fun K hK => ?_); (case hw => simp [Region.wanted, yielded, undef]); go_simp; refine hK _ ?_; clear hK K)
          first | (with_reducible refine wpStill_step (fun K hK => ?_); go_simp; refine hK _ ?_; clear hK K) | (with_reducible refine still_skip ?hw (fun K hK => ?_); (case hw => simp [Region.wanted, yielded, undef]); go_simp; refine hK _ ?_; clear hK K)
          first | (with_reducible refine wpStill_step (fun K hK => ?_); go_simp; refine hK _ ?_; clear hK K) | (with_reducible refine still_skip ?hw (fun K hK => ?_); (case hw => simp [Region.wanted, yielded, undef]); go_simp; refine hK _ ?_; clear hK K)
          first | (with_reducible refine wpStill_step (fun K hK => ?_); go_simp; refine hK _ ?_; clear hK K) | (with_reducible refine still_skip ?hw (fun K hK => ?_); (case hw => simp [Region.wanted, yielded, undef]); go_simp; refine hK _ ?_; clear hK K)
          first | (with_reducible refine wpStill_step (fun K hK => ?_); go_simp; refine hK _ ?_; clear hK K) | (with_reducible refine still_skip ?hw (fun K hK => ?_); (case hw => simp [Region.wanted, yielded, undef]); go_simp; refine hK _ ?_; clear hK K)
          first | (with_reducible refine wpStill_step (fun K hK => ?_); go_simp; refine hK _ ?_; clear hK K) | (with_reducible refine still_skip ?hw (fun K hK => ?_); (case hw => simp [Region.wanted, yielded, undef]); go_simp; refine hK _ ?_; clear hK K)
          first | (with_reducible refine wpStill_step (fun K hK => ?_); go_simp; refine hK _ ?_; clear hK K) | (with_reducible refine still_skip ?hw (fun K hK => ?_); (case hw => simp [Region.wanted, yielded, undef]); go_simp; refine hK _ ?_; clear hK K)
          first | (with_reducible refine wpStill_step (fun K hK => ?_); go_simp; refine hK _ ?_; clear hK K) | (with_reducible refine still_skip ?hw (fun K hK => ?_); (case hw => simp [Region.wanted, yielded, undef]); go_simp; refine hK _ ?_; clear hK K)
          first | (with_reducible refine wpStill_step (fun K hK => ?_); go_simp; refine hK _ ?_; clear hK K) | (with_reducible refine still_skip ?hw (fun K hK => ?_); (case hw => simp [Region.wanted, yielded, undef]); go_simp; refine hK _ ?_; clear hK K)
          first | (with_reducible refine wpStill_step (fun K hK => ?_); go_simp; refine hK _ ?_; clear hK K) | (with_reducible refine still_skip ?hw (fun K hK => ?_); (case hw => simp [Region.wanted, yielded, undef]); go_simp; refine hK _ ?_; clear hK K)
          first | (with_reducible refine wpStill_step (fun K hK => ?_); go_simp; refine hK _ ?_; clear hK K) | (with_reducible refine still_skip ?hw (fun K hK => ?_); (case hw => simp [Region.wanted, yielded, undef]); go_simp; refine hK _ ?_; clear hK K)
          first | (with_reducible refine wpStill_step (fun K hK => ?_); go_simp; refine hK _ ?_; clear hK K) | (with_reducible refine still_skip ?hw (fun K hK => ?_); (case hw => simp [Region.wanted, yielded, undef]); go_simp; refine hK _ ?_; clear hK K)
          first | (with_reducible refine wpStill_step (fun K hK => ?_); go_simp; refine hK _ ?_; clear hK K) | (with_reducible refine still_skip ?hw (fun K hK => ?_); (case hw => simp [Region.wanted, yielded, undef]); go_simp; refine hK _ ?_; clear hK K)
          first | (with_reducible refine wpStill_step (fun K hK => ?_); go_simp; refine hK _ ?_; clear hK K) | (with_reducible refine still_skip ?hw (fun K hK => ?_); (case hw => simp [Region.wanted, yielded, undef]); go_simp; refine hK _ ?_; clear hK K)
          refine wpStill_nil ?_
          go_wp2_with fail
          refine still_all (by kernel_rfl) (by kernel_rfl) ?_
          generalize World.drew wd = we at *
          first | (with_reducible refine wpStill_step (fun K hK => ?_); go_simp; refine hK _ ?_; clear hK K) | (with_reducible refine still_skip ?hw (fun K hK => ?_); (case hw => simp [Region.wanted, yielded, undef]); go_simp; refine hK _ ?_; clear hK K)
          first | (with_reducible refine wpStill_step (fun K hK => ?_); go_simp; refine hK _ ?_; clear hK K) | (with_reducible refine still_skip ?hw (fun K hK => ?_); (case hw => simp [Region.wanted, yielded, undef]); go_simp; refine hK _ ?_; clear hK K)
          first | (with_reducible refine wpStill_step (fun K hK => ?_); go_simp; refine hK _ ?_; clear hK K) | (with_reducible refine still_skip ?hw (fun K hK => ?_); (case hw => simp [Region.wanted, yielded, undef]); go_simp; refine hK _ ?_; clear hK K)
          first | (with_reducible refine wpStill_step (fun K hK => ?_); go_simp; refine hK _ ?_; clear hK K) | (with_reducible refine still_skip ?hw (fun K hK => ?_); (case hw => simp [Region.wanted, yielded, undef]); go_simp; refine hK _ ?_; clear hK K)
          first | (with_reducible refine wpStill_step (fun K hK => ?_); go_simp; refine hK _ ?_; clear hK K) | (with_reducible refine still_skip ?hw (fun K hK => ?_); (case hw => simp [Region.wanted, yielded, undef]); go_simp; refine hK _ ?_; clear hK K)
          first | (with_reducible refine wpStill_step (fun K hK => ?_); go_simp; refine hK _ ?_; clear hK K) | (with_reducible refine still_skip ?hw (fun K hK => ?_); (case hw => simp [Region.wanted, yielded, undef]); go_simp; refine hK _ ?_; clear hK K)
          first | (with_reducible refine wpStill_step (fun K hK => ?_); go_simp; refine hK _ ?_; clear hK K) | (with_reducible refine still_skip ?hw (fun K hK => ?_); (case hw => simp [Region.wanted, yielded, undef]); go_simp; refine hK _ ?_; clear hK K)
          first | (with_reducible refine wpStill_step (fun K hK => ?_); go_simp; refine hK _ ?_; clear hK K) | (with_reducible refine still_skip ?hw (fun K hK => ?_); (case hw => simp [Region.wanted, yielded, undef]); go_simp; refine hK _ ?_; clear hK K)
          first | (with_reducible refine wpStill_step (fun K hK => ?_); go_simp; refine hK _ ?_; clear hK K) | (with_reducible refine still_skip ?hw (fun K hK => ?_); (case hw => simp [Region.wanted, yielded, undef]); go_simp; refine hK _ ?_; clear hK K)
          first | (with_reducible refine wpStill_step (fun K hK => ?_); go_simp; refine hK _ ?_; clear hK K) | (with_reducible refine still_skip ?hw (fun K hK => ?_); (case hw => simp [Region.wanted, yielded, undef]); go_simp; refine hK _ ?_; clear hK K)
          first | (with_reducible refine wpStill_step (fun K hK => ?_); go_simp; refine hK _ ?_; clear hK K) | (with_reducible refine still_skip ?hw (fun K hK => ?_); (case hw => simp [Region.wanted, yielded, undef]); go_simp; refine hK _ ?_; clear hK K)
          first | (with_reducible refine wpStill_step (fun K hK => ?_); go_simp; refine hK _ ?_; clear hK K) | (with_reducible refine still_skip ?hw (fun K hK => ?_); (case hw => simp [Region.wanted, yielded, undef]); go_simp; refine hK _ ?_; clear hK K)
          first | (with_reducible refine wpStill_step (fun K hK => ?_); go_simp; refine hK _ ?_; clear hK K) | (with_reducible refine still_skip ?hw (fun K hK => ?_); (case hw => simp [Region.wanted, yielded, undef]); go_simp; refine hK _ ?_; clear hK K)
          first | (with_reducible refine wpStill_step (fun K hK => ?_); go_simp; refine hK _ ?_; clear hK K) | (with_reducible refine still_skip ?hw (fun K hK => ?_); (case hw => simp [Region.wanted, yielded, undef]); go_simp; refine hK _ ?_; clear hK K)
          first | (with_reducible refine wpStill_step (fun K hK => ?_); go_simp; refine hK _ ?_; clear hK K) | (with_reducible refine still_skip ?hw (fun K hK => ?_); (case hw => simp [Region.wanted, yielded, undef]); go_simp; refine hK _ ?_; clear hK K)
          first | (with_reducible refine wpStill_step (fun K hK => ?_); go_simp; refine hK _ ?_; clear hK K) | (with_reducible refine still_skip ?hw (fun K hK => ?_); (case hw => simp [Region.wanted, yielded, undef]); go_simp; refine hK _ ?_; clear hK K)
          first | (with_reducible refine wpStill_step (fun K hK => ?_); go_simp; refine hK _ ?_; clear hK K) | (with_reducible refine still_skip ?hw (fun K hK => ?_); (case hw => simp [Region.wanted, yielded, undef]); go_simp; refine hK _ ?_; clear hK K)
          first | (with_reducible refine wpStill_step (fun K hK => ?_); go_simp; refine hK _ ?_; clear hK K) | (with_reducible refine still_skip ?hw (fun K hK => ?_); (case hw => simp [Region.wanted, yielded, undef]); go_simp; refine hK _ ?_; clear hK K)
          first | (with_reducible refine wpStill_step (fun K hK => ?_); go_simp; refine hK _ ?_; clear hK K) | (with_reducible refine still_skip ?hw (fun K hK => ?_); (case hw => simp [Region.wanted, yielded, undef]); go_simp; refine hK _ ?_; clear hK K)
          first | (with_reducible refine wpStill_step (fun K hK => ?_); go_simp; refine hK _ ?_; clear hK K) | (with_reducible refine still_skip ?hw (fun K hK => ?_); (case hw => simp [Region.wanted, yielded, undef]); go_simp; refine hK _ ?_; clear hK K)
          first | (with_reducible refine wpStill_step (fun K hK => ?_); go_simp; refine hK _ ?_; clear hK K) | (with_reducible refine still_skip ?hw (fun K hK => ?_); (case hw => simp [Region.wanted, yielded, undef]); go_simp; refine hK _ ?_; clear hK K)
          first | (with_reducible refine wpStill_step (fun K hK => ?_); go_simp; refine hK _ ?_; clear hK K) | (with_reducible refine still_skip ?hw (fun K hK => ?_); (case hw => simp [Region.wanted, yielded, undef]); go_simp; refine hK _ ?_; clear hK K)
          first | (with_reducible refine wpStill_step (fun K hK => ?_); go_simp; refine hK _ ?_; clear hK K) | (with_reducible refine still_skip ?hw (fun K hK => ?_); (case hw => simp [Region.wanted, yielded, undef]); go_simp; refine hK _ ?_; clear hK K)
          first | (with_reducible refine wpStill_step (fun K hK => ?_); go_simp; refine hK _ ?_; clear hK K) | (with_reducible refine still_skip ?hw (fun K hK => ?_); (case hw => simp [Region.wanted, yielded, undef]); go_simp; refine hK _ ?_; clear hK K)
          first | (with_reducible refine wpStill_step (fun K hK => ?_); go_simp; refine hK _ ?_; clear hK K) | (with_reducible refine still_skip ?hw (fun K hK => ?_); (case hw => simp [Region.wanted, yielded, undef]); go_simp; refine hK _ ?_; clear hK K)
          first | (with_reducible refine wpStill_step (fun K hK => ?_); go_simp; refine hK _ ?_; clear hK K) | (with_reducible refine still_skip ?hw (fun K hK => ?_); (case hw => simp [Region.wanted, yielded, undef]); go_simp; refine hK _ ?_; clear hK K)
          first | (with_reducible refine wpStill_step (fun K hK => ?_); go_simp; refine hK _ ?_; clear hK K) | (with_reducible refine still_skip ?hw (fun K hK => ?_); (case hw => simp [Region.wanted, yielded, undef]); go_simp; refine hK _ ?_; clear hK K)
          first | (with_reducible refine wpStill_step (fun K hK => ?_); go_simp; refine hK _ ?_; clear hK K) | (with_reducible refine still_skip ?hw (fun K hK => ?_); (case hw => simp [Region.wanted, yielded, undef]); go_simp; refine hK _ ?_; clear hK K)
          first | (with_reducible refine wpStill_step (fun K hK => ?_); go_simp; refine hK _ ?_; clear hK K) | (with_reducible refine still_skip ?hw (fun K hK => ?_); (case hw => simp [Region.wanted, yielded, undef]); go_simp; refine hK _ ?_; clear hK K)
          first | (with_reducible refine wpStill_step (fun K hK => ?_); go_simp; refine hK _ ?_; clear hK K) | (with_reducible refine still_skip ?hw (fun K hK => ?_); (case hw => simp [Region.wanted, yielded, undef]); go_simp; refine hK _ ?_; clear hK K)
          refine wpStill_nil ?_
          go_wp2_with fail
          go_ret
          exact ⟨rfl, HBD.out⟩
        · have dx : decide (X ≤ Y) = false := decide_eq_false hxy
          have HS := Lib.hid (kindS_of (HSP.out hab hxy))
          rw [HS.out]
          clear HSK HSC HSP hxy hab
          go_enter Try.func36, Try.ntmps36
          go_wp2_with fail
          refine still_all (by kernel_rfl) (by kernel_rfl) ?_
          generalize World.drew w = wd at *
          first | (with_reducible refine wpStill_step (fun K hK => ?_); go_simp; refine hK _ ?_; clear hK K) | (with_reducible refine still_skip ?hw (fun K hK => ?_); (case hw => simp [Region.wanted, yielded, undef]); go_simp; refine hK _ ?_; clear hK K)
          first | (with_reducible refine wpStill_step (fun K hK => ?_); go_simp; refine hK _ ?_; clear hK K) | (with_reducible refine still_skip ?hw (fun K hK => ?_); (case hw => simp [Region.wanted, yielded, undef]); go_simp; refine hK _ ?_; clear hK K)
          first | (with_reducible refine wpStill_step (fun K hK => ?_); go_simp; refine hK _ ?_; clear hK K) | (with_reducible refine still_skip ?hw (fun K hK => ?_); (case hw => simp [Region.wanted, yielded, undef]); go_simp; refine hK _ ?_; clear hK K)
          first | (with_reducible refine wpStill_step (fun K hK => ?_); go_simp; refine hK _ ?_; clear hK K) | (with_reducible refine still_skip ?hw (fun K hK => ?_); (case hw => simp [Region.wanted, yielded, undef]); go_simp; refine hK _ ?_; clear hK K)
          first | (with_reducible refine wpStill_step (fun K hK => ?_); go_simp; refine hK _ ?_; clear hK K) | (with_reducible refine still_skip ?hw (fun K hK => ?_); (case hw => simp [Region.wanted, yielded, undef]); go_simp; refine hK _ ?_; clear hK K)
          first | (with_reducible refine wpStill_step (fun K hK => ?_); go_simp; refine hK _ ?_; clear hK K) | (with_reducible refine still_skip ?hw (fun K hK => ?_); (case hw => simp [Region.wanted, yielded, undef]); go_simp; refine hK _ ?_; clear hK K)
          first | (with_reducible refine wpStill_step (fun K hK => ?_); go_simp; refine hK _ ?_; clear hK K) | (with_reducible refine still_skip ?hw (fun K hK => ?_); (case hw => simp [Region.wanted, yielded, undef]); go_simp; refine hK _ ?_; clear hK K)
          first | (with_reducible refine wpStill_step (fun K hK => ?_); go_simp; refine hK _ ?_; clear hK K) | (with_reducible refine still_skip ?hw (fun K hK => ?_); (case hw => simp [Region.wanted, yielded, undef]); go_simp; refine hK _ ?_; clear hK K)
          first | (with_reducible refine wpStill_step (fun K hK => ?_); go_simp; refine hK _ ?_; clear hK K) | (with_reducible refine still_skip ?hw (fun K hK => ?_); (case hw => simp [Region.wanted, yielded, undef]); go_simp; refine hK _ ?_; clear hK K)
          first | (with_reducible refine wpStill_step (fun K hK => ?_); go_simp; refine hK _ ?_; clear hK K) | (with_reducible refine still_skip ?hw (fun K hK => ?_); (case hw => simp [Region.wanted, yielded, undef]); go_simp; refine hK _ ?_; clear hK K)
          first | (with_reducible refine wpStill_step (fun K hK => ?_); go_simp; refine hK _ ?_; clear hK K) | (with_reducible refine still_skip ?hw (fun K hK => ?_); (case hw => simp [Region.wanted, yielded, undef]); go_simp; refine hK _ ?_; clear hK K)
          first | (with_reducible refine wpStill_step (fun K hK => ?_); go_simp; refine hK _ ?_; clear hK K) | (with_reducible refine still_skip ?hw (fun K hK => ?_); (case hw => simp [Region.wanted, yielded, undef]); go_simp; refine hK _ ?_; clear hK K)
          first | (with_reducible refine wpStill_step (fun K hK => ?_); go_simp; refine hK _ ?_; clear hK K) | (with_reducible refine still_skip ?hw (fun K hK => ?_); (case hw => simp [Region.wanted, yielded, undef]); go_simp; refine hK _ ?_; clear hK K)
          first | (with_reducible refine wpStill_step (fun K hK => ?_); go_simp; refine hK _ ?_; clear hK K) | (with_reducible refine still_skip ?hw (fun K hK => ?_); (case hw => simp [Region.wanted, yielded, undef]); go_simp; refine hK _ ?_; clear hK K)
          first | (with_reducible refine wpStill_step (fun K hK => ?_); go_simp; refine hK _ ?_; clear hK K) | (with_reducible refine still_skip ?hw (fun K hK => ?_); (case hw => simp [Region.wanted, yielded, undef]); go_simp; refine hK _ ?_; clear hK K)
          first | (with_reducible refine wpStill_step (fun K hK => ?_); go_simp; refine hK _ ?_; clear hK K) | (with_reducible refine still_skip ?hw (fun K hK => ?_); (case hw => simp [Region.wanted, yielded, undef]); go_simp; refine hK _ ?_; clear hK K)
          first | (with_reducible refine wpStill_step (fun K hK => ?_); go_simp; refine hK _ ?_; clear hK K) | (with_reducible refine still_skip ?hw (fun K hK => ?_); (case hw => simp [Region.wanted, yielded, undef]); go_simp; refine hK _ ?_; clear hK K)
          first | (with_reducible refine wpStill_step (fun K hK => ?_); go_simp; refine hK _ ?_; clear hK K) | (with_reducible refine still_skip ?hw (fun K hK => ?_); (case hw => simp [Region.wanted, yielded, undef]); go_simp; refine hK _ ?_; clear hK K)
          first | (with_reducible refine wpStill_step (fun K hK => ?_); go_simp; refine hK _ ?_; clear hK K) | (with_reducible refine still_skip ?hw (fun K hK => ?_); (case hw => simp [Region.wanted, yielded, undef]); go_simp; refine hK _ ?_; clear hK K)
          first | (with_reducible refine wpStill_step (fun K hK => ?_); go_simp; refine hK _ ?_; clear hK K) | (with_reducible refine still_skip ?hw (fun K hK => ?_); (case hw => simp [Region.wanted, yielded, undef]); go_simp; refine hK _ ?_; clear hK K)
          refine wpStill_nil ?_
          go_wp2_with fail
          refine still_all (by kernel_rfl) (by kernel_rfl) ?_
          generalize World.drew wd = we at *
          first | (with_reducible refine wpStill_step (fun K hK => ?_); go_simp; refine hK _ ?_; clear hK K) | (with_reducible refine still_skip ?hw (fun K hK => ?_); (case hw => simp [Region.wanted, yielded, undef]); go_simp; refine hK _ ?_; clear hK K)
          first | (with_reducible refine wpStill_step (fun K hK => ?_); go_simp; refine hK _ ?_; clear hK K) | (with_reducible refine still_skip ?hw (fun K hK => ?_); (case hw => simp [Region.wanted, yielded, undef]); go_simp; refine hK _ ?_; clear hK K)
          first | (with_reducible refine wpStill_step (fun K hK => ?_); go_simp; refine hK _ ?_; clear hK K) | (with_reducible refine still_skip ?hw (fun K hK => ?_); (case hw => simp [Region.wanted, yielded, undef]); go_simp; refine hK _ ?_; clear hK K)
          first | (with_reducible refine wpStill_step (fun K hK => ?_); go_simp; refine hK _ ?_; clear hK K) | (with_reducible refine still_skip ?hw (fun K hK => ?_); (case hw => simp [Region.wanted, yielded, undef]); go_simp; refine hK _ ?_; clear hK K)
          first | (with_reducible refine wpStill_step (fun K hK => ?_); go_simp; refine hK _ ?_; clear hK K) | (with_reducible refine still_skip ?hw (fun K hK => ?_); (case hw => simp [Region.wanted, yielded, undef]); go_simp; refine hK _ ?_; clear hK K)
          first | (with_reducible refine wpStill_step (fun K hK => ?_); go_simp; refine hK _ ?_; clear hK K) | (with_reducible refine still_skip ?hw (fun K hK => ?_); (case hw => simp [Region.wanted, yielded, undef]); go_simp; refine hK _ ?_; clear hK K)
          first | (with_reducible refine wpStill_step (fun K hK => ?_); go_simp; refine hK _ ?_; clear hK K) | (with_reducible refine still_skip ?hw (fun K hK => ?_); (case hw => simp [Region.wanted, yielded, undef]); go_simp; refine hK _ ?_; clear hK K)
          first | (with_reducible refine wpStill_step (fun K hK => ?_); go_simp; refine hK _ ?_; clear hK K) | (with_reducible refine still_skip ?hw (fun K hK => ?_); (case hw => simp [Region.wanted, yielded, undef]); go_simp; refine hK _ ?_; clear hK K)
          first | (with_reducible refine wpStill_step (fun K hK => ?_); go_simp; refine hK _ ?_; clear hK K) | (with_reducible refine still_skip ?hw (fun K hK => ?_); (case hw => simp [Region.wanted, yielded, undef]); go_simp; refine hK _ ?_; clear hK K)
          first | (with_reducible refine wpStill_step (fun K hK => ?_); go_simp; refine hK _ ?_; clear hK K) | (with_reducible refine still_skip ?hw (fun K hK => ?_); (case hw => simp [Region.wanted, yielded, undef]); go_simp; refine hK _ ?_; clear hK K)
          first | (with_reducible refine wpStill_step (fun K hK => ?_); go_simp; refine hK _ ?_; clear hK K) | (with_reducible refine still_skip ?hw (fun K hK => ?_); (case hw => simp [Region.wanted, yielded, undef]); go_simp; refine hK _ ?_; clear hK K)
          first | (with_reducible refine wpStill_step (fun K hK => ?_); go_simp; refine hK _ ?_; clear hK K) | (with_reducible refine still_skip ?hw (fun K hK => ?_); (case hw => simp [Region.wanted, yielded, undef]); go_simp; refine hK _ ?_; clear hK K)
          first | (with_reducible refine wpStill_step (fun K hK => ?_); go_simp; refine hK _ ?_; clear hK K) | (with_reducible refine still_skip ?hw (fun K hK => ?_); (case hw => simp [Region.wanted, yielded, undef]); go_simp; refine hK _ ?_; clear hK K)
          first | (with_reducible refine wpStill_step (fun K hK => ?_); go_simp; refine hK _ ?_; clear hK K) | (with_reducible refine still_skip ?hw (fun K hK => ?_); (case hw => simp [Region.wanted, yielded, undef]); go_simp; refine hK _ ?_; clear hK K)
          first | (with_reducible refine wpStill_step (fun K hK => ?_); go_simp; refine hK _ ?_; clear hK K) | (with_reducible refine still_skip ?hw (fun K hK => ?_); (case hw => simp [Region.wanted, yielded, undef]); go_simp; refine hK _ ?_; clear hK K)
          first | (with_reducible refine wpStill_step (fun K hK => ?_); go_simp; refine hK _ ?_; clear hK K) | (with_reducible refine still_skip ?hw (fun K hK => ?_); (case hw => simp [Region.wanted, yielded, undef]); go_simp; refine hK _ ?_; clear hK K)
          first | (with_reducible refine wpStill_step (fun K hK => ?_); go_simp; refine hK _ ?_; clear hK K) | (with_reducible refine still_skip ?hw (fun K hK => ?_); (case hw => simp [Region.wanted, yielded, undef]); go_simp; refine hK _ ?_; clear hK K)
          first | (with_reducible refine wpStill_step (fun K hK => ?_); go_simp; refine hK _ ?_; clear hK K) | (with_reducible refine still_skip ?hw (fun K hK => ?_); (case hw => simp [Region.wanted, yielded, undef]); go_simp; refine hK _ ?_; clear hK K)
          first | (with_reducible refine wpStill_step (fun K hK => ?_); go_simp; refine hK _ ?_; clear hK K) | (with_reducible refine still_skip ?hw (fun K hK => ?_); (case hw => simp [Region.wanted, yielded, undef]); go_simp; refine hK _ ?_; clear hK K)
          first | (with_reducible refine wpStill_step (fun K hK => ?_); go_simp; refine hK _ ?_; clear hK K) | (with_reducible refine still_skip ?hw (fun K hK => ?_); (case hw => simp [Region.wanted, yielded, undef]); go_simp; refine hK _ ?_; clear hK K)
          first | (with_reducible refine wpStill_step (fun K hK => ?_); go_simp; refine hK _ ?_; clear hK K) | (with_reducible refine still_skip ?hw (fun K hK => ?_); (case hw => simp [Region.wanted, yielded, undef]); go_simp; refine hK _ ?_; clear hK K)
          first | (with_reducible refine wpStill_step (fun K hK => ?_); go_simp; refine hK _ ?_; clear hK K) | (with_reducible refine still_skip ?hw (fun K hK => ?_); (case hw => simp [Region.wanted, yielded, undef]); go_simp; refine hK _ ?_; clear hK K)
          first | (with_reducible refine wpStill_step (fun K hK => ?_); go_simp; refine hK _ ?_; clear hK K) | (with_reducible refine still_skip ?hw (fun K hK => ?_); (case hw => simp [Region.wanted, yielded, undef]); go_simp; refine hK _ ?_; clear hK K)
          first | (with_reducible refine wpStill_step (fun K hK => ?_); go_simp; refine hK _ ?_; clear hK K) | (with_reducible refine still_skip ?hw (fun K hK => ?_); (case hw => simp [Region.wanted, yielded, undef]); go_simp; refine hK _ ?_; clear hK K)
          first | (with_reducible refine wpStill_step (fun K hK => ?_); go_simp; refine hK _ ?_; clear hK K) | (with_reducible refine still_skip ?hw (fun K hK => ?_); (case hw => simp [Region.wanted, yielded, undef]); go_simp; refine hK _ ?_; clear hK K)
          first | (with_reducible refine wpStill_step (fun K hK => ?_); go_simp; refine hK _ ?_; clear hK K) | (with_reducible refine still_skip ?hw (fun K hK => ?_); (case hw => simp [Region.wanted, yielded, undef]); go_simp; refine hK _ ?_; clear hK K)
          first | (with_reducible refine wpStill_step (fun K hK => ?_); go_simp; refine hK _ ?_; clear hK K) | (with_reducible refine still_skip ?hw (fun K hK => ?_); (case hw => simp [Region.wanted, yielded, undef]); go_simp; refine hK _ ?_; clear hK K)
          first | (with_reducible refine wpStill_step (fun K hK => ?_); go_simp; refine hK _ ?_; clear hK K) | (with_reducible refine still_skip ?hw (fun K hK => ?_); (case hw => simp [Region.wanted, yielded, undef]); go_simp; refine hK _ ?_; clear hK K)
          first | (with_reducible refine wpStill_step (fun K hK => ?_); go_simp; refine hK _ ?_; clear hK K) | (with_reducible refine still_skip ?hw (fun K hK => ?_); (case hw => simp [Region.wanted, yielded, undef]); go_simp; refine hK _ ?_; clear hK K)
          first | (with_reducible refine wpStill_step (fun K hK => ?_); go_simp; refine hK _ ?_; clear hK K) | (with_reducible refine still_skip ?hw (fun K hK => ?_); (case hw => simp [Region.wanted, yielded, undef]); go_simp; refine hK _ ?_; clear hK K)
          refine wpStill_nil ?_
          go_wp2_with fail
          go_ret
          exact ⟨rfl, HBD.out⟩
    · have dq : decide (q < b.length) = false := decide_eq_false hql
      obtain rfl : q = b.length := by omega
      have bq : ((b.length : Int) == (b.length : Int)) = true := by simp
      have HS := Lib.hid (kindS_of (st_cut_end (b := b) hpl))
      rw [HS.out]
      go_enter Try.func36, Try.ntmps36
      go_wp2_with fail
      refine still_all (by kernel_rfl) (by kernel_rfl) ?_
      generalize World.drew w = wd at *
      first | (with_reducible refine wpStill_step (fun K hK => ?_); go_simp; refine hK _ ?_; clear hK K) | (with_reducible refine still_skip ?hw (fun K hK => ?_); (case hw => simp [Region.wanted, yielded, undef]); go_simp; refine hK _ ?_; clear hK K)
      first | (with_reducible refine wpStill_step (fun K hK => ?_); go_simp; refine hK _ ?_; clear hK K) | (with_reducible refine still_skip ?hw (fun K hK => ?_); (case hw => simp [Region.wanted, yielded, undef]); go_simp; refine hK _ ?_; clear hK K)
      first | (with_reducible refine wpStill_step (fun K hK => ?_); go_simp; refine hK _ ?_; clear hK K) | (with_reducible refine still_skip ?hw (fun K hK => ?_); (case hw => simp [Region.wanted, yielded, undef]); go_simp; refine hK _ ?_; clear hK K)
      first | (with_reducible refine wpStill_step (fun K hK => ?_); go_simp; refine hK _ ?_; clear hK K) | (with_reducible refine still_skip ?hw (fun K hK => ?_); (case hw => simp [Region.wanted, yielded, undef]); go_simp; refine hK _ ?_; clear hK K)
      first | (with_reducible refine wpStill_step (fun K hK => ?_); go_simp; refine hK _ ?_; clear hK K) | (with_reducible refine still_skip ?hw (fun K hK => ?_); (case hw => simp [Region.wanted, yielded, undef]); go_simp; refine hK _ ?_; clear hK K)
      first | (with_reducible refine wpStill_step (fun K hK => ?_); go_simp; refine hK _ ?_; clear hK K) | (with_reducible refine still_skip ?hw (fun K hK => ?_); (case hw => simp [Region.wanted, yielded, undef]); go_simp; refine hK _ ?_; clear hK K)
      first | (with_reducible refine wpStill_step (fun K hK => ?_); go_simp; refine hK _ ?_; clear hK K) | (with_reducible refine still_skip ?hw (fun K hK => ?_); (case hw => simp [Region.wanted, yielded, undef]); go_simp; refine hK _ ?_; clear hK K)
      first | (with_reducible refine wpStill_step (fun K hK => ?_); go_simp; refine hK _ ?_; clear hK K) | (with_reducible refine still_skip ?hw (fun K hK => ?_); (case hw => simp [Region.wanted, yielded, undef]); go_simp; refine hK _ ?_; clear hK K)
      first | (with_reducible refine wpStill_step (fun K hK => ?_); go_simp; refine hK _ ?_; clear hK K) | (with_reducible refine still_skip ?hw (fun K hK => ?_); (case hw => simp [Region.wanted, yielded, undef]); go_simp; refine hK _ ?_; clear hK K)
      first | (with_reducible refine wpStill_step (fun K hK => ?_); go_simp; refine hK _ ?_; clear hK K) | (with_reducible refine still_skip ?hw (fun K hK => ?_); (case hw => simp [Region.wanted, yielded, undef]); go_simp; refine hK _ ?_; clear hK K)
      first | (with_reducible refine wpStill_step (fun K hK => ?_); go_simp; refine hK _ ?_; clear hK K) | (with_reducible refine still_skip ?hw (fun K hK => ?_); (case hw => simp [Region.wanted, yielded, undef]); go_simp; refine hK _ ?_; clear hK K)
      first | (with_reducible refine wpStill_step (fun K hK => ?_); go_simp; refine hK _ ?_; clear hK K) | (with_reducible refine still_skip ?hw (fun K hK => ?_); (case hw => simp [Region.wanted, yielded, undef]); go_simp; refine hK _ ?_; clear hK K)
      first | (with_reducible refine wpStill_step (fun K hK => ?_); go_simp; refine hK _ ?_; clear hK K) | (with_reducible refine still_skip ?hw (fun K hK => ?_); (case hw => simp [Region.wanted, yielded, undef]); go_simp; refine hK _ ?_; clear hK K)
      first | (with_reducible refine wpStill_step (fun K hK => ?_); go_simp; refine hK _ ?_; clear hK K) | (with_reducible refine still_skip ?hw (fun K hK => ?_); (case hw => simp [Region.wanted, yielded, undef]); go_simp; refine hK _ ?_; clear hK K)
      first | (with_reducible refine wpStill_step (fun K hK => ?_); go_simp; refine hK _ ?_; clear hK K) | (with_reducible refine still_skip ?hw (fun K hK => ?_); (case hw => simp [Region.wanted, yielded, undef]); go_simp; refine hK _ ?_; clear hK K)
      first | (with_reducible refine wpStill_step (fun K hK => ?_); go_simp; refine hK _ ?_; clear hK K) | (with_reducible refine still_skip ?hw (fun K hK => ?_); (case hw => simp [Region.wanted, yielded, undef]); go_simp; refine hK _ ?_; clear hK K)
      first | (with_reducible refine wpStill_step (fun K hK => ?_); go_simp; refine hK _ ?_; clear hK K) | (with_reducible refine still_skip ?hw (fun K hK => ?_); (case hw => simp [Region.wanted, yielded, undef]); go_simp; refine hK _ ?_; clear hK K)
      first | (with_reducible refine wpStill_step (fun K hK => ?_); go_simp; refine hK _ ?_; clear hK K) | (with_reducible refine still_skip ?hw (fun K hK => ?_); (case hw => simp [Region.wanted, yielded, undef]); go_simp; refine hK _ ?_; clear hK K)
      first | (with_reducible refine wpStill_step (fun K hK => ?_); go_simp; refine hK _ ?_; clear hK K) | (with_reducible refine still_skip ?hw (fun K hK => ?_); (case hw => simp [Region.wanted, yielded, undef]); go_simp; refine hK _ ?_; clear hK K)
      first | (with_reducible refine wpStill_step (fun K hK => ?_); go_simp; refine hK _ ?_; clear hK K) | (with_reducible refine still_skip ?hw (fun K hK => ?_); (case hw => simp [Region.wanted, yielded, undef]); go_simp; refine hK _ ?_; clear hK K)
      refine wpStill_nil ?_
      go_wp2_with fail
      refine still_all (by kernel_rfl) (by kernel_rfl) ?_
      generalize World.drew wd = we at *
      first | (with_reducible refine wpStill_step (fun K hK => ?_); go_simp; refine hK _ ?_; clear hK K) | (with_reducible refine still_skip ?hw (fun K hK => ?_); (case hw => simp [Region.wanted, yielded, undef]); go_simp; refine hK _ ?_; clear hK K)
      first | (with_reducible refine wpStill_step (fun K hK => ?_); go_simp; refine hK _ ?_; clear hK K) | (with_reducible refine still_skip ?hw (fun K hK => ?_); (case hw => simp [Region.wanted, yielded, undef]); go_simp; refine hK _ ?_; clear hK K)
      first | (with_reducible refine wpStill_step (fun K hK => ?_); go_simp; refine hK _ ?_; clear hK K) | (with_reducible refine still_skip ?hw (fun K hK => ?_); (case hw => simp [Region.wanted, yielded, undef]); go_simp; refine hK _ ?_; clear hK K)
      first | (with_reducible refine wpStill_step (fun K hK => ?_); go_simp; refine hK _ ?_; clear hK K) | (with_reducible refine still_skip ?hw (fun K hK => ?_); (case hw => simp [Region.wanted, yielded, undef]); go_simp; refine hK _ ?_; clear hK K)
      first | (with_reducible refine wpStill_step (fun K hK => ?_); go_simp; refine hK _ ?_; clear hK K) | (with_reducible refine still_skip ?hw (fun K hK => ?_); (case hw => simp [Region.wanted, yielded, undef]); go_simp; refine hK _ ?_; clear hK K)
      first | (with_reducible refine wpStill_step (fun K hK => ?_); go_simp; refine hK _ ?_; clear hK K) | (with_reducible refine still_skip ?hw (fun K hK => ?_); (case hw => simp [Region.wanted, yielded, undef]); go_simp; refine hK _ ?_; clear hK K)
      first | (with_reducible refine wpStill_step (fun K hK => ?_); go_simp; refine hK _ ?_; clear hK K) | (with_reducible refine still_skip ?hw (fun K hK => ?_); (case hw => simp [Region.wanted, yielded, undef]); go_simp; refine hK _ ?_; clear hK K)
      first | (with_reducible refine wpStill_step (fun K hK => ?_); go_simp; refine hK _ ?_; clear hK K) | (with_reducible refine still_skip ?hw (fun K hK => ?_); (case hw => simp [Region.wanted, yielded, undef]); go_simp; refine hK _ ?_; clear hK K)
      first | (with_reducible refine wpStill_step (fun K hK => ?_); go_simp; refine hK _ ?_; clear hK K) | (with_reducible refine still_skip ?hw (fun K hK => ?_); (case hw => simp [Region.wanted, yielded, undef]); go_simp; refine hK _ ?_; clear hK K)
      first | (with_reducible refine wpStill_step (fun K hK => ?_); go_simp; refine hK _ ?_; clear hK K) | (with_reducible refine still_skip ?hw (fun K hK => ?_); (case hw => simp [Region.wanted, yielded, undef]); go_simp; refine hK _ ?_; clear hK K)
      first | (with_reducible refine wpStill_step (fun K hK => ?_); go_simp; refine hK _ ?_; clear hK K) | (with_reducible refine still_skip ?hw (fun K hK => ?_); (case hw => simp [Region.wanted, yielded, undef]); go_simp; refine hK _ ?_; clear hK K)
      first | (with_reducible refine wpStill_step (fun K hK => ?_); go_simp; refine hK _ ?_; clear hK K) | (with_reducible refine still_skip ?hw (fun K hK => ?_); (case hw => simp [Region.wanted, yielded, undef]); go_simp; refine hK _ ?_; clear hK K)
      first | (with_reducible refine wpStill_step (fun K hK => ?_); go_simp; refine hK _ ?_; clear hK K) | (with_reducible refine still_skip ?hw (fun K hK => ?_); (case hw => simp [Region.wanted, yielded, undef]); go_simp; refine hK _ ?_; clear hK K)
      first | (with_reducible refine wpStill_step (fun K hK => ?_); go_simp; refine hK _ ?_; clear hK K) | (with_reducible refine still_skip ?hw (fun K hK => ?_); (case hw => simp [Region.wanted, yielded, undef]); go_simp; refine hK _ ?_; clear hK K)
      first | (with_reducible refine wpStill_step (fun K hK => ?_); go_simp; refine hK _ ?_; clear hK K) | (with_reducible refine still_skip ?hw (fun K hK => ?_); (case hw => simp [Region.wanted, yielded, undef]); go_simp; refine hK _ ?_; clear hK K)
      first | (with_reducible refine wpStill_step (fun K hK => ?_); go_simp; refine hK _ ?_; clear hK K) | (with_reducible refine still_skip ?hw (fun K hK => ?_); (case hw => simp [Region.wanted, yielded, undef]); go_simp; refine hK _ ?_; clear hK K)
      first | (with_reducible refine wpStill_step (fun K hK => ?_); go_simp; refine hK _ ?_; clear hK K) | (with_reducible refine still_skip ?hw (fun K hK => ?_); (case hw => simp [Region.wanted, yielded, undef]); go_simp; refine hK _ ?_; clear hK K)
      first | (with_reducible refine wpStill_step (fun K hK => ?_); go_simp; refine hK _ ?_; clear hK K) | (with_reducible refine still_skip ?hw (fun K hK => ?_); (case hw => simp [Region.wanted, yielded, undef]); go_simp; refine hK _ ?_; clear hK K)
      first | (with_reducible refine wpStill_step (fun K hK => ?_); go_simp; refine hK _ ?_; clear hK K) | (with_reducible refine still_skip ?hw (fun K hK => ?_); (case hw => simp [Region.wanted, yielded, undef]); go_simp; refine hK _ ?_; clear hK K)
      first | (with_reducible refine wpStill_step (fun K hK => ?_); go_simp; refine hK _ ?_; clear hK K) | (with_reducible refine still_skip ?hw (fun K hK => ?_); (case hw => simp [Region.wanted, yielded, undef]); go_simp; refine hK _ ?_; clear hK K)
      first | (with_reducible refine wpStill_step (fun K hK => ?_); go_simp; refine hK _ ?_; clear hK K) | (with_reducible refine still_skip ?hw (fun K hK => ?_); (case hw => simp [Region.wanted, yielded, undef]); go_simp; refine hK _ ?_; clear hK K)
      first | (with_reducible refine wpStill_step (fun K hK => ?_); go_simp; refine hK _ ?_; clear hK K) | (with_reducible refine still_skip ?hw (fun K hK => ?_); (case hw => simp [Region.wanted, yielded, undef]); go_simp; refine hK _ ?_; clear hK K)
      first | (with_reducible refine wpStill_step (fun K hK => ?_); go_simp; refine hK _ ?_; clear hK K) | (with_reducible refine still_skip ?hw (fun K hK => ?_); (case hw => simp [Region.wanted, yielded, undef]); go_simp; refine hK _ ?_; clear hK K)
      first | (with_reducible refine wpStill_step (fun K hK => ?_); go_simp; refine hK _ ?_; clear hK K) | (with_reducible refine still_skip ?hw (fun K hK => ?_); (case hw => simp [Region.wanted, yielded, undef]); go_simp; refine hK _ ?_; clear hK K)
      first | (with_reducible refine wpStill_step (fun K hK => ?_); go_simp; refine hK _ ?_; clear hK K) | (with_reducible refine still_skip ?hw (fun K hK => ?_); (case hw => simp [Region.wanted, yielded, undef]); go_simp; refine hK _ ?_; clear hK K)
      first | (with_reducible refine wpStill_step (fun K hK => ?_); go_simp; refine hK _ ?_; clear hK K) | (with_reducible refine still_skip ?hw (fun K hK => ?_); (case hw => simp [Region.wanted, yielded, undef]); go_simp; refine hK _ ?_; clear hK K)
      first | (with_reducible refine wpStill_step (fun K hK => ?_); go_simp; refine hK _ ?_; clear hK K) | (with_reducible refine still_skip ?hw (fun K hK => ?_); (case hw => simp [Region.wanted, yielded, undef]); go_simp; refine hK _ ?_; clear hK K)
      first | (with_reducible refine wpStill_step (fun K hK => ?_); go_simp; refine hK _ ?_; clear hK K) | (with_reducible refine still_skip ?hw (fun K hK => ?_); (case hw => simp [Region.wanted, yielded, undef]); go_simp; refine hK _ ?_; clear hK K)
      first | (with_reducible refine wpStill_step (fun K hK => ?_); go_simp; refine hK _ ?_; clear hK K) | (with_reducible refine still_skip ?hw (fun K hK => ?_); (case hw => simp [Region.wanted, yielded, undef]); go_simp; refine hK _ ?_; clear hK K)
      first | (with_reducible refine wpStill_step (fun K hK => ?_); go_simp; refine hK _ ?_; clear hK K) | (with_reducible refine still_skip ?hw (fun K hK => ?_); (case hw => simp [Region.wanted, yielded, undef]); go_simp; refine hK _ ?_; clear hK K)
      refine wpStill_nil ?_
      go_wp2_with fail
      go_ret
      exact ⟨rfl, HBD.out⟩
  · have dp : decide (p < a.length) = false := decide_eq_false hpl
    obtain rfl : p = a.length := by omega
    have bp : ((a.length : Int) == (a.length : Int)) = true := by simp
    by_cases hql : q < b.length
    · have dq : decide (q < b.length) = true := decide_eq_true hql
      have hqlI : (q : Int) < (b.length : Int) := by omega
      have bq : ((q : Int) == (b.length : Int)) = false := by rw [beq_nat]; exact decide_eq_false (by omega)
      have HS := Lib.hid (kindS_of (st_put_end (a := a) hql))
      rw [HS.out]
      go_enter Try.func36, Try.ntmps36
      go_wp2_with fail
      refine still_all (by kernel_rfl) (by kernel_rfl) ?_
      generalize World.drew w = wd at *
      first | (with_reducible refine wpStill_step (fun K hK => ?_); go_simp; refine hK _ ?_; clear hK K) | (with_reducible refine still_skip ?hw (fun K hK => ?_); (case hw => simp [Region.wanted, yielded, undef]); go_simp; refine hK _ ?_; clear hK K)
      first | (with_reducible refine wpStill_step (fun K hK => ?_); go_simp; refine hK _ ?_; clear hK K) | (with_reducible refine still_skip ?hw (fun K hK => ?_); (case hw => simp [Region.wanted, yielded, undef]); go_simp; refine hK _ ?_; clear hK K)
      first | (with_reducible refine wpStill_step (fun K hK => ?_); go_simp; refine hK _ ?_; clear hK K) | (with_reducible refine still_skip ?hw (fun K hK => ?_); (case hw => simp [Region.wanted, yielded, undef]); go_simp; refine hK _ ?_; clear hK K)
      first | (with_reducible refine wpStill_step (fun K hK => ?_); go_simp; refine hK _ ?_; clear hK K) | (with_reducible refine still_skip ?hw (fun K hK => ?_); (case hw => simp [Region.wanted, yielded, undef]); go_simp; refine hK _ ?_; clear hK K)
      first | (with_reducible refine wpStill_step (fun K hK => ?_); go_simp; refine hK _ ?_; clear hK K) | (with_reducible refine still_skip ?hw (fun K hK => ?_); (case hw => simp [Region.wanted, yielded, undef]); go_simp; refine hK _ ?_; clear hK K)
      first | (with_reducible refine wpStill_step (fun K hK => ?_); go_simp; refine hK _ ?_; clear hK K) | (with_reducible refine still_skip ?hw (fun K hK => ?_); (case hw => simp [Region.wanted, yielded, undef]); go_simp; refine hK _ ?_; clear hK K)
      first | (with_reducible refine wpStill_step (fun K hK => ?_); go_simp; refine hK _ ?_; clear hK K) | (with_reducible refine still_skip ?hw (fun K hK => ?_); (case hw => simp [Region.wanted, yielded, undef]); go_simp; refine hK _ ?_; clear hK K)
      first | (with_reducible refine wpStill_step (fun K hK => ?_); go_simp; refine hK _ ?_; clear hK K) | (with_reducible refine still_skip ?hw (fun K hK => ?_); (case hw => simp [Region.wanted, yielded, undef]); go_simp; refine hK _ ?_; clear hK K)
      first | (with_reducible refine wpStill_step (fun K hK => ?_); go_simp; refine hK _ ?_; clear hK K) | (with_reducible refine still_skip ?hw (fun K hK => ?_); (case hw => simp [Region.wanted, yielded, undef]); go_simp; refine hK _ ?_; clear hK K)
      first | (with_reducible refine wpStill_step (fun K hK => ?_); go_simp; refine hK _ ?_; clear hK K) | (with_reducible refine still_skip ?hw (fun K hK => ?_); (case hw => simp [Region.wanted, yielded, undef]); go_simp; refine hK _ ?_; clear hK K)
      first | (with_reducible refine wpStill_step (fun K hK => ?_); go_simp; refine hK _ ?_; clear hK K) | (with_reducible refine still_skip ?hw (fun K hK => ?_); (case hw => simp [Region.wanted, yielded, undef]); go_simp; refine hK _ ?_; clear hK K)
      first | (with_reducible refine wpStill_step (fun K hK => ?_); go_simp; refine hK _ ?_; clear hK K) | (with_reducible refine still_skip ?hw (fun K hK => ?_); (case hw => simp [Region.wanted, yielded, undef]); go_simp; refine hK _ ?_; clear hK K)
      first | (with_reducible refine wpStill_step (fun K hK => ?_); go_simp; refine hK _ ?_; clear hK K) | (with_reducible refine still_skip ?hw (fun K hK => ?_); (case hw => simp [Region.wanted, yielded, undef]); go_simp; refine hK _ ?_; clear hK K)
      first | (with_reducible refine wpStill_step (fun K hK => ?_); go_simp; refine hK _ ?_; clear hK K) | (with_reducible refine still_skip ?hw (fun K hK => ?_); (case hw => simp [Region.wanted, yielded, undef]); go_simp; refine hK _ ?_; clear hK K)
      first | (with_reducible refine wpStill_step (fun K hK => ?_); go_simp; refine hK _ ?_; clear hK K) | (with_reducible refine still_skip ?hw (fun K hK => ?_); (case hw => simp [Region.wanted, yielded, undef]); go_simp; refine hK _ ?_; clear hK K)
      first | (with_reducible refine wpStill_step (fun K hK => ?_); go_simp; refine hK _ ?_; clear hK K) | (with_reducible refine still_skip ?hw (fun K hK => ?_); (case hw => simp [Region.wanted, yielded, undef]); go_simp; refine hK _ ?_; clear hK K)
      first | (with_reducible refine wpStill_step (fun K hK => ?_); go_simp; refine hK _ ?_; clear hK K) | (with_reducible refine still_skip ?hw (fun K hK => ?_); (case hw => simp [Region.wanted, yielded, undef]); go_simp; refine hK _ ?_; clear hK K)
      first | (with_reducible refine wpStill_step (fun K hK => ?_); go_simp; refine hK _ ?_; clear hK K) | (with_reducible refine still_skip ?hw (fun K hK => ?_); (case hw => simp [Region.wanted, yielded, undef]); go_simp; refine hK _ ?_; clear hK K)
      first | (with_reducible refine wpStill_step (fun K hK => ?_); go_simp; refine hK _ ?_; clear hK K) | (with_reducible refine still_skip ?hw (fun K hK => ?_); (case hw => simp [Region.wanted, yielded, undef]); go_simp; refine hK _ ?_; clear hK K)
      first | (with_reducible refine wpStill_step (fun K hK => ?_); go_simp; refine hK _ ?_; clear hK K) | (with_reducible refine still_skip ?hw (fun K hK => ?_); (case hw => simp [Region.wanted, yielded, undef]); go_simp; refine hK _ ?_; clear hK K)
      refine wpStill_nil ?_
      go_wp2_with fail
      refine still_all (by kernel_rfl) (by kernel_rfl) ?_
      generalize World.drew wd = we at *
      first | (with_reducible refine wpStill_step (fun K hK => ?_); go_simp; refine hK _ ?_; clear hK K) | (with_reducible refine still_skip ?hw (fun K hK => ?_); (case hw => simp [Region.wanted, yielded, undef]); go_simp; refine hK _ ?_; clear hK K)
      first | (with_reducible refine wpStill_step (fun K hK => ?_); go_simp; refine hK _ ?_; clear hK K) | (with_reducible refine still_skip ?hw (fun K hK => ?_); (case hw => simp [Region.wanted, yielded, undef]); go_simp; refine hK _ ?_; clear hK K)
      first | (with_reducible refine wpStill_step (fun K hK => ?_); go_simp; refine hK _ ?_; clear hK K) | (with_reducible refine still_skip ?hw (fun K hK => ?_); (case hw => simp [Region.wanted, yielded, undef]); go_simp; refine hK _ ?_; clear hK K)
      first | (with_reducible refine wpStill_step (fun K hK => ?_); go_simp; refine hK _ ?_; clear hK K) | (with_reducible refine still_skip ?hw (fun K hK => ?_); (case hw => simp [Region.wanted, yielded, undef]); go_simp; refine hK _ ?_; clear hK K)
      first | (with_reducible refine wpStill_step (fun K hK => ?_); go_simp; refine hK _ ?_; clear hK K) | (with_reducible refine still_skip ?hw (fun K hK => ?_); (case hw => simp [Region.wanted, yielded, undef]); go_simp; refine hK _ ?_; clear hK K)
      first | (with_reducible refine wpStill_step (fun K hK => ?_); go_simp; refine hK _ ?_; clear hK K) | (with_reducible refine still_skip ?hw (fun K hK => ?_); (case hw => simp [Region.wanted, yielded, undef]); go_simp; refine hK _ ?_; clear hK K)
      first | (with_reducible refine wpStill_step (fun K hK => ?_); go_simp; refine hK _ ?_; clear hK K) | (with_reducible refine still_skip ?hw (fun K hK => ?_); (case hw => simp [Region.wanted, yielded, undef]); go_simp; refine hK _ ?_; clear hK K)
      first | (with_reducible refine wpStill_step (fun K hK => ?_); go_simp; refine hK _ ?_; clear hK K) | (with_reducible refine still_skip ?hw (fun K hK => ?_); (case hw => simp [Region.wanted, yielded, undef]); go_simp; refine hK _ ?_; clear hK K)
      first | (with_reducible refine wpStill_step (fun K hK => ?_); go_simp; refine hK _ ?_; clear hK K) | (with_reducible refine still_skip ?hw (fun K hK => ?_); (case hw => simp [Region.wanted, yielded, undef]); go_simp; refine hK _ ?_; clear hK K)
      first | (with_reducible refine wpStill_step (fun K hK => ?_); go_simp; refine hK _ ?_; clear hK K) | (with_reducible refine still_skip ?hw (fun K hK => ?_); (case hw => simp [Region.wanted, yielded, undef]); go_simp; refine hK _ ?_; clear hK K)
      first | (with_reducible refine wpStill_step (fun K hK => ?_); go_simp; refine hK _ ?_; clear hK K) | (with_reducible refine still_skip ?hw (fun K hK => ?_); (case hw => simp [Region.wanted, yielded, undef]); go_simp; refine hK _ ?_; clear hK K)
      first | (with_reducible refine wpStill_step (fun K hK => ?_); go_simp; refine hK _ ?_; clear hK K) | (with_reducible refine still_skip ?hw (fun K hK => ?_); (case hw => simp [Region.wanted, yielded, undef]); go_simp; refine hK _ ?_; clear hK K)
      first | (with_reducible refine wpStill_step (fun K hK => ?_); go_simp; refine hK _ ?_; clear hK K) | (with_reducible refine still_skip ?hw (fun K hK => ?_); (case hw => simp [Region.wanted, yielded, undef]); go_simp; refine hK _ ?_; clear hK K)
      first | (with_reducible refine wpStill_step (fun K hK => ?_); go_simp; refine hK _ ?_; clear hK K) | (with_reducible refine still_skip ?hw (fun K hK => ?_); (case hw => simp [Region.wanted, yielded, undef]); go_simp; refine hK _ ?_; clear hK K)
      first | (with_reducible refine wpStill_step (fun K hK => ?_); go_simp; refine hK _ ?_; clear hK K) | (with_reducible refine still_skip ?hw (fun K hK => ?_); (case hw => simp [Region.wanted, yielded, undef]); go_simp; refine hK _ ?_; clear hK K)
      first | (with_reducible refine wpStill_step (fun K hK => ?_); go_simp; refine hK _ ?_; clear hK K) | (with_reducible refine still_skip ?hw (fun K hK => ?_); (case hw => simp [Region.wanted, yielded, undef]); go_simp; refine hK _ ?_; clear hK K)
      first | (with_reducible refine wpStill_step (fun K hK => ?_); go_simp; refine hK _ ?_; clear hK K) | (with_reducible refine still_skip ?hw (fun K hK => ?_); (case hw => simp [Region.wanted, yielded, undef]); go_simp; refine hK _ ?_; clear hK K)
      first | (with_reducible refine wpStill_step (fun K hK => ?_); go_simp; refine hK _ ?_; clear hK K) | (with_reducible refine still_skip ?hw (fun K hK => ?_); (case hw => simp [Region.wanted, yielded, undef]); go_simp; refine hK _ ?_; clear hK K)
      first | (with_reducible refine wpStill_step (fun K hK => ?_); go_simp; refine hK _ ?_; clear hK K) | (with_reducible refine still_skip ?hw (fun K hK => ?_); (case hw => simp [Region.wanted, yielded, undef]); go_simp; refine hK _ ?_; clear hK K)
      first | (with_reducible refine wpStill_step (fun K hK => ?_); go_simp; refine hK _ ?_; clear hK K) | (with_reducible refine still_skip ?hw (fun K hK => ?_); (case hw => simp [Region.wanted, yielded, undef]); go_simp; refine hK _ ?_; clear hK K)
      first | (with_reducible refine wpStill_step (fun K hK => ?_); go_simp; refine hK _ ?_; clear hK K) | (with_reducible refine still_skip ?hw (fun K hK => ?_); (case hw => simp [Region.wanted, yielded, undef]); go_simp; refine hK _ ?_; clear hK K)
      first | (with_reducible refine wpStill_step (fun K hK => ?_); go_simp; refine hK _ ?_; clear hK K) | (with_reducible refine still_skip ?hw (fun K hK => ?_); (case hw => simp [Region.wanted, yielded, undef]); go_simp; refine hK _ ?_; clear hK K)
      first | (with_reducible refine wpStill_step (fun K hK => ?_); go_simp; refine hK _ ?_; clear hK K) | (with_reducible refine still_skip ?hw (fun K hK => ?_); (case hw => simp [Region.wanted, yielded, undef]); go_simp; refine hK _ ?_; clear hK K)
      first | (with_reducible refine wpStill_step (fun K hK => ?_); go_simp; refine hK _ ?_; clear hK K) | (with_reducible refine still_skip ?hw (fun K hK => ?_); (case hw => simp [Region.wanted, yielded, undef]); go_simp; refine hK _ ?_; clear hK K)
      first | (with_reducible refine wpStill_step (fun K hK => ?_); go_simp; refine hK _ ?_; clear hK K) | (with_reducible refine still_skip ?hw (fun K hK => ?_); (case hw => simp [Region.wanted, yielded, undef]); go_simp; refine hK _ ?_; clear hK K)
      first | (with_reducible refine wpStill_step (fun K hK => ?_); go_simp; refine hK _ ?_; clear hK K) | (with_reducible refine still_skip ?hw (fun K hK => ?_); (case hw => simp [Region.wanted, yielded, undef]); go_simp; refine hK _ ?_; clear hK K)
      first | (with_reducible refine wpStill_step (fun K hK => ?_); go_simp; refine hK _ ?_; clear hK K) | (with_reducible refine still_skip ?hw (fun K hK => ?_); (case hw => simp [Region.wanted, yielded, undef]); go_simp; refine hK _ ?_; clear hK K)
      first | (with_reducible refine wpStill_step (fun K hK => ?_); go_simp; refine hK _ ?_; clear hK K) | (with_reducible refine still_skip ?hw (fun K hK => ?_); (case hw => simp [Region.wanted, yielded, undef]); go_simp; refine hK _ ?_; clear hK K)
      first | (with_reducible refine wpStill_step (fun K hK => ?_); go_simp; refine hK _ ?_; clear hK K) | (with_reducible refine still_skip ?hw (fun K hK => ?_); (case hw => simp [Region.wanted, yielded, undef]); go_simp; refine hK _ ?_; clear hK K)
      first | (with_reducible refine wpStill_step (fun K hK => ?_); go_simp; refine hK _ ?_; clear hK K) | (with_reducible refine still_skip ?hw (fun K hK => ?_); (case hw => simp [Region.wanted, yielded, undef]); go_simp; refine hK _ ?_; clear hK K)
      refine wpStill_nil ?_
      go_wp2_with fail
      go_ret
      exact ⟨rfl, HBD.out⟩
    · have dq : decide (q < b.length) = false := decide_eq_false hql
      obtain rfl : q = b.length := by omega
      have bq : ((b.length : Int) == (b.length : Int)) = true := by simp
      rw [kindS_end]
      go_enter Try.func36, Try.ntmps36
      go_wp2_with fail
      go_ret
      exact ⟨rfl, Below.refl _ _⟩
end Go.Proofs.Ytmanafhdmijfeaa
