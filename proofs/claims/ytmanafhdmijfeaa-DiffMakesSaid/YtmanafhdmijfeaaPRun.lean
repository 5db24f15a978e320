/- Runs: the script, run by run. -/
import Derived.Test.YtmanafhdmijfeaaPMk
namespace Go.Proofs.Ytmanafhdmijfeaa
open Go Go.RowKit

theorem run_str_mid {P : Program} {t : TypeId} (ht : P.underlying t = some .string) (l : List UInt8) (i j : Nat) (hij : i ≤ j) (hj : j ≤ l.length) (w : World) :
    (Instr.slice t (.string (sB l)) (some (.int .i64 (i : Int))) (some (.int .i64 (j : Int))) none).run P w = .ok (.string (sB ((l.take j).drop i))) w := by
  rw [run_slice_string (P := P) (w := w) t (sB l) .i64 .i64 (i : Int) (j : Int) ht (by omega) (by omega) (by rw [sB_size]; omega), sB_extract, Int.toNat_natCast, Int.toNat_natCast]

/-- A run's edit: from (p0, q0) to (p, q). -/
def runE (a b : List UInt8) (kd : Int) (p0 q0 p q : Nat) : Ed := newE kd ((a.take p).drop p0) ((b.take q).drop q0)
theorem newE_kind (kd : Int) (f t : List UInt8) : (newE kd f t).kind = kd := by unfold newE; split <;> simp_all

/-- One step. -/
inductive StepAt (a b : List UInt8) (p q : Nat) : Int → Prop
  | keep (hp : p < a.length) (hq : q < b.length) (h : steps (a.drop p) (b.drop q) = (1, []) :: steps (a.drop (p + 1)) (b.drop (q + 1))) : StepAt a b p q 1
  | cut (hp : p < a.length) (h : steps (a.drop p) (b.drop q) = (2, []) :: steps (a.drop (p + 1)) (b.drop q)) : StepAt a b p q 2
  | put (hq : q < b.length) (h : steps (a.drop p) (b.drop q) = (3, [b[q]]) :: steps (a.drop p) (b.drop (q + 1))) : StepAt a b p q 3
  | done (h : steps (a.drop p) (b.drop q) = []) : StepAt a b p q 0

theorem step_at (a b : List UInt8) (p q : Nat) (hp : p ≤ a.length) (hq : q ≤ b.length) : StepAt a b p q (kindS a b p q) := by
  by_cases hpl : p < a.length
  · by_cases hql : q < b.length
    · by_cases hab : a[p] = b[q]
      · have h := st_keep hpl hql hab
        rw [kindS_of h]; exact .keep hpl hql h
      · by_cases hd : D a b (p + 1) q ≤ D a b p (q + 1)
        · have h := st_cut hpl hql hab hd
          rw [kindS_of h]; exact .cut hpl h
        · have h := st_put hpl hql hab hd
          rw [kindS_of h]; exact .put hql h
    · obtain rfl : q = b.length := by omega
      have h := st_cut_end (b := b) hpl
      rw [kindS_of h]; exact .cut hpl h
  · obtain rfl : p = a.length := by omega
    by_cases hql : q < b.length
    · have h := st_put_end (a := a) hql
      rw [kindS_of h]; exact .put hql h
    · obtain rfl : q = b.length := by omega
      rw [kindS_end]; exact .done (by rw [List.drop_length, List.drop_length, steps])

/-- Within a run. -/
structure RunI (a b : List UInt8) (K : List Ed) (kd : Int) (p0 q0 p q : Nat) : Prop where
  hp0 : p0 ≤ p
  hq0 : q0 ≤ q
  hp : p ≤ a.length
  hq : q ≤ b.length
  last : ∀ x, K.getLast? = some x → x.kind ≠ kd
  bld : (p = p0 ∧ q = q0 ∧ build K (steps (a.drop p) (b.drop q)) = scriptS a b) ∨ (p0 + q0 < p + q ∧ build (K ++ [runE a b kd p0 q0 p q]) (steps (a.drop p) (b.drop q)) = scriptS a b)
  len : K.length ≤ p0 + q0

theorem more_first {K : List Ed} {kd : Int} {s : List UInt8} (h : ∀ x, K.getLast? = some x → x.kind ≠ kd) : moreS K kd s = K ++ [growE ⟨kd, 0, []⟩ kd s] := by
  rcases List.eq_nil_or_concat K with rfl | ⟨K', e, rfl⟩
  · exact moreS_nil kd s
  · rw [List.concat_eq_append] at h ⊢
    exact moreS_other (h e (by simp))
theorem mid_next {l : List UInt8} {i j : Nat} (hij : i ≤ j) (hj : j < l.length) : (l.take (j + 1)).drop i = (l.take j).drop i ++ [l[j]] := by
  rw [List.take_succ_eq_append_getElem hj, List.drop_append_of_le_length (by rw [List.length_take]; omega)]
theorem mid_length {l : List UInt8} {i j : Nat} (hj : j ≤ l.length) : ((l.take j).drop i).length = j - i := by
  rw [List.length_drop, List.length_take]; omega

theorem run_keep {a b : List UInt8} {p0 q0 p q : Nat} (h0 : p0 ≤ p) (hp : p < a.length) (q' : Nat) : growE (runE a b 1 p0 q0 p q) 1 [] = runE a b 1 p0 q0 (p + 1) q' := by
  unfold growE runE newE
  simp only [if_neg (show ¬ (1 : Int) = 3 by decide), mid_length (show p + 1 ≤ a.length by omega), mid_length (show p ≤ a.length by omega)]
  congr 1; omega
theorem run_cut {a b : List UInt8} {p0 q0 p q : Nat} (h0 : p0 ≤ p) (hp : p < a.length) (q' : Nat) : growE (runE a b 2 p0 q0 p q) 2 [] = runE a b 2 p0 q0 (p + 1) q' := by
  unfold growE runE newE
  simp only [if_neg (show ¬ (2 : Int) = 3 by decide), mid_length (show p + 1 ≤ a.length by omega), mid_length (show p ≤ a.length by omega)]
  congr 1; omega
theorem run_put {a b : List UInt8} {p0 q0 p q : Nat} (h0 : q0 ≤ q) (hq : q < b.length) (p' : Nat) : growE (runE a b 3 p0 q0 p q) 3 [b[q]] = runE a b 3 p0 q0 p' (q + 1) := by
  unfold growE runE newE
  simp only [if_pos, mid_next h0 hq]
theorem run_zero {a b : List UInt8} {p q : Nat} {kd : Int} {s : List UInt8} : growE (runE a b kd p q p q) kd s = growE ⟨kd, 0, []⟩ kd s := by
  unfold runE newE
  by_cases h : kd = 3
  · subst h; simp
  · rw [if_neg h]; simp

/-- One step more of a run. -/
theorem run_step {a b : List UInt8} {K : List Ed} {kd : Int} {s : List UInt8} {p0 q0 p q p' q' : Nat} (h : RunI a b K kd p0 q0 p q) (hst : steps (a.drop p) (b.drop q) = (kd, s) :: steps (a.drop p') (b.drop q'))
    (hp : p ≤ p') (hq : q ≤ q') (hpq : p + q < p' + q') (hp' : p' ≤ a.length) (hq' : q' ≤ b.length) (hg : growE (runE a b kd p0 q0 p q) kd s = runE a b kd p0 q0 p' q') : RunI a b K kd p0 q0 p' q' := by
  have e0 := h.hp0
  have e1 := h.hq0
  refine ⟨by omega, by omega, hp', hq', h.last, .inr ⟨by omega, ?_⟩, h.len⟩
  rcases h.bld with ⟨rfl, rfl, hb⟩ | ⟨-, hb⟩
  · rw [hst, build_cons, more_first h.last, ← run_zero (a := a) (b := b) (p := p) (q := q), hg] at hb
    exact hb
  · rw [hst, build_cons] at hb
    simp only [] at hb
    rw [moreS_same (show (runE a b kd p0 q0 p q).kind = kd from newE_kind _ _ _), hg] at hb
    exact hb
theorem run_next {a b : List UInt8} {K : List Ed} {kd nk : Int} {p0 q0 p q : Nat} (h : RunI a b K kd p0 q0 p q) (hpq : p0 + q0 < p + q) (hk : nk ≠ kd) : RunI a b (K ++ [runE a b kd p0 q0 p q]) nk p q p q := by
  refine ⟨Nat.le_refl _, Nat.le_refl _, h.hp, h.hq, fun x hx => ?_, .inl ⟨rfl, rfl, ?_⟩, ?_⟩
  · rw [List.getLast?_append] at hx
    simp at hx
    subst hx
    unfold runE
    rw [newE_kind]
    exact fun e => hk e.symm
  · rcases h.bld with ⟨rfl, rfl, -⟩ | ⟨-, hb⟩
    · omega
    · exact hb
  · have := h.len
    simp; omega
theorem run_end {a b : List UInt8} {K : List Ed} {kd : Int} {p q : Nat} (h : RunI a b K kd p q p q) (hs : steps (a.drop p) (b.drop q) = []) : K = scriptS a b := by
  rcases h.bld with ⟨-, -, hb⟩ | ⟨hl, -⟩
  · rw [hs] at hb; exact hb
  · omega
theorem run_begin (a b : List UInt8) (kd : Int) : RunI a b [] kd 0 0 0 0 := ⟨Nat.le_refl _, Nat.le_refl _, Nat.zero_le _, Nat.zero_le _, fun x hx => (by cases hx), .inl ⟨rfl, rfl, rfl⟩, Nat.le_refl _⟩

/-- Where the places stand. -/
def posOf (Bi Bj : Nat) (w : World) : Nat := (intOf ((w.cell? ⟨Bi, 0, none⟩).getD undef)).toNat + (intOf ((w.cell? ⟨Bj, 0, none⟩).getD undef)).toNat

section
variable {a b : List UInt8} {R G p q Ba Bb Bc Bi Bj B T : Nat} {K K' : List Ed} {v v' : Value} {w w' : World}
theorem Env.pos (h : Env a b R G p q Ba Bb Bc Bi Bj w) : posOf Bi Bj w = p + q := by
  obtain ⟨h1, -, h2, -, -⟩ := h.cells
  unfold posOf
  rw [h1, h2]
  simp [intOf]
theorem Env.goI (h : Env a b R G p q Ba Bb Bc Bi Bj w) : Env a b R G (p + 1) q Ba Bb Bc Bi Bj (w.setCell ⟨Bi, 0, none⟩ (.int .i64 ((p : Int) + 1))) := by
  have ha := blk_ne h.ca h.ci (by decide)
  have hb := blk_ne h.cb h.ci (by decide)
  have hc := blk_ne h.cc h.ci (by decide)
  refine ⟨h.ca.far (by exact ha) _, h.cb.far (by exact hb) _, h.cc.far (by exact hc) _, h.ci.set_ 0 _, h.cj.far (by exact h.nij.symm) _, ⟨h.tab.rows.far ?_ _, h.tab.grid.far (by exact h.ngi) _⟩, h.nij, h.ngi, h.ngj⟩
  obtain ⟨cr, k1, -⟩ := h.tab.rows
  exact blk_ne k1 h.ci (by decide)
theorem Env.goJ (h : Env a b R G p q Ba Bb Bc Bi Bj w) : Env a b R G p (q + 1) Ba Bb Bc Bi Bj (w.setCell ⟨Bj, 0, none⟩ (.int .i64 ((q : Int) + 1))) := by
  have ha := blk_ne h.ca h.cj (by decide)
  have hb := blk_ne h.cb h.cj (by decide)
  have hc := blk_ne h.cc h.cj (by decide)
  refine ⟨h.ca.far (by exact ha) _, h.cb.far (by exact hb) _, h.cc.far (by exact hc) _, h.ci.far (by exact h.nij) _, h.cj.set_ 0 _, ⟨h.tab.rows.far ?_ _, h.tab.grid.far (by exact h.ngj) _⟩, h.nij, h.ngi, h.ngj⟩
  obtain ⟨cr, k1, -⟩ := h.tab.rows
  exact blk_ne k1 h.cj (by decide)
theorem Boxed.far {g : Nat} {cs : Array Value} {t : TypeId} (h : Boxed B K T v w) (hg : Blk w g t cs) (ht : t ≠ 32) (ht2 : t ≠ 22) (u : Value) : Boxed B K T v (w.setCell ⟨g, 0, none⟩ u) :=
  ⟨h.blk.far (by exact (blk_ne hg h.blk ht2).symm) u, ownsRow_setCell_other h.own (own_ne h.own hg ht) u, h.low, h.hB⟩
theorem Env.held (h : Env a b R G p q Ba Bb Bc Bi Bj w) (hX : Boxed B K T v w) (hh : Held B K' T w v' w') : Env a b R G p q Ba Bb Bc Bi Bj w' := by
  obtain ⟨⟨cr, k1, k2, k3⟩, ⟨cs, l1, l2, l3⟩⟩ := h.tab
  exact ⟨hh.stay _ _ _ (.inl (by decide)) (blk_ne h.ca hX.blk (by decide)) h.ca, hh.stay _ _ _ (.inl (by decide)) (blk_ne h.cb hX.blk (by decide)) h.cb, hh.stay _ _ _ (.inl (by decide)) (blk_ne h.cc hX.blk (by decide)) h.cc,
    hh.stay _ _ _ (.inl (by decide)) (blk_ne h.ci hX.blk (by decide)) h.ci, hh.stay _ _ _ (.inl (by decide)) (blk_ne h.cj hX.blk (by decide)) h.cj,
    ⟨⟨cr, hh.stay _ _ _ (.inl (by decide)) (blk_ne k1 hX.blk (by decide)) k1, k2, k3⟩, ⟨cs, hh.stay _ _ _ (.inl (by decide)) (blk_ne l1 hX.blk (by decide)) l1, l2, l3⟩⟩, h.nij, h.ngi, h.ngj⟩
end
end Go.Proofs.Ytmanafhdmijfeaa
