/- The document's Table: the least costs. -/
import Derived.Test.YtmanafhdmijfeaaMore
import Derived.Test.YtmanafhdmijfeaaStill
import Derived.Test.YtmanafhdmijfeaaDf
import Derived.Deep.OwnRows
import Derived.IntWalk
import Derived.Outline
namespace Go.Proofs.Ytmanafhdmijfeaa
open Go Go.RowKit

theorem infoInt : (Try.prog.info? 3).map (fun i => (i.zero, i.size, i.bytes)) = some (some (.int .i64 0), 1, 8) := by kernel_rfl
theorem infoInts : (Try.prog.info? 55).map (fun i => (i.zero, i.size, i.bytes)) = some (some (.slice none 0 0), 1, 24) := by kernel_rfl

/-- The cost from a place on. -/
def D (a b : List UInt8) (i j : Nat) : Nat := Df.dist (a.drop i) (b.drop j)
/-- Block G holds row r, from place s on. -/
def RowIs (a b : List UInt8) (w : World) (G r s : Nat) : Prop := ∃ cs, Blk w G 3 cs ∧ cs.size = b.length + 1 ∧ ∀ j, s ≤ j → j ≤ b.length → cs[j]? = some (.int .i64 (D a b r j : Int))
/-- The rows from t on are there. -/
def RowsAre (a b : List UInt8) (w : World) (R : Nat) (g : Nat → Nat) (t : Nat) : Prop :=
  (∃ cs, Blk w R 55 cs ∧ cs.size = a.length + 1 ∧ ∀ r, t ≤ r → r ≤ a.length → cs[r]? = some (.slice (some ⟨g r, 0, none⟩) (b.length + 1) (b.length + 1))) ∧ ∀ r, t ≤ r → r ≤ a.length → RowIs a b w (g r) r 0

/-- What stands in the loop over the rows. -/
def TabO (a b : List UInt8) (R : Nat) (w : World) (i : Value) (wr : World) : Prop :=
  ∃ (t : Nat) (g : Nat → Nat), t ≤ a.length + 1 ∧ i = .int .i64 ((t : Int) - 1) ∧ RowsAre a b wr R g t ∧ Below w.heap.size w wr

theorem make_ints (n : Nat) (hn : n ≤ 1000) (w : World) : (Instr.makeSlice 55 (.int .i64 ((n : Int) + 1)) (.int .i64 ((n : Int) + 1))).run Try.prog w = .ok (.slice (some ⟨w.heap.size, 0, none⟩) (n + 1) (n + 1)) (w.alloc (.cells (madeCells #[.int .i64 0] (n + 1)) 3)) := by
  have h := run_make_row' (P := Try.prog) 55 3 (.int .i64 0) 8 Try.underlying55 infoInt rfl .i64 .i64 (n + 1) (by omega) (by omega) w
  rwa [Int.natCast_add] at h
theorem make_rows (n : Nat) (hn : n ≤ 1000) (w : World) : (Instr.makeSlice 52 (.int .i64 ((n : Int) + 1)) (.int .i64 ((n : Int) + 1))).run Try.prog w = .ok (.slice (some ⟨w.heap.size, 0, none⟩) (n + 1) (n + 1)) (w.alloc (.cells (madeCells #[.slice none 0 0] (n + 1)) 55)) := by
  have h := run_make_row' (P := Try.prog) 52 55 (.slice none 0 0) 24 Try.underlying52 infoInts rfl .i64 .i64 (n + 1) (by omega) (by omega) w
  rwa [Int.natCast_add] at h
theorem made_size (z : Value) (n : Nat) : (madeCells #[z] n).size = n := by
  rw [← Array.length_toList, toList_madeCells_one, List.length_replicate]

/-- What stands in the loop over a row: row u is there from s on, those behind it whole. -/
structure TabI (a b : List UInt8) (R : Nat) (g : Nat → Nat) (u s : Nat) (w : World) (wr : World) : Prop where
  rows : ∃ cs, Blk wr R 55 cs ∧ cs.size = a.length + 1 ∧ ∀ r, u ≤ r → r ≤ a.length → cs[r]? = some (.slice (some ⟨g r, 0, none⟩) (b.length + 1) (b.length + 1))
  row : RowIs a b wr (g u) u s
  rest : ∀ r, u < r → r ≤ a.length → RowIs a b wr (g r) r 0 ∧ g r < g u
  hB : Below w.heap.size w wr
  hR : w.heap.size ≤ R
  hG : w.heap.size ≤ g u

theorem blk_ne {w : World} {g g' : Nat} {t t' : TypeId} {cs cs' : Array Value} (h : Blk w g t cs) (h' : Blk w g' t' cs') (hne : t ≠ t') : g ≠ g' := by
  rintro rfl
  unfold Blk at h h'
  rw [h] at h'
  simp only [Option.some.injEq, Obj.cells.injEq] at h'
  exact hne h'.2.1

section
variable {a b : List UInt8} {R u s v : Nat} {g : Nat → Nat} {w wr : World}
theorem RowIs.lt {G r : Nat} (h : RowIs a b wr G r s) : G < wr.heap.size := by
  obtain ⟨cs, h1, -⟩ := h
  exact h1.lt
theorem RowIs.far {G r : Nat} (h : RowIs a b wr G r s) {p : Addr} (hp : G ≠ p.block) (x : Value) : RowIs a b (wr.setCell p x) G r s := by
  obtain ⟨cs, h1, h2, h3⟩ := h
  exact ⟨cs, h1.far hp x, h2, h3⟩
theorem RowIs.later {G r : Nat} {w' : World} (h : RowIs a b wr G r s) (hb : Below wr.heap.size wr w') : RowIs a b w' G r s := by
  obtain ⟨cs, h1, h2, h3⟩ := h
  exact ⟨cs, h1.later hb, h2, h3⟩
theorem RowIs.ne {G r : Nat} {cs : Array Value} (h : RowIs a b wr G r s) (hR : Blk wr R 55 cs) : G ≠ R := by
  obtain ⟨cs', h1, -⟩ := h
  exact blk_ne h1 hR (by decide)

theorem TabI.drew (h : TabI a b R g u s w wr) : TabI a b R g u s w wr.drew := ⟨h.rows, h.row, h.rest, h.hB.drew, h.hR, h.hG⟩

/-- A row is begun. -/
theorem tab_start {t : Nat} {G : Nat} (h : RowsAre a b wr R g (t + 1)) (ht : t ≤ a.length) (hB : Below w.heap.size w wr) (hR : w.heap.size ≤ R) (hG : G = wr.heap.size) :
    TabI a b R (fun r => if r = t then G else g r) t (b.length + 1) w ((wr.alloc (.cells (madeCells #[.int .i64 0] (b.length + 1)) 3)).setCell ⟨R, t, none⟩ (.slice (some ⟨G, 0, none⟩) (b.length + 1) (b.length + 1))) := by
  obtain ⟨⟨cs, h1, h2, h3⟩, h4⟩ := h
  have hlt := h1.lt
  have hb : Below wr.heap.size wr (wr.alloc (.cells (madeCells #[.int .i64 0] (b.length + 1)) 3)) := below_alloc wr _
  subst hG
  refine ⟨⟨_, (h1.later hb).set_ t _, by simpa using h2, fun r h5 h6 => ?_⟩, ?_, fun r h5 h6 => ?_, ((hB.alloc hB.size _).setCell hR _), hR, by rw [if_pos rfl]; exact hB.size⟩
  · by_cases hr : r = t
    · subst hr
      rw [Array.getElem?_setIfInBounds, if_pos rfl, if_pos (by omega), if_pos rfl]
    · rw [Array.getElem?_setIfInBounds, if_neg (by omega), if_neg hr]
      exact h3 r (by omega) h6
  · rw [if_pos rfl]
    exact ⟨_, (Blk.new wr _ _).far (p := ⟨R, t, none⟩) (by show wr.heap.size ≠ R; omega) _, made_size _ _, fun j h5 h6 => by omega⟩
  · have h7 := h4 r (by omega) h6
    rw [if_neg (by omega), if_pos rfl]
    exact ⟨(h7.later hb).far (h7.ne h1) _, h7.lt⟩

/-- A row is done. -/
theorem tab_end (h : TabI a b R g u 0 w wr) : RowsAre a b wr R g u :=
  ⟨h.rows, fun r h1 h2 => by
    by_cases hr : r = u
    · subst hr; exact h.row
    · exact (h.rest r (by omega) h2).1⟩

/-- Whatever is stored ahead of what is there. -/
theorem tab_any (h : TabI a b R g u (v + 1) w wr) (x : Value) : TabI a b R g u (v + 1) w (wr.setCell ⟨g u, v, none⟩ x) := by
  obtain ⟨cs, h1, h2, h3⟩ := h.rows
  obtain ⟨cr, k1, k2, k3⟩ := h.row
  refine ⟨⟨cs, h1.far (h.row.ne h1).symm x, h2, h3⟩, ⟨_, k1.set_ v x, by simpa using k2, fun j h5 h6 => ?_⟩, fun r h5 h6 => ?_, h.hB.setCell h.hG x, h.hR, h.hG⟩
  · rw [Array.getElem?_setIfInBounds, if_neg (by omega)]
    exact k3 j h5 h6
  · have h7 := h.rest r h5 h6
    exact ⟨h7.1.far (by have := h7.2; simp; omega) x, h7.2⟩
/-- One cost more. -/
theorem tab_next (h : TabI a b R g u (v + 1) w wr) (hv : v ≤ b.length) {x : Int} (hx : x = (D a b u v : Int)) : TabI a b R g u v w (wr.setCell ⟨g u, v, none⟩ (.int .i64 x)) := by
  have h' := tab_any h (.int .i64 x)
  obtain ⟨cr, k1, k2, k3⟩ := h.row
  refine ⟨h'.rows, ⟨_, k1.set_ v _, by simpa using k2, fun j h5 h6 => ?_⟩, h'.rest, h'.hB, h'.hR, h'.hG⟩
  by_cases hj : j = v
  · subst hj
    rw [Array.getElem?_setIfInBounds, if_pos rfl, if_pos (by omega), hx]
  · rw [Array.getElem?_setIfInBounds, if_neg (by omega)]
    exact k3 j (by omega) h6

/-- The cells that a round reads. -/
theorem tab_cells (h : TabI a b R g u s w wr) (hu : u ≤ a.length) : wr.cell? ⟨R, u, none⟩ = some (.slice (some ⟨g u, 0, none⟩) (b.length + 1) (b.length + 1)) := by
  obtain ⟨cs, h1, h2, h3⟩ := h.rows
  rw [h1.cell, h3 u (Nat.le_refl _) hu]
theorem tab_cells1 (h : TabI a b R g u s w wr) (hu : u + 1 ≤ a.length) : wr.cell? ⟨R, u + 1, none⟩ = some (.slice (some ⟨g (u + 1), 0, none⟩) (b.length + 1) (b.length + 1)) := by
  obtain ⟨cs, h1, h2, h3⟩ := h.rows
  rw [h1.cell, h3 (u + 1) (by omega) hu]
theorem tab_here (h : TabI a b R g u s w wr) (hv : v ≤ b.length) : ∃ x, wr.cell? ⟨g u, v, none⟩ = some x ∧ wr.frozen? ⟨g u, v, none⟩ = false := by
  obtain ⟨cr, k1, k2, k3⟩ := h.row
  exact ⟨cr[v]'(by omega), by rw [k1.cell, Array.getElem?_eq_getElem (by omega)], k1.frozen v⟩
theorem tab_right (h : TabI a b R g u s w wr) (hs : s ≤ v) (hv : v ≤ b.length) : wr.cell? ⟨g u, v, none⟩ = some (.int .i64 (D a b u v : Int)) := by
  obtain ⟨cr, k1, k2, k3⟩ := h.row
  rw [k1.cell, k3 v hs hv]
theorem tab_down (h : TabI a b R g u s w wr) (hu : u + 1 ≤ a.length) (hv : v ≤ b.length) : wr.cell? ⟨g (u + 1), v, none⟩ = some (.int .i64 (D a b (u + 1) v : Int)) := by
  obtain ⟨⟨cr, k1, k2, k3⟩, -⟩ := h.rest (u + 1) (by omega) hu
  rw [k1.cell, k3 v (by omega) hv]

theorem D_edge (hu : u ≤ a.length) (hv : v ≤ b.length) (h : u = a.length ∨ v = b.length) : (a.length : Int) - u + b.length - v = (D a b u v : Int) := by
  unfold D
  rcases h with rfl | rfl
  · rw [List.drop_length, Df.dist_nil, List.length_drop]; omega
  · rw [List.drop_length, Df.dist_nil', List.length_drop]; omega
theorem D_same (hu : u < a.length) (hv : v < b.length) (h : a[u] = b[v]) : D a b u v = D a b (u + 1) (v + 1) := by
  unfold D
  rw [List.drop_eq_getElem_cons hu, List.drop_eq_getElem_cons hv, h, Df.dist_same]
theorem D_unlike (hu : u < a.length) (hv : v < b.length) (h : a[u] ≠ b[v]) : D a b u v = 1 + min (D a b (u + 1) v) (D a b u (v + 1)) := by
  unfold D
  rw [List.drop_eq_getElem_cons hu, List.drop_eq_getElem_cons hv, Df.dist_unlike h]
theorem D_le (hu : u ≤ a.length) (hv : v ≤ b.length) : D a b u v ≤ a.length + b.length := by
  unfold D
  have := Df.dist_le (a.drop u) (b.drop v)
  rw [List.length_drop, List.length_drop] at this
  omega
end

/-- The answer of Table. -/
def Tabbed (a b : List UInt8) (w : World) (x : Ending) (w' : World) : Prop :=
  ∃ R g, x = .returned (.slice (some ⟨R, 0, none⟩) (a.length + 1) (a.length + 1)) ∧ RowsAre a b w' R g 0 ∧ Below w.heap.size w w'

theorem beq_nat (x y : Nat) : ((x : Int) == (y : Int)) = decide (x = y) := by rw [Bool.eq_iff_iff, beq_iff_eq, decide_eq_true_iff]; omega

set_option maxRecDepth 100000 in
set_option maxHeartbeats 8000000 in
theorem table_any (a b : List UInt8) (w : World) (ha : a.length ≤ 1000) (hb : b.length ≤ 1000) : Calls Try.prog 26 #[.string (sB a), .string (sB b)] w (Tabbed a b w) := by
  have hsa := sB_size a
  have hsb := sB_size b
  have hmr := make_rows a.length ha
  have hmi := make_ints b.length hb
  go_enter Try.func26, Try.ntmps26
  go_wp2_with fail
  go_loopw [6] (fun i wr => TabO a b w.heap.size w i wr) (fun i _ => (intOf i + 1).toNat)
  case atStart =>
    refine ⟨a.length + 1, fun _ => 0, Nat.le_refl _, by go_num, ⟨⟨_, Blk.new w _ _, made_size _ _, fun r h1 h2 => by omega⟩, fun r h1 h2 => by omega⟩, below_alloc w _⟩
  case round =>
    obtain ⟨t, g, ht, hi, hr, hB⟩ := hrel
    have HR := Lib.hid hr
    clear hr
    cases t with
    | zero =>
      obtain rfl := hi
      go_wp2_with fail
      go_ret
      exact ⟨_, g, rfl, HR.out, hB⟩
    | succ u =>
      have hi2 : (((u + 1 : Nat) : Int) - 1) = (u : Int) := by omega
      rw [hi2] at hi
      obtain rfl := hi
      have hmw := hmi wr
      obtain ⟨cs, k1, k2, -⟩ := HR.out.1
      have hul : u ≤ a.length := by omega
      have hulI : (u : Int) < (a.length : Int) + 1 := by omega
      obtain ⟨old, hold⟩ : ∃ x, cs[u]? = some x := ⟨_, Array.getElem?_eq_getElem (by omega)⟩
      have k3 := k1.later (below_alloc wr (.cells (madeCells #[.int .i64 0] (b.length + 1)) 3))
      have c0 : (wr.alloc (.cells (madeCells #[.int .i64 0] (b.length + 1)) 3)).cell? ⟨w.heap.size, u, none⟩ = some old := by rw [k3.cell]; exact hold
      have f0 := k3.frozen u
      obtain ⟨g2, hg2⟩ : ∃ f : Nat → Nat, f = (fun r => if r = u then wr.heap.size else g r) := ⟨_, rfl⟩
      have hst := tab_start (G := wr.heap.size) HR.out hul hB (Nat.le_refl _) rfl
      rw [← hg2] at hst
      have HST := Lib.hid hst
      clear hst k1 k2 k3 hi2 hold hg2
      go_wp2_with fail
      clear c0 f0 hmw hmr hmi
      obtain ⟨wo, rfl⟩ : ∃ wo : World, wo = wr := ⟨_, rfl⟩
      go_loopw [7] (fun j wr => ∃ s : Nat, s ≤ b.length + 1 ∧ j = .int .i64 ((s : Int) - 1) ∧ TabI a b w.heap.size g2 u s w wr) (fun j _ => (intOf j + 1).toNat)
      case atStart => exact ⟨b.length + 1, Nat.le_refl _, by go_num, HST.out⟩
      clear HST HR hB
      case round =>
        obtain ⟨s, hs, hj, hT⟩ := hrel
        have HT := Lib.hid hT
        clear hT
        cases s with
        | zero =>
          obtain rfl := hj
          go_wp2_with fail
          go_roundw
          case rel => exact ⟨u, g2, by omega, by go_num, tab_end HT.out, HT.out.hB⟩
          case measure => simp [intOf]
        | succ v =>
          have hj2 : (((v + 1 : Nat) : Int) - 1) = (v : Int) := by omega
          rw [hj2] at hj
          obtain rfl := hj
          have hvl : v ≤ b.length := by omega
          have hvlI : (v : Int) < (b.length : Int) + 1 := by omega
          clear hj2
          by_cases hedge : u = a.length ∨ v = b.length
          · have HX := Lib.hid (D_edge hul hvl hedge)
            have c0 := tab_cells HT.out hul
            obtain ⟨old, o0, f0⟩ := tab_here HT.out hvl
            have hb1 : ((u : Int) == (a.length : Int)) = decide (u = a.length) := beq_nat _ _
            have hb2 : ((v : Int) == (b.length : Int)) = decide (v = b.length) := beq_nat _ _
            by_cases hu : u = a.length
            · rw [decide_eq_true hu] at hb1
              have HU := Lib.hid hu
              clear hu hedge hb2
              go_wp2_with fail
              go_roundw
              case rel => exact ⟨v, by omega, by go_num, tab_next HT.out hvl HX.out⟩
              case measure => simp [intOf]
            · have hv : v = b.length := by omega
              rw [decide_eq_false hu] at hb1
              rw [decide_eq_true hv] at hb2
              have HU := Lib.hid hu
              have HV := Lib.hid hv
              clear hu hv hedge
              go_wp2_with fail
              go_roundw
              case rel => exact ⟨v, by omega, by go_num, tab_next HT.out hvl HX.out⟩
              case measure => simp [intOf]
          · have hu : u < a.length := by omega
            have hv : v < b.length := by omega
            have hb1 : ((u : Int) == (a.length : Int)) = false := by rw [beq_nat]; exact decide_eq_false (by omega)
            have hb2 : ((v : Int) == (b.length : Int)) = false := by rw [beq_nat]; exact decide_eq_false (by omega)
            have HTd := Lib.hid HT.out.drew
            have c0 := tab_cells HTd.out hul
            have c1 := tab_cells1 HTd.out (by omega)
            have d1 := tab_down (v := v) HTd.out (by omega) hvl
            have r1 := tab_right (v := v + 1) HTd.out (Nat.le_refl _) (by omega)
            obtain ⟨old, o0, f0⟩ := tab_here HTd.out hvl
            have hxl := D_le (a := a) (b := b) (u := u + 1) (v := v) (by omega) (by omega)
            have hyl := D_le (a := a) (b := b) (u := u) (v := v + 1) (by omega) (by omega)
            have HSM := Lib.hid (D_same hu hv)
            have HUN := Lib.hid (D_unlike hu hv)
            have hia := fun w => run_str_index (P := Try.prog) Try.underlying9 a u hu w
            have hib := fun w => run_str_index (P := Try.prog) Try.underlying9 b v hv w
            obtain ⟨X, hX⟩ : ∃ X, X = D a b (u + 1) v := ⟨_, rfl⟩
            obtain ⟨Y, hY⟩ : ∃ Y, Y = D a b u (v + 1) := ⟨_, rfl⟩
            obtain ⟨xa, hxa⟩ : ∃ x, x = a[u] := ⟨_, rfl⟩
            obtain ⟨xb, hxb⟩ : ∃ x, x = b[v] := ⟨_, rfl⟩
            rw [← hX] at d1 hxl HUN
            rw [← hY] at r1 hyl HUN
            rw [← hxa] at hia HSM HUN
            rw [← hxb] at hib HSM HUN
            have HC := Lib.hid (And.intro hX hY)
            clear hX hY hxa hxb hedge
            go_wp2_with fail
            have hw1 : IntKind.i64.wrap ((u : Int) + 1) = (u : Int) + 1 := IntWalk.i64_in _ (by omega)
            have hw2 : IntKind.i64.wrap ((v : Int) + 1) = (v : Int) + 1 := IntWalk.i64_in _ (by omega)
            have hw3 : IntKind.i64.wrap (1 + min (X : Int) (Y : Int)) = 1 + min (X : Int) (Y : Int) := IntWalk.i64_in _ (by omega)
            have hn1 : 0 ≤ (u : Int) + 1 := by omega
            have hn2 : 0 ≤ (v : Int) + 1 := by omega
            have hl1 : (u : Int) + 1 < (a.length : Int) + 1 := by omega
            have hl2 : (v : Int) + 1 < (b.length : Int) + 1 := by omega
            have ht1 : ((u : Int) + 1).toNat = u + 1 := by omega
            have ht2 : ((v : Int) + 1).toNat = v + 1 := by omega
            by_cases hyx : Y < X
            · have hw4 : IntKind.i64.wrap (1 + (Y : Int)) = 1 + (Y : Int) := IntWalk.i64_in _ (by omega)
              have hmin : min X Y = Y := by omega
              have HMN := Lib.hid hmin
              clear hmin
              refine still_tail 24 (by kernel_rfl) (by kernel_rfl) ?_
              simp only [List.take_succ_cons, List.take_zero, List.drop_succ_cons, List.drop_zero]
              generalize World.drew wr = wd at *
              with_reducible refine wpStill_step (fun K hK => ?_); go_simp; refine hK _ ?_; clear hK K
              with_reducible refine wpStill_step (fun K hK => ?_); go_simp; refine hK _ ?_; clear hK K
              with_reducible refine wpStill_step (fun K hK => ?_); go_simp; refine hK _ ?_; clear hK K
              with_reducible refine wpStill_step (fun K hK => ?_); go_simp; refine hK _ ?_; clear hK K
              with_reducible refine wpStill_step (fun K hK => ?_); go_simp; refine hK _ ?_; clear hK K
              with_reducible refine wpStill_step (fun K hK => ?_); go_simp; refine hK _ ?_; clear hK K
              with_reducible refine wpStill_step (fun K hK => ?_); go_simp; refine hK _ ?_; clear hK K
              with_reducible refine wpStill_step (fun K hK => ?_); go_simp; refine hK _ ?_; clear hK K
              with_reducible refine wpStill_step (fun K hK => ?_); go_simp; refine hK _ ?_; clear hK K
              with_reducible refine wpStill_step (fun K hK => ?_); go_simp; refine hK _ ?_; clear hK K
              with_reducible refine wpStill_step (fun K hK => ?_); go_simp; refine hK _ ?_; clear hK K
              with_reducible refine wpStill_step (fun K hK => ?_); go_simp; refine hK _ ?_; clear hK K
              with_reducible refine wpStill_step (fun K hK => ?_); go_simp; refine hK _ ?_; clear hK K
              with_reducible refine wpStill_step (fun K hK => ?_); go_simp; refine hK _ ?_; clear hK K
              with_reducible refine wpStill_step (fun K hK => ?_); go_simp; refine hK _ ?_; clear hK K
              with_reducible refine wpStill_step (fun K hK => ?_); go_simp; refine hK _ ?_; clear hK K
              with_reducible refine wpStill_step (fun K hK => ?_); go_simp; refine hK _ ?_; clear hK K
              with_reducible refine wpStill_step (fun K hK => ?_); go_simp; refine hK _ ?_; clear hK K
              with_reducible refine wpStill_step (fun K hK => ?_); go_simp; refine hK _ ?_; clear hK K
              with_reducible refine wpStill_step (fun K hK => ?_); go_simp; refine hK _ ?_; clear hK K
              with_reducible refine wpStill_step (fun K hK => ?_); go_simp; refine hK _ ?_; clear hK K
              with_reducible refine wpStill_step (fun K hK => ?_); go_simp; refine hK _ ?_; clear hK K
              with_reducible refine wpStill_step (fun K hK => ?_); go_simp; refine hK _ ?_; clear hK K
              with_reducible refine wpStill_step (fun K hK => ?_); go_simp; refine hK _ ?_; clear hK K
              refine wpStill_nil ?_
              go_wp2_with fail
              have HTs := Lib.hid (tab_any HTd.out (.int .i64 (1 + (Y : Int)))).drew
              have HTn := Lib.hid (fun h : 1 + (Y : Int) = (D a b u v : Int) => (tab_next HTd.out hvl h).drew)
              generalize wd.setCell ⟨g2 u, v, none⟩ (.int .i64 (1 + (Y : Int))) = ws at *
              clear c0 c1 d1 r1 o0 f0 HTd HT
              by_cases hab : xa = xb
              · subst hab
                have HSM2 := Lib.hid (HSM.out rfl)
                clear HTn HUN HSM
                refine still_all (by kernel_rfl) (by kernel_rfl) ?_
                generalize World.drew ws = we at *
                first | (with_reducible refine wpStill_step (fun K hK => ?_); go_simp; refine hK _ ?_; clear hK K) | (with_reducible refine still_skip ?hw (fun K hK => ?_); (case hw => simp [Region.wanted, yielded, undef]); go_simp; refine hK _ ?_; clear hK K)
                first | (with_reducible refine wpStill_step (fun K hK => ?_); go_simp; refine hK _ ?_; clear hK K) | (with_reducible refine still_skip ?hw (fun K hK => ?_); (case hw => simp [Region.wanted, yielded, undef]); go_simp; refine hK _ ?_; clear hK K)
                first | (with_reducible refine wpStill_step (fun K hK => ?_); go_simp; refine hK _ ?_; clear hK K) | (with_reducible refine still_skip ?hw (fun K hK => ?_); (case hw => simp [Region.wanted, yielded, undef]); go_simp; refine hK _ ?_; clear hK K)
                first | (with_reducible refine wpStill_step (fun K hK => ?_); go_simp; refine hK _ ?_; clear hK K) | (with_reducible refine still_skip ?hw (fun K hK => ?_); (case hw => simp [Region.wanted, yielded, undef]); go_simp; refine hK _ ?_; clear hK K)
                first | (with_reducible refine wpStill_step (fun K hK => ?_); go_simp; refine hK _ ?_; clear hK K) | (with_reducible refine still_skip ?hw (fun K hK => ?_); (case hw => simp [Region.wanted, yielded, undef]); go_simp; refine hK _ ?_; clear hK K)
                first | (with_reducible refine wpStill_step (fun K hK => ?_); go_simp; refine hK _ ?_; clear hK K) | (with_reducible refine still_skip ?hw (fun K hK => ?_); (case hw => simp [Region.wanted, yielded, undef]); go_simp; refine hK _ ?_; clear hK K)
                first | (with_reducible refine wpStill_step (fun K hK => ?_); go_simp; refine hK _ ?_; clear hK K) | (with_reducible refine still_skip ?hw (fun K hK => ?_); (case hw => simp [Region.wanted, yielded, undef]); go_simp; refine hK _ ?_; clear hK K)
                refine wpStill_nil ?_
                have HTe := Lib.hid HTs.out.drew
                have c0 := tab_cells HTe.out hul
                have c1 := tab_cells1 HTe.out (by omega)
                have d1 := tab_down (v := v + 1) HTe.out (by omega) (by omega)
                obtain ⟨old2, o0, f0⟩ := tab_here HTe.out hvl
                go_wp2_with fail
                refine still_tail 15 (by kernel_rfl) (by kernel_rfl) ?_
                simp only [List.take_succ_cons, List.take_zero, List.drop_succ_cons, List.drop_zero]
                generalize World.drew we = wf at *
                with_reducible refine wpStill_step (fun K hK => ?_); go_simp; refine hK _ ?_; clear hK K
                with_reducible refine wpStill_step (fun K hK => ?_); go_simp; refine hK _ ?_; clear hK K
                with_reducible refine wpStill_step (fun K hK => ?_); go_simp; refine hK _ ?_; clear hK K
                with_reducible refine wpStill_step (fun K hK => ?_); go_simp; refine hK _ ?_; clear hK K
                with_reducible refine wpStill_step (fun K hK => ?_); go_simp; refine hK _ ?_; clear hK K
                with_reducible refine wpStill_step (fun K hK => ?_); go_simp; refine hK _ ?_; clear hK K
                with_reducible refine wpStill_step (fun K hK => ?_); go_simp; refine hK _ ?_; clear hK K
                with_reducible refine wpStill_step (fun K hK => ?_); go_simp; refine hK _ ?_; clear hK K
                with_reducible refine wpStill_step (fun K hK => ?_); go_simp; refine hK _ ?_; clear hK K
                with_reducible refine wpStill_step (fun K hK => ?_); go_simp; refine hK _ ?_; clear hK K
                with_reducible refine wpStill_step (fun K hK => ?_); go_simp; refine hK _ ?_; clear hK K
                with_reducible refine wpStill_step (fun K hK => ?_); go_simp; refine hK _ ?_; clear hK K
                with_reducible refine wpStill_step (fun K hK => ?_); go_simp; refine hK _ ?_; clear hK K
                with_reducible refine wpStill_step (fun K hK => ?_); go_simp; refine hK _ ?_; clear hK K
                with_reducible refine wpStill_step (fun K hK => ?_); go_simp; refine hK _ ?_; clear hK K
                refine wpStill_nil ?_
                go_wp2_with fail
                go_roundw
                case rel => exact ⟨v, by omega, by go_num, tab_next HTe.out hvl (by rw [HSM2.out])⟩
                case measure => simp [intOf]
              · have hne : ((xa.toNat : Int) == (xb.toNat : Int)) = false := by rw [beq_eq_false_iff_ne]; exact fun h => hab (UInt8.toNat_inj.1 (by omega))
                have hne2 : ¬ xa.toNat = xb.toNat := fun h => hab (UInt8.toNat_inj.1 h)
                have HUN2 := Lib.hid (HUN.out hab)
                have HTn2 := Lib.hid (HTn.out (by rw [HUN2.out, HMN.out]; omega))
                clear HSM HUN HTn hab HTs
                refine still_all (by kernel_rfl) (by kernel_rfl) ?_
                generalize World.drew ws = we at *
                first | (with_reducible refine wpStill_step (fun K hK => ?_); go_simp; refine hK _ ?_; clear hK K) | (with_reducible refine still_skip ?hw (fun K hK => ?_); (case hw => simp [Region.wanted, yielded, undef]); go_simp; refine hK _ ?_; clear hK K)
                first | (with_reducible refine wpStill_step (fun K hK => ?_); go_simp; refine hK _ ?_; clear hK K) | (with_reducible refine still_skip ?hw (fun K hK => ?_); (case hw => simp [Region.wanted, yielded, undef]); go_simp; refine hK _ ?_; clear hK K)
                first | (with_reducible refine wpStill_step (fun K hK => ?_); go_simp; refine hK _ ?_; clear hK K) | (with_reducible refine still_skip ?hw (fun K hK => ?_); (case hw => simp [Region.wanted, yielded, undef]); go_simp; refine hK _ ?_; clear hK K)
                first | (with_reducible refine wpStill_step (fun K hK => ?_); go_simp; refine hK _ ?_; clear hK K) | (with_reducible refine still_skip ?hw (fun K hK => ?_); (case hw => simp [Region.wanted, yielded, undef]); go_simp; refine hK _ ?_; clear hK K)
                first | (with_reducible refine wpStill_step (fun K hK => ?_); go_simp; refine hK _ ?_; clear hK K) | (with_reducible refine still_skip ?hw (fun K hK => ?_); (case hw => simp [Region.wanted, yielded, undef]); go_simp; refine hK _ ?_; clear hK K)
                first | (with_reducible refine wpStill_step (fun K hK => ?_); go_simp; refine hK _ ?_; clear hK K) | (with_reducible refine still_skip ?hw (fun K hK => ?_); (case hw => simp [Region.wanted, yielded, undef]); go_simp; refine hK _ ?_; clear hK K)
                first | (with_reducible refine wpStill_step (fun K hK => ?_); go_simp; refine hK _ ?_; clear hK K) | (with_reducible refine still_skip ?hw (fun K hK => ?_); (case hw => simp [Region.wanted, yielded, undef]); go_simp; refine hK _ ?_; clear hK K)
                refine wpStill_nil ?_
                go_wp2_with fail
                go_roundw
                case rel => exact ⟨v, by omega, by go_num, HTn2.out⟩
                case measure => simp [intOf]
            · have hw4 : IntKind.i64.wrap (1 + (X : Int)) = 1 + (X : Int) := IntWalk.i64_in _ (by omega)
              have hmin : min X Y = X := by omega
              have HMN := Lib.hid hmin
              clear hmin
              refine still_tail 24 (by kernel_rfl) (by kernel_rfl) ?_
              simp only [List.take_succ_cons, List.take_zero, List.drop_succ_cons, List.drop_zero]
              generalize World.drew wr = wd at *
              with_reducible refine wpStill_step (fun K hK => ?_); go_simp; refine hK _ ?_; clear hK K
              with_reducible refine wpStill_step (fun K hK => ?_); go_simp; refine hK _ ?_; clear hK K
              with_reducible refine wpStill_step (fun K hK => ?_); go_simp; refine hK _ ?_; clear hK K
              with_reducible refine wpStill_step (fun K hK => ?_); go_simp; refine hK _ ?_; clear hK K
              with_reducible refine wpStill_step (fun K hK => ?_); go_simp; refine hK _ ?_; clear hK K
              with_reducible refine wpStill_step (fun K hK => ?_); go_simp; refine hK _ ?_; clear hK K
              with_reducible refine wpStill_step (fun K hK => ?_); go_simp; refine hK _ ?_; clear hK K
              with_reducible refine wpStill_step (fun K hK => ?_); go_simp; refine hK _ ?_; clear hK K
              with_reducible refine wpStill_step (fun K hK => ?_); go_simp; refine hK _ ?_; clear hK K
              with_reducible refine wpStill_step (fun K hK => ?_); go_simp; refine hK _ ?_; clear hK K
              with_reducible refine wpStill_step (fun K hK => ?_); go_simp; refine hK _ ?_; clear hK K
              with_reducible refine wpStill_step (fun K hK => ?_); go_simp; refine hK _ ?_; clear hK K
              with_reducible refine wpStill_step (fun K hK => ?_); go_simp; refine hK _ ?_; clear hK K
              with_reducible refine wpStill_step (fun K hK => ?_); go_simp; refine hK _ ?_; clear hK K
              with_reducible refine wpStill_step (fun K hK => ?_); go_simp; refine hK _ ?_; clear hK K
              with_reducible refine wpStill_step (fun K hK => ?_); go_simp; refine hK _ ?_; clear hK K
              with_reducible refine wpStill_step (fun K hK => ?_); go_simp; refine hK _ ?_; clear hK K
              with_reducible refine wpStill_step (fun K hK => ?_); go_simp; refine hK _ ?_; clear hK K
              with_reducible refine wpStill_step (fun K hK => ?_); go_simp; refine hK _ ?_; clear hK K
              with_reducible refine wpStill_step (fun K hK => ?_); go_simp; refine hK _ ?_; clear hK K
              with_reducible refine wpStill_step (fun K hK => ?_); go_simp; refine hK _ ?_; clear hK K
              with_reducible refine wpStill_step (fun K hK => ?_); go_simp; refine hK _ ?_; clear hK K
              with_reducible refine wpStill_step (fun K hK => ?_); go_simp; refine hK _ ?_; clear hK K
              with_reducible refine wpStill_step (fun K hK => ?_); go_simp; refine hK _ ?_; clear hK K
              refine wpStill_nil ?_
              go_wp2_with fail
              have HTs := Lib.hid (tab_any HTd.out (.int .i64 (1 + (X : Int)))).drew
              have HTn := Lib.hid (fun h : 1 + (X : Int) = (D a b u v : Int) => (tab_next HTd.out hvl h).drew)
              generalize wd.setCell ⟨g2 u, v, none⟩ (.int .i64 (1 + (X : Int))) = ws at *
              clear c0 c1 d1 r1 o0 f0 HTd HT
              by_cases hab : xa = xb
              · subst hab
                have HSM2 := Lib.hid (HSM.out rfl)
                clear HTn HUN HSM
                refine still_all (by kernel_rfl) (by kernel_rfl) ?_
                generalize World.drew ws = we at *
                first | (with_reducible refine wpStill_step (fun K hK => ?_); go_simp; refine hK _ ?_; clear hK K) | (with_reducible refine still_skip ?hw (fun K hK => ?_); (case hw => simp [Region.wanted, yielded, undef]); go_simp; refine hK _ ?_; clear hK K)
                first | (with_reducible refine wpStill_step (fun K hK => ?_); go_simp; refine hK _ ?_; clear hK K) | (with_reducible refine still_skip ?hw (fun K hK => ?_); (case hw => simp [Region.wanted, yielded, undef]); go_simp; refine hK _ ?_; clear hK K)
                first | (with_reducible refine wpStill_step (fun K hK => ?_); go_simp; refine hK _ ?_; clear hK K) | (with_reducible refine still_skip ?hw (fun K hK => ?_); (case hw => simp [Region.wanted, yielded, undef]); go_simp; refine hK _ ?_; clear hK K)
                first | (with_reducible refine wpStill_step (fun K hK => ?_); go_simp; refine hK _ ?_; clear hK K) | (with_reducible refine still_skip ?hw (fun K hK => ?_); (case hw => simp [Region.wanted, yielded, undef]); go_simp; refine hK _ ?_; clear hK K)
                first | (with_reducible refine wpStill_step (fun K hK => ?_); go_simp; refine hK _ ?_; clear hK K) | (with_reducible refine still_skip ?hw (fun K hK => ?_); (case hw => simp [Region.wanted, yielded, undef]); go_simp; refine hK _ ?_; clear hK K)
                first | (with_reducible refine wpStill_step (fun K hK => ?_); go_simp; refine hK _ ?_; clear hK K) | (with_reducible refine still_skip ?hw (fun K hK => ?_); (case hw => simp [Region.wanted, yielded, undef]); go_simp; refine hK _ ?_; clear hK K)
                first | (with_reducible refine wpStill_step (fun K hK => ?_); go_simp; refine hK _ ?_; clear hK K) | (with_reducible refine still_skip ?hw (fun K hK => ?_); (case hw => simp [Region.wanted, yielded, undef]); go_simp; refine hK _ ?_; clear hK K)
                refine wpStill_nil ?_
                have HTe := Lib.hid HTs.out.drew
                have c0 := tab_cells HTe.out hul
                have c1 := tab_cells1 HTe.out (by omega)
                have d1 := tab_down (v := v + 1) HTe.out (by omega) (by omega)
                obtain ⟨old2, o0, f0⟩ := tab_here HTe.out hvl
                go_wp2_with fail
                refine still_tail 15 (by kernel_rfl) (by kernel_rfl) ?_
                simp only [List.take_succ_cons, List.take_zero, List.drop_succ_cons, List.drop_zero]
                generalize World.drew we = wf at *
                with_reducible refine wpStill_step (fun K hK => ?_); go_simp; refine hK _ ?_; clear hK K
                with_reducible refine wpStill_step (fun K hK => ?_); go_simp; refine hK _ ?_; clear hK K
                with_reducible refine wpStill_step (fun K hK => ?_); go_simp; refine hK _ ?_; clear hK K
                with_reducible refine wpStill_step (fun K hK => ?_); go_simp; refine hK _ ?_; clear hK K
                with_reducible refine wpStill_step (fun K hK => ?_); go_simp; refine hK _ ?_; clear hK K
                with_reducible refine wpStill_step (fun K hK => ?_); go_simp; refine hK _ ?_; clear hK K
                with_reducible refine wpStill_step (fun K hK => ?_); go_simp; refine hK _ ?_; clear hK K
                with_reducible refine wpStill_step (fun K hK => ?_); go_simp; refine hK _ ?_; clear hK K
                with_reducible refine wpStill_step (fun K hK => ?_); go_simp; refine hK _ ?_; clear hK K
                with_reducible refine wpStill_step (fun K hK => ?_); go_simp; refine hK _ ?_; clear hK K
                with_reducible refine wpStill_step (fun K hK => ?_); go_simp; refine hK _ ?_; clear hK K
                with_reducible refine wpStill_step (fun K hK => ?_); go_simp; refine hK _ ?_; clear hK K
                with_reducible refine wpStill_step (fun K hK => ?_); go_simp; refine hK _ ?_; clear hK K
                with_reducible refine wpStill_step (fun K hK => ?_); go_simp; refine hK _ ?_; clear hK K
                with_reducible refine wpStill_step (fun K hK => ?_); go_simp; refine hK _ ?_; clear hK K
                refine wpStill_nil ?_
                go_wp2_with fail
                go_roundw
                case rel => exact ⟨v, by omega, by go_num, tab_next HTe.out hvl (by rw [HSM2.out])⟩
                case measure => simp [intOf]
              · have hne : ((xa.toNat : Int) == (xb.toNat : Int)) = false := by rw [beq_eq_false_iff_ne]; exact fun h => hab (UInt8.toNat_inj.1 (by omega))
                have hne2 : ¬ xa.toNat = xb.toNat := fun h => hab (UInt8.toNat_inj.1 h)
                have HUN2 := Lib.hid (HUN.out hab)
                have HTn2 := Lib.hid (HTn.out (by rw [HUN2.out, HMN.out]; omega))
                clear HSM HUN HTn hab HTs
                refine still_all (by kernel_rfl) (by kernel_rfl) ?_
                generalize World.drew ws = we at *
                first | (with_reducible refine wpStill_step (fun K hK => ?_); go_simp; refine hK _ ?_; clear hK K) | (with_reducible refine still_skip ?hw (fun K hK => ?_); (case hw => simp [Region.wanted, yielded, undef]); go_simp; refine hK _ ?_; clear hK K)
                first | (with_reducible refine wpStill_step (fun K hK => ?_); go_simp; refine hK _ ?_; clear hK K) | (with_reducible refine still_skip ?hw (fun K hK => ?_); (case hw => simp [Region.wanted, yielded, undef]); go_simp; refine hK _ ?_; clear hK K)
                first | (with_reducible refine wpStill_step (fun K hK => ?_); go_simp; refine hK _ ?_; clear hK K) | (with_reducible refine still_skip ?hw (fun K hK => ?_); (case hw => simp [Region.wanted, yielded, undef]); go_simp; refine hK _ ?_; clear hK K)
                first | (with_reducible refine wpStill_step (fun K hK => ?_); go_simp; refine hK _ ?_; clear hK K) | (with_reducible refine still_skip ?hw (fun K hK => ?_); (case hw => simp [Region.wanted, yielded, undef]); go_simp; refine hK _ ?_; clear hK K)
                first | (with_reducible refine wpStill_step (fun K hK => ?_); go_simp; refine hK _ ?_; clear hK K) | (with_reducible refine still_skip ?hw (fun K hK => ?_); (case hw => simp [Region.wanted, yielded, undef]); go_simp; refine hK _ ?_; clear hK K)
                first | (with_reducible refine wpStill_step (fun K hK => ?_); go_simp; refine hK _ ?_; clear hK K) | (with_reducible refine still_skip ?hw (fun K hK => ?_); (case hw => simp [Region.wanted, yielded, undef]); go_simp; refine hK _ ?_; clear hK K)
                first | (with_reducible refine wpStill_step (fun K hK => ?_); go_simp; refine hK _ ?_; clear hK K) | (with_reducible refine still_skip ?hw (fun K hK => ?_); (case hw => simp [Region.wanted, yielded, undef]); go_simp; refine hK _ ?_; clear hK K)
                refine wpStill_nil ?_
                go_wp2_with fail
                go_roundw
                case rel => exact ⟨v, by omega, by go_num, HTn2.out⟩
                case measure => simp [intOf]
end Go.Proofs.Ytmanafhdmijfeaa
