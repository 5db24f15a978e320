/- The program's fillRow: the costs of a row from those of the row behind it. -/
import Derived.Test.YtmanafhdmijfeaaTab
namespace Go.Proofs.Ytmanafhdmijfeaa
open Go Go.RowKit

theorem only_drew {a w : World} {row : Option Nat} (h : a.grownBy w row) : a.grownBy w.drew row := ⟨h.os, h.tape, h.output, h.size, h.block⟩
theorem only_set {a w : World} {g i : Nat} (h : a.grownBy w (some g)) (v : Value) : a.grownBy (w.setCell ⟨g, i, none⟩ v) (some g) :=
  ⟨h.os, h.tape, h.output, by have := h.size; simp [World.setCell]; omega, fun k hk hne => (Below.heap_setCell w ⟨g, i, none⟩ v k (fun e => hne (by simp [e]))).trans (h.block k hk hne)⟩

/-- Block G holds the costs from place s of row i on, row behind row. -/
def Grid (a b : List UInt8) (G i s : Nat) (w : World) : Prop :=
  ∃ cs, Blk w G 3 cs ∧ cs.size = (a.length + 1) * (b.length + 1) ∧ ∀ r j, (i < r ∨ (r = i ∧ s ≤ j)) → r ≤ a.length → j ≤ b.length → cs[r * (b.length + 1) + j]? = some (.int .i64 (D a b r j : Int))

theorem at_lt {r j l m : Nat} (hr : r ≤ l) (hj : j ≤ m) : r * (m + 1) + j < (l + 1) * (m + 1) := by
  have h1 : (r + 1) * (m + 1) ≤ (l + 1) * (m + 1) := Nat.mul_le_mul_right _ (by omega)
  rw [Nat.succ_mul] at h1
  omega
theorem at_inj {r j i v m : Nat} (hj : j ≤ m) (hv : v ≤ m) (h : r * (m + 1) + j = i * (m + 1) + v) : r = i ∧ j = v := by
  rcases Nat.lt_trichotomy r i with h1 | h1 | h1
  · have h2 : (r + 1) * (m + 1) ≤ i * (m + 1) := Nat.mul_le_mul_right _ (by omega)
    rw [Nat.succ_mul] at h2
    omega
  · subst h1; exact ⟨rfl, by omega⟩
  · have h2 : (i + 1) * (m + 1) ≤ r * (m + 1) := Nat.mul_le_mul_right _ (by omega)
    rw [Nat.succ_mul] at h2
    omega

section
variable {a b : List UInt8} {G i s v : Nat} {w : World}
theorem Grid.drew (h : Grid a b G i s w) : Grid a b G i s w.drew := h
theorem Grid.cell {r j : Nat} (h : Grid a b G i s w) (h1 : i < r ∨ (r = i ∧ s ≤ j)) (hr : r ≤ a.length) (hj : j ≤ b.length) : w.cell? ⟨G, r * (b.length + 1) + j, none⟩ = some (.int .i64 (D a b r j : Int)) := by
  obtain ⟨cs, k1, k2, k3⟩ := h
  rw [k1.cell, k3 r j h1 hr hj]
theorem Grid.old {r j : Nat} (h : Grid a b G i s w) (hr : r ≤ a.length) (hj : j ≤ b.length) : ∃ x, w.cell? ⟨G, r * (b.length + 1) + j, none⟩ = some x ∧ w.frozen? ⟨G, r * (b.length + 1) + j, none⟩ = false := by
  obtain ⟨cs, k1, k2, k3⟩ := h
  have := at_lt hr hj
  exact ⟨cs[r * (b.length + 1) + j], by rw [k1.cell, Array.getElem?_eq_getElem (by omega)], k1.frozen _⟩
theorem Grid.next (h : Grid a b G i (v + 1) w) (hi : i ≤ a.length) (hv : v ≤ b.length) {x : Int} (hx : x = (D a b i v : Int)) : Grid a b G i v (w.setCell ⟨G, i * (b.length + 1) + v, none⟩ (.int .i64 x)) := by
  obtain ⟨cs, k1, k2, k3⟩ := h
  have hlt := at_lt hi hv
  refine ⟨_, k1.set_ _ _, by simpa using k2, fun r j h1 h2 h3 => ?_⟩
  by_cases he : r * (b.length + 1) + j = i * (b.length + 1) + v
  · obtain ⟨rfl, rfl⟩ := at_inj h3 hv he
    rw [Array.getElem?_setIfInBounds, if_pos rfl, if_pos (by omega), hx]
  · rw [Array.getElem?_setIfInBounds, if_neg (fun e => he e.symm)]
    refine k3 r j ?_ h2 h3
    rcases h1 with h1 | ⟨rfl, h1⟩
    · exact .inl h1
    · exact .inr ⟨rfl, by have : ¬ j = v := fun e => he (by rw [e])
                          omega⟩
theorem Grid.begin (h : Grid a b G (i + 1) 0 w) : Grid a b G i (b.length + 1) w := by
  obtain ⟨cs, k1, k2, k3⟩ := h
  exact ⟨cs, k1, k2, fun r j h1 h2 h3 => k3 r j (by omega) h2 h3⟩
theorem Grid.far (h : Grid a b G i s w) {p : Addr} (hp : G ≠ p.block) (x : Value) : Grid a b G i s (w.setCell p x) := by
  obtain ⟨cs, k1, k2, k3⟩ := h
  exact ⟨cs, k1.far hp x, k2, k3⟩
theorem Grid.later {w' : World} (h : Grid a b G i s w) (hb : Below w.heap.size w w') : Grid a b G i s w' := by
  obtain ⟨cs, k1, k2, k3⟩ := h
  exact ⟨cs, k1.later hb, k2, k3⟩
theorem D_col (hi : i < a.length) : D a b i b.length = D a b (i + 1) b.length + 1 := by
  unfold D
  rw [List.drop_length, Df.dist_nil', Df.dist_nil', List.length_drop, List.length_drop]
  omega
end

set_option maxRecDepth 100000 in
set_option maxHeartbeats 4000000 in
theorem fill_any (a b : List UInt8) (ha : a.length ≤ 1000) (hb : b.length ≤ 1000) (G i : Nat) (hi : i < a.length) (w : World) (h : Grid a b G (i + 1) 0 w) :
    Calls Try.prog 39 #[.slice (some ⟨G, i * (b.length + 1), none⟩) (b.length + 1) (b.length + 1), .slice (some ⟨G, (i + 1) * (b.length + 1), none⟩) (b.length + 1) (b.length + 1), .int .u8 (a[i].toNat : Int), .string (sB b)] w
      fun e w' => e = .returned (.tuple #[]) ∧ Grid a b G i 0 w' ∧ w.grownBy w' (some G) := by
  have H0 := Lib.hid h.begin
  have hsb := sB_size b
  have HCELL := Lib.hid (fun (s : Nat) (w : World) (h : Grid a b G i s w) (r j : Nat) => h.cell (r := r) (j := j))
  have HOLD := Lib.hid (fun (s : Nat) (w : World) (h : Grid a b G i s w) (j : Nat) => h.old (r := i) (j := j) (Nat.le_of_lt hi))
  have HNEXT := Lib.hid (fun (v : Nat) (w : World) (h : Grid a b G i (v + 1) w) (hv : v ≤ b.length) (x : Int) => h.next (x := x) (Nat.le_of_lt hi) hv)
  have c1 := H0.out.cell (r := i + 1) (j := b.length) (.inl (by omega)) (by omega) (Nat.le_refl _)
  have HD := Lib.hid (D_col (b := b) hi)
  have hxl := D_le (a := a) (b := b) (u := i + 1) (v := b.length) (by omega) (by omega)
  obtain ⟨X, hX⟩ : ∃ X, X = D a b (i + 1) b.length := ⟨_, rfl⟩
  rw [← hX] at c1 HD hxl
  clear h hX
  have HO1 := Lib.hid (fun j => (rfl : i * (b.length + 1) + j = i * (b.length + 1) + j))
  obtain ⟨o1, ho1⟩ : ∃ o, o = i * (b.length + 1) := ⟨_, rfl⟩
  obtain ⟨o2, ho2⟩ : ∃ o, o = (i + 1) * (b.length + 1) := ⟨_, rfl⟩
  have HC1 := Lib.hid (fun (s : Nat) (w : World) (h : Grid a b G i s w) (j : Nat) (h1 : s ≤ j) (h2 : j ≤ b.length) => HCELL.out s w h i j (.inr ⟨rfl, h1⟩) (Nat.le_of_lt hi) h2)
  have HC2 := Lib.hid (fun (s : Nat) (w : World) (h : Grid a b G i s w) (j : Nat) (h2 : j ≤ b.length) => HCELL.out s w h (i + 1) j (.inl (Nat.lt_succ_self _)) hi h2)
  rw [← ho1] at HOLD HNEXT HC1 ⊢
  rw [← ho2] at HC2 c1 ⊢
  clear ho1 ho2 HO1 HCELL
  obtain ⟨old, e0, f0⟩ := HOLD.out _ _ H0.out b.length (Nat.le_refl _)
  obtain ⟨xa, hxa⟩ : ∃ x, x = a[i] := ⟨_, rfl⟩
  have HSM := Lib.hid (fun v (hv : v < b.length) => D_same (a := a) (b := b) hi hv)
  have HUN := Lib.hid (fun v (hv : v < b.length) => D_unlike (a := a) (b := b) hi hv)
  rw [← hxa] at HSM HUN ⊢
  have HDL := Lib.hid (fun u v (h1 : u ≤ a.length) (h2 : v ≤ b.length) => D_le (a := a) (b := b) h1 h2)
  clear hxa
  go_enter Try.func39, Try.ntmps39
  go_wp2_with fail
  have hst := HNEXT.out b.length w H0.out (Nat.le_refl _) ((X : Int) + 1) (by rw [HD.out]; omega)
  have hgs : w.grownBy (w.setCell ⟨G, o1 + b.length, none⟩ (.int .i64 ((X : Int) + 1))) (some G) := only_set (World.grownBy.refl w _) _
  have HST := Lib.hid hst
  have HGS := Lib.hid hgs
  clear hst hgs c1 e0 f0
  go_loopw [8] (fun jv wr => ∃ s : Nat, s ≤ b.length ∧ jv = .int .i64 ((s : Int) - 1) ∧ Grid a b G i s wr ∧ w.grownBy wr (some G)) (fun j _ => (intOf j + 1).toNat)
  case atStart => exact ⟨b.length, Nat.le_refl _, by go_num, HST.out, HGS.out⟩
  clear HST HGS H0
  case round =>
    obtain ⟨s, hs, hj, hT, hg⟩ := hrel
    have HT := Lib.hid hT
    have HG := Lib.hid hg
    clear hT hg
    cases s with
    | zero =>
      obtain rfl := hj
      go_wp2_with fail
      go_end0
      exact ⟨rfl, HT.out, HG.out⟩
    | succ v =>
      have hj2 : (((v + 1 : Nat) : Int) - 1) = (v : Int) := by omega
      rw [hj2] at hj
      obtain rfl := hj
      have hv : v < b.length := by omega
      have hvl : v ≤ b.length := by omega
      have hvlI : (v : Int) < (b.length : Int) := by omega
      have hvlJ : (v : Int) < (b.length : Int) + 1 := by omega
      have hib := fun w => run_str_index (P := Try.prog) Try.underlying9 b v hv w
      have HS1 := Lib.hid (HSM.out v hv)
      have HU1 := Lib.hid (HUN.out v hv)
      obtain ⟨xb, hxb⟩ : ∃ x, x = b[v] := ⟨_, rfl⟩
      rw [← hxb] at hib HS1 HU1
      clear hj2 hxb
      have hw1 : IntKind.i64.wrap ((v : Int) + 1) = (v : Int) + 1 := IntWalk.i64_in _ (by omega)
      have hn1 : 0 ≤ (v : Int) + 1 := by omega
      have hl1 : (v : Int) + 1 < (b.length : Int) + 1 := by omega
      have ht1 : ((v : Int) + 1).toNat = v + 1 := by omega
      by_cases hab : xa = xb
      · subst hab
        have HS2 := Lib.hid (HS1.out rfl)
        obtain ⟨old, o0, f0⟩ := HOLD.out _ _ HT.out v hvl
        have d1 := HC2.out _ _ HT.out (v + 1) (by omega)
        obtain ⟨Y, hY⟩ : ∃ Y, Y = D a b (i + 1) (v + 1) := ⟨_, rfl⟩
        rw [← hY] at d1 HS2
        clear hY HS1 HU1
        go_wp2_with fail
        go_roundw
        case rel => exact ⟨v, by omega, by go_num, HNEXT.out v _ HT.out hvl _ (by rw [HS2.out]), only_set HG.out _⟩
        case measure => simp [intOf]
      · have hne : ((xa.toNat : Int) == (xb.toNat : Int)) = false := by rw [beq_eq_false_iff_ne]; exact fun h => hab (UInt8.toNat_inj.1 (by omega))
        have hne2 : ¬ xa.toNat = xb.toNat := fun h => hab (UInt8.toNat_inj.1 h)
        have HU2 := Lib.hid (HU1.out hab)
        have HTd := Lib.hid HT.out.drew
        have HGd := Lib.hid (only_drew HG.out)
        obtain ⟨old, o0, f0⟩ := HOLD.out _ _ HTd.out v hvl
        have d1 := HC2.out _ _ HTd.out v hvl
        have r1 := HC1.out _ _ HTd.out (v + 1) (Nat.le_refl _) (by omega)
        have hxl := HDL.out (i + 1) v (by omega) hvl
        have hyl := HDL.out i (v + 1) (by omega) (by omega)
        obtain ⟨X, hX⟩ : ∃ X, X = D a b (i + 1) v := ⟨_, rfl⟩
        obtain ⟨Y, hY⟩ : ∃ Y, Y = D a b i (v + 1) := ⟨_, rfl⟩
        rw [← hX] at d1 hxl HU2
        rw [← hY] at r1 hyl HU2
        clear hX hY HS1 HU1 hab HD
        by_cases hyx : Y < X
        · have hw4 : IntKind.i64.wrap (1 + (Y : Int)) = 1 + (Y : Int) := IntWalk.i64_in _ (by omega)
          go_wp2_with fail
          refine still_tail 14 (by kernel_rfl) (by kernel_rfl) ?_
          simp only [List.take_succ_cons, List.take_zero, List.drop_succ_cons, List.drop_zero]
          generalize World.drew wr = wd at *
          with_reducible refine wpStill_step (fun K hK => ?_); go_simp; refine hK _ ?_; clear hK K
          with_reducible refine wpStill_step (fun K hK => ?_); go_simp; refine hK _ ?_; clear hK K
          with_reducible refine wpStill_step (fun K hK => ?_); go_simp; refine hK _ ?_; clear hK K
          with_reducible refine wpStill_step (fun K hK => ?_); go_simp; refine hK _ ?_; clear hK K
          with_reducible refine wpStill_step (fun K hK => ?_); go_simp; refine hK _ ?_; clear hK K
          with_reducible refine wpStill_step (fun K hK => ?_); go_simp; refine hK _ ?_; clear hK K
          with_reducible refine wpStill_step (fun K hK => ?_); go_simp; refine hK _ ?_; clear hK K
          with_reducible refine wpStill_step (fun K hK => ?_); go_simp; refine hK _ ?_; clear hK K
          with_reducible refine wpStill_step (fun K hK => ?_); go_simp; refine hK _ ?_; clear hK K
          with_reducible refine wpStill_step (fun K hK => ?_); go_simp; refine hK _ ?_; clear hK K
          with_reducible refine wpStill_step (fun K hK => ?_); go_simp; refine hK _ ?_; clear hK K
          with_reducible refine wpStill_step (fun K hK => ?_); go_simp; refine hK _ ?_; clear hK K
          with_reducible refine wpStill_step (fun K hK => ?_); go_simp; refine hK _ ?_; clear hK K
          with_reducible refine wpStill_step (fun K hK => ?_); go_simp; refine hK _ ?_; clear hK K
          refine wpStill_nil ?_
          go_wp2_with fail
          go_roundw
          case rel => exact ⟨v, by omega, by go_num, HNEXT.out v _ HTd.out hvl _ (by rw [HU2.out]; omega), only_set HGd.out _⟩
          case measure => simp [intOf]
        · have hw4 : IntKind.i64.wrap (1 + (X : Int)) = 1 + (X : Int) := IntWalk.i64_in _ (by omega)
          go_wp2_with fail
          refine still_tail 14 (by kernel_rfl) (by kernel_rfl) ?_
          simp only [List.take_succ_cons, List.take_zero, List.drop_succ_cons, List.drop_zero]
          generalize World.drew wr = wd at *
          with_reducible refine wpStill_step (fun K hK => ?_); go_simp; refine hK _ ?_; clear hK K
          with_reducible refine wpStill_step (fun K hK => ?_); go_simp; refine hK _ ?_; clear hK K
          with_reducible refine wpStill_step (fun K hK => ?_); go_simp; refine hK _ ?_; clear hK K
          with_reducible refine wpStill_step (fun K hK => ?_); go_simp; refine hK _ ?_; clear hK K
          with_reducible refine wpStill_step (fun K hK => ?_); go_simp; refine hK _ ?_; clear hK K
          with_reducible refine wpStill_step (fun K hK => ?_); go_simp; refine hK _ ?_; clear hK K
          with_reducible refine wpStill_step (fun K hK => ?_); go_simp; refine hK _ ?_; clear hK K
          with_reducible refine wpStill_step (fun K hK => ?_); go_simp; refine hK _ ?_; clear hK K
          with_reducible refine wpStill_step (fun K hK => ?_); go_simp; refine hK _ ?_; clear hK K
          with_reducible refine wpStill_step (fun K hK => ?_); go_simp; refine hK _ ?_; clear hK K
          with_reducible refine wpStill_step (fun K hK => ?_); go_simp; refine hK _ ?_; clear hK K
          with_reducible refine wpStill_step (fun K hK => ?_); go_simp; refine hK _ ?_; clear hK K
          with_reducible refine wpStill_step (fun K hK => ?_); go_simp; refine hK _ ?_; clear hK K
          with_reducible refine wpStill_step (fun K hK => ?_); go_simp; refine hK _ ?_; clear hK K
          refine wpStill_nil ?_
          go_wp2_with fail
          go_roundw
          case rel => exact ⟨v, by omega, by go_num, HNEXT.out v _ HTd.out hvl _ (by rw [HU2.out]; omega), only_set HGd.out _⟩
          case measure => simp [intOf]
end Go.Proofs.Ytmanafhdmijfeaa
