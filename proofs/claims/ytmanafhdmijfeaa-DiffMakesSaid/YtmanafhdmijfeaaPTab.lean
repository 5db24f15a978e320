/- The program's leastCosts: the table of the least costs, all its rows in one block. -/
import Derived.Test.YtmanafhdmijfeaaPRow
namespace Go.Proofs.Ytmanafhdmijfeaa
open Go Go.RowKit

/-- The rows up to t are told. -/
def RowsTo (a b : List UInt8) (R G t : Nat) (w : World) : Prop :=
  ∃ cr, Blk w R 55 cr ∧ cr.size = a.length + 1 ∧ ∀ r, r < t → cr[r]? = some (.slice (some ⟨G, r * (b.length + 1), none⟩) (b.length + 1) (b.length + 1))
/-- The last row up to s. -/
def LastTo (a b : List UInt8) (G s : Nat) (w : World) : Prop :=
  ∃ cs, Blk w G 3 cs ∧ cs.size = (a.length + 1) * (b.length + 1) ∧ ∀ j, j < s → j ≤ b.length → cs[a.length * (b.length + 1) + j]? = some (.int .i64 (D a b a.length j : Int))

theorem make_grid (n : Nat) (hn : n ≤ 1002001) (w : World) : (Instr.makeSlice 55 (.int .i64 (n : Int)) (.int .i64 (n : Int))).run Try.prog w = .ok (.slice (some ⟨w.heap.size, 0, none⟩) n n) (w.alloc (.cells (madeCells #[.int .i64 0] n) 3)) :=
  run_make_row' (P := Try.prog) 55 3 (.int .i64 0) 8 Try.underlying55 infoInt rfl .i64 .i64 n (by omega) (by omega) w

theorem cut_row (G N o o' m : Nat) (h1 : o' = o + (m + 1)) (h2 : o' ≤ N) (w : World) :
    (Instr.slice 55 (.slice (some ⟨G, 0, none⟩) N N) (some (.int .i64 (o : Int))) (some (.int .i64 (o' : Int))) (some (.int .i64 (o' : Int)))).run Try.prog w = .ok (.slice (some ⟨G, o, none⟩) (m + 1) (m + 1)) w := by
  have hsz : (Try.prog.info? (Try.prog.elem 55)).map (·.size) = some 1 := by kernel_rfl
  rw [run_slice_lhm (P := Try.prog) (w := w) (t := 55) (a := some ⟨G, 0, none⟩) (len := N) (cap := N) (by kernel_rfl) .i64 .i64 .i64 (o : Int) (o' : Int) (o' : Int) (by omega) (by omega) (by omega) (by omega)]
  cases hq : Try.prog.info? (Try.prog.elem 55) with
  | none => simp [hq] at hsz
  | some i =>
    have hs : i.size = 1 := by simpa [hq] using hsz
    have e1 : o' - o = m + 1 := by omega
    have e2 : ¬ o' = o := by omega
    simp [sizeOf, typeInfo, hq, hs, sliced, e1, e2, Addr.add, Result.andThen]
    intro h; omega

section
variable {a b : List UInt8} {R G s t : Nat} {w w' : World}
theorem RowsTo.cell {r : Nat} (h : RowsTo a b R G t w) (hr : r < t) : w.cell? ⟨R, r, none⟩ = some (.slice (some ⟨G, r * (b.length + 1), none⟩) (b.length + 1) (b.length + 1)) := by
  obtain ⟨cr, k1, k2, k3⟩ := h
  rw [k1.cell, k3 r hr]
theorem RowsTo.old {r : Nat} (h : RowsTo a b R G t w) (hr : r ≤ a.length) : ∃ x, w.cell? ⟨R, r, none⟩ = some x ∧ w.frozen? ⟨R, r, none⟩ = false := by
  obtain ⟨cr, k1, k2, k3⟩ := h
  exact ⟨cr[r], by rw [k1.cell, Array.getElem?_eq_getElem (by omega)], k1.frozen _⟩
theorem RowsTo.next (h : RowsTo a b R G t w) (ht : t ≤ a.length) : RowsTo a b R G (t + 1) (w.setCell ⟨R, t, none⟩ (.slice (some ⟨G, t * (b.length + 1), none⟩) (b.length + 1) (b.length + 1))) := by
  obtain ⟨cr, k1, k2, k3⟩ := h
  refine ⟨_, k1.set_ _ _, by simpa using k2, fun r hr => ?_⟩
  by_cases he : r = t
  · subst he
    rw [Array.getElem?_setIfInBounds, if_pos rfl, if_pos (by omega)]
  · rw [Array.getElem?_setIfInBounds, if_neg (fun e => he e.symm)]
    exact k3 r (by omega)
theorem RowsTo.drew (h : RowsTo a b R G t w) : RowsTo a b R G t w.drew := h
theorem RowsTo.far (h : RowsTo a b R G t w) {p : Addr} (hp : R ≠ p.block) (x : Value) : RowsTo a b R G t (w.setCell p x) := by
  obtain ⟨cr, k1, k2, k3⟩ := h
  exact ⟨cr, k1.far hp x, k2, k3⟩
theorem RowsTo.grown (h : RowsTo a b R G t w) (hg : w.grownBy w' (some G)) (hne : R ≠ G) : RowsTo a b R G t w' := by
  obtain ⟨cr, k1, k2, k3⟩ := h
  exact ⟨cr, k1.grown hg (fun e => hne (Option.some.inj e)), k2, k3⟩
theorem RowsTo.later (h : RowsTo a b R G t w) (hb : Below w.heap.size w w') : RowsTo a b R G t w' := by
  obtain ⟨cr, k1, k2, k3⟩ := h
  exact ⟨cr, k1.later hb, k2, k3⟩
theorem LastTo.old {j : Nat} (h : LastTo a b G s w) (hj : j ≤ b.length) : ∃ x, w.cell? ⟨G, a.length * (b.length + 1) + j, none⟩ = some x ∧ w.frozen? ⟨G, a.length * (b.length + 1) + j, none⟩ = false := by
  obtain ⟨cs, k1, k2, k3⟩ := h
  have := at_lt (Nat.le_refl a.length) hj
  exact ⟨cs[a.length * (b.length + 1) + j], by rw [k1.cell, Array.getElem?_eq_getElem (by omega)], k1.frozen _⟩
theorem LastTo.next (h : LastTo a b G s w) (hs : s ≤ b.length) {x : Int} (hx : x = (D a b a.length s : Int)) : LastTo a b G (s + 1) (w.setCell ⟨G, a.length * (b.length + 1) + s, none⟩ (.int .i64 x)) := by
  obtain ⟨cs, k1, k2, k3⟩ := h
  have := at_lt (Nat.le_refl a.length) hs
  refine ⟨_, k1.set_ _ _, by simpa using k2, fun j h1 h2 => ?_⟩
  by_cases he : j = s
  · subst he
    rw [Array.getElem?_setIfInBounds, if_pos rfl, if_pos (by omega), hx]
  · rw [Array.getElem?_setIfInBounds, if_neg (by omega)]
    exact k3 j (by omega) h2
theorem LastTo.done (h : LastTo a b G (b.length + 1) w) : Grid a b G a.length 0 w := by
  obtain ⟨cs, k1, k2, k3⟩ := h
  refine ⟨cs, k1, k2, fun r j h1 h2 h3 => ?_⟩
  obtain rfl : r = a.length := by omega
  exact k3 j (by omega) h3
theorem D_last (hj : s ≤ b.length) : (b.length : Int) - s = (D a b a.length s : Int) := by
  unfold D
  rw [List.drop_length, Df.dist_nil, List.length_drop]; omega
end

/-- The table: R tells the rows, G holds the costs. -/
structure Costs (a b : List UInt8) (R G : Nat) (w : World) : Prop where
  rows : RowsTo a b R G (a.length + 1) w
  grid : Grid a b G 0 0 w

set_option maxRecDepth 100000 in
set_option maxHeartbeats 8000000 in
theorem costs_any (a b : List UInt8) (ha : a.length ≤ 1000) (hb : b.length ≤ 1000) (w : World) :
    Calls Try.prog 35 #[.string (sB a), .string (sB b)] w
      fun e w' => ∃ R G, e = .returned (.slice (some ⟨R, 0, none⟩) (a.length + 1) (a.length + 1)) ∧ Costs a b R G w' ∧ Below w.heap.size w w' := by
  have hsa := sB_size a
  have hsb := sB_size b
  have HAT := Lib.hid (fun r (hr : r ≤ a.length) => at_lt (r := r) (j := b.length) (l := a.length) (m := b.length) hr (Nat.le_refl _))
  have hmul : ((a.length : Int) + 1) * ((b.length : Int) + 1) = (((a.length + 1) * (b.length + 1) : Nat) : Int) := by simp
  have hN0 : (a.length + 1) * (b.length + 1) ≤ 1001 * 1001 := Nat.mul_le_mul (by omega) (by omega)
  have HZ := Lib.hid (Blk.new w 3 (madeCells #[.int .i64 0] ((a.length + 1) * (b.length + 1))))
  have HZS := Lib.hid (made_size (.int .i64 0) ((a.length + 1) * (b.length + 1)))
  obtain ⟨N, hN⟩ : ∃ N, N = (a.length + 1) * (b.length + 1) := ⟨_, rfl⟩
  rw [← hN] at hmul hN0 HAT HZ HZS
  have HN := Lib.hid hN
  have hwN : IntKind.i64.wrap (((a.length : Int) + 1) * ((b.length : Int) + 1)) = (N : Int) := by rw [hmul]; exact IntWalk.i64_in _ (by omega)
  have hmk := make_grid N (by omega)
  have hmr := make_rows a.length ha
  have HMUL := Lib.hid (fun r => (by simp : ((r : Nat) : Int) * ((b.length : Int) + 1) = ((r * (b.length + 1) : Nat) : Int)))
  have HSUC := Lib.hid (fun r => Nat.succ_mul r (b.length + 1))
  clear hN hmul
  go_enter Try.func35, Try.ntmps35
  go_wp2_with fail
  clear hwN hmk hmr
  have HBR := Lib.hid (Blk.new (w.alloc (.cells (madeCells #[.int .i64 0] N) 3)) 55 (madeCells #[.slice none 0 0] (a.length + 1)))
  have hRe : (w.alloc (.cells (madeCells #[.int .i64 0] N) 3)).heap.size = w.heap.size + 1 := by simp
  rw [hRe] at HBR
  obtain ⟨R, hR⟩ : ∃ R, R = w.heap.size + 1 := ⟨_, rfl⟩
  rw [← hR] at HBR ⊢
  have hRG : R ≠ w.heap.size := by omega
  have hRw : w.heap.size ≤ R := by omega
  clear hR hRe
  go_loopw [27] (fun i wr => ∃ t : Nat, t ≤ a.length + 1 ∧ i = .int .i64 (t : Int) ∧ RowsTo a b R w.heap.size t wr ∧ Blk wr w.heap.size 3 (madeCells #[.int .i64 0] N) ∧ Below w.heap.size w wr) (fun i _ => a.length + 1 - (intOf i).toNat)
  case atStart => exact ⟨0, by omega, rfl, ⟨_, HBR.out, made_size _ _, fun r hr => absurd hr (Nat.not_lt_zero _)⟩, HZ.out.alloc _, (below_alloc w _).alloc (by simp) _⟩
  case round =>
    obtain ⟨t, ht, rfl, hT, hZ, hB⟩ := hrel
    have HT := Lib.hid hT
    have HZr := Lib.hid hZ
    have HB := Lib.hid hB
    clear hT hZ hB
    by_cases hlt : t < a.length + 1
    · have hltI : (t : Int) < (a.length : Int) + 1 := by omega
      have hm1 := HMUL.out t
      have hm2 := HMUL.out (t + 1)
      have hs := HSUC.out t
      have hat := HAT.out t (by omega)
      have hw1 : IntKind.i64.wrap ((t : Int) + 1) = (t : Int) + 1 := IntWalk.i64_in _ (by omega)
      obtain ⟨o, ho⟩ : ∃ o, o = t * (b.length + 1) := ⟨_, rfl⟩
      obtain ⟨o', ho'⟩ : ∃ o, o = (t + 1) * (b.length + 1) := ⟨_, rfl⟩
      have HO := Lib.hid ho
      rw [Nat.succ_eq_add_one] at hs
      rw [← ho] at hm1 hs hat
      rw [← ho'] at hm2 hs
      have hw2 : IntKind.i64.wrap ((t : Int) * ((b.length : Int) + 1)) = (o : Int) := by rw [hm1]; exact IntWalk.i64_in _ (by omega)
      have hw3 : IntKind.i64.wrap (((t : Int) + 1) * ((b.length : Int) + 1)) = (o' : Int) := by
        rw [Int.natCast_add] at hm2
        have hm3 : ((t : Int) + 1) * ((b.length : Int) + 1) = (o' : Int) := hm2
        rw [hm3]; exact IntWalk.i64_in _ (by omega)
      have hcut := cut_row w.heap.size N o o' b.length hs (by omega)
      obtain ⟨old, e0, f0⟩ := HT.out.old (r := t) (by omega)
      clear hm1 hm2 ho ho' hs hat
      go_wp2_with fail
      go_roundw
      case rel => exact ⟨t + 1, by omega, by go_num, by have := HT.out.next (by omega); rw [← HO.out] at this; exact this, HZr.out.far (by exact fun e => hRG e.symm) _, HB.out.setCell hRw _⟩
      case measure => simp [intOf]; omega
    · have hltI : ¬ (t : Int) < (a.length : Int) + 1 := by omega
      obtain rfl : t = a.length + 1 := by omega
      have e0 := HT.out.cell (r := a.length) (by omega)
      have HL0 := Lib.hid (⟨_, HZr.out, by rw [HZS.out, HN.out], fun j h1 _ => absurd h1 (Nat.not_lt_zero _)⟩ : LastTo a b w.heap.size 0 wr)
      have HLO := Lib.hid (fun s w1 j (h : LastTo a b w.heap.size s w1) => h.old (j := j))
      have HLN := Lib.hid (fun s w1 (h : LastTo a b w.heap.size s w1) x (hs : s ≤ b.length) (hx : x = (D a b a.length s : Int)) => h.next hs hx)
      obtain ⟨o, ho⟩ : ∃ o, o = a.length * (b.length + 1) := ⟨_, rfl⟩
      rw [← ho] at e0 HLO HLN
      clear ho
      go_wp2_with fail
      clear e0
      have HT0 := Lib.hid HT.out
      have HB0 := Lib.hid HB.out
      clear HZr HB HT
      go_loopw [54] (fun i wr => ∃ s : Nat, s ≤ b.length + 1 ∧ i = .int .i64 (s : Int) ∧ RowsTo a b R w.heap.size (a.length + 1) wr ∧ LastTo a b w.heap.size s wr ∧ Below w.heap.size w wr) (fun i _ => b.length + 1 - (intOf i).toNat)
      case atStart => exact ⟨0, by omega, rfl, HT0.out, HL0.out, HB0.out⟩
      clear HT0 HL0 HB0
      case round =>
        obtain ⟨s, hs, rfl, hT, hL, hB⟩ := hrel
        have HT := Lib.hid hT
        have HL := Lib.hid hL
        have HB := Lib.hid hB
        clear hT hL hB
        by_cases hls : s < b.length + 1
        · have hlsI : (s : Int) < (b.length : Int) + 1 := by omega
          have HX := Lib.hid (D_last (a := a) (b := b) (s := s) (by omega))
          obtain ⟨old, e0, f0⟩ := HLO.out s wr s HL.out (by omega)
          go_wp2_with fail
          go_roundw
          case rel => exact ⟨s + 1, by omega, by go_num, HT.out.far (by exact hRG) _, HLN.out s _ HL.out _ (by omega) HX.out, HB.out.setCell (Nat.le_refl _) _⟩
          case measure => simp [intOf]; omega
        · have hlsI : ¬ (s : Int) < (b.length : Int) + 1 := by omega
          obtain rfl : s = b.length + 1 := by omega
          have HG0 := Lib.hid HL.out.done
          have HT0 := Lib.hid HT.out
          have HB0 := Lib.hid HB.out
          clear HT HL HB HLO HLN
          go_wp2_with fail
          go_loopw [11] (fun i wr => ∃ t : Nat, t ≤ a.length ∧ i = .int .i64 ((t : Int) - 1) ∧ RowsTo a b R w.heap.size (a.length + 1) wr ∧ Grid a b w.heap.size t 0 wr ∧ Below w.heap.size w wr) (fun i _ => (intOf i + 1).toNat)
          case atStart => exact ⟨a.length, Nat.le_refl _, by go_num, HT0.out, HG0.out, HB0.out⟩
          clear HT0 HG0 HB0
          case round =>
            obtain ⟨t, ht, hi, hT, hG, hB⟩ := hrel
            have HT := Lib.hid hT
            have HG := Lib.hid hG
            have HB := Lib.hid hB
            clear hT hG hB
            cases t with
            | zero =>
              obtain rfl := hi
              go_wp2_with fail
              go_ret
              exact ⟨R, w.heap.size, rfl, ⟨HT.out, HG.out⟩, HB.out⟩
            | succ u =>
              have hi2 : (((u + 1 : Nat) : Int) - 1) = (u : Int) := by omega
              rw [hi2] at hi
              obtain rfl := hi
              have hul : u < a.length := by omega
              have hulI : (u : Int) < (a.length : Int) + 1 := by omega
              have hulJ : (u : Int) < (a.length : Int) := by omega
              have hw1 : IntKind.i64.wrap ((u : Int) + 1) = (u : Int) + 1 := IntWalk.i64_in _ (by omega)
              have hn1 : 0 ≤ (u : Int) + 1 := by omega
              have hl1 : (u : Int) + 1 < (a.length : Int) + 1 := by omega
              have ht1 : ((u : Int) + 1).toNat = u + 1 := by omega
              have hia := fun w => run_str_index (P := Try.prog) Try.underlying9 a u hul w
              have HF := Lib.hid (fill_any a b ha hb w.heap.size u hul wr.drew HG.out.drew)
              have HTd := Lib.hid HT.out.drew
              have HBd := Lib.hid HB.out.drew
              have c0 := HTd.out.cell (r := u) (by omega)
              have c1 := HTd.out.cell (r := u + 1) (by omega)
              obtain ⟨xa, hxa⟩ : ∃ x, x = a[u] := ⟨_, rfl⟩
              rw [← hxa] at hia HF
              obtain ⟨o, ho⟩ : ∃ o, o = u * (b.length + 1) := ⟨_, rfl⟩
              obtain ⟨o', ho'⟩ : ∃ o, o = (u + 1) * (b.length + 1) := ⟨_, rfl⟩
              rw [← ho] at c0 HF
              rw [← ho'] at c1 HF
              clear hxa ho ho' hi2
              go_wp2_with fail
              refine still_tail 13 (by kernel_rfl) (by kernel_rfl) ?_
              simp only [List.take_succ_cons, List.take_zero, List.drop_succ_cons, List.drop_zero]
              generalize World.drew wr = wd at *
              with_reducible refine wpStill_step (fun K hK => ?_); go_simp; refine hK _ ?_; clear hK K
              with_reducible refine wpStill_step (fun K hK => ?_); go_simp; refine hK _ ?_; clear hK K
              with_reducible refine wpStill_step (fun K hK => ?_); go_simp; refine hK _ ?_; clear hK K
              with_reducible refine wpStill_step (fun K hK => ?_); go_simp; refine hK _ ?_; clear hK K
              with_reducible refine wpStill_step (fun K hK => ?_); go_simp; refine hK _ ?_; clear hK K
              with_reducible refine wpStill_step (fun K hK => ?_); go_simp; refine hK _ ?_; clear hK K
              with_reducible refine wpStill_step (fun K hK => ?_); go_simp; refine hK _ ?_; clear hK K
              with_reducible refine wpStill_step (fun K hK => ?_); go_simp; refine hK _ ?_; clear hK K
              with_reducible refine wpStill_step (fun K hK => ?_); go_simp; refine hK _ ?_; clear hK K
              with_reducible refine wpStill_step (fun K hK => ?_); go_simp; refine hK _ ?_; clear hK K
              with_reducible refine wpStill_step (fun K hK => ?_); go_simp; refine hK _ ?_; clear hK K
              with_reducible refine wpStill_step (fun K hK => ?_); go_simp; refine hK _ ?_; clear hK K
              with_reducible refine wpStill_step (fun K hK => ?_); go_simp; refine hK _ ?_; clear hK K
              refine wpStill_nil ?_
              go_wp2_with fail
              refine HF.out.mono ?_; rintro e w2 ⟨rfl, hg2, hgr⟩
              have HT2 := Lib.hid (HTd.out.grown hgr hRG)
              have HB2 := Lib.hid (HBd.out.grown hgr HBd.out.size (fun q hq => by rw [← Option.some.inj hq]; exact Nat.le_refl _))
              have HG2 := Lib.hid hg2
              clear hg2 hgr c0 c1
              go_wp2_with fail
              go_roundw
              case rel => exact ⟨u, by omega, by go_num, HT2.out, HG2.out, HB2.out⟩
              case measure => simp [intOf]
end Go.Proofs.Ytmanafhdmijfeaa
