/- alive: what must come does come. -/
import Derived.Test.YtebfocfeehajjaaPCom
import Derived.Test.YtebfocfeehajjaaRSameD
import Derived.Laws.Tables
import Derived.Great.FillDense
namespace Go.Proofs.Ytebfocfeehajjaa
open Go Go.RowKit

def dgk (k c : Nat) : List UInt8 := (if c ≤ k then UInt8.ofNat c else 0) :: List.replicate 31 0
def dL (k : Nat) : List (List UInt8) := [dgk k 1, dgk k 2, dgk k 3, dgk k 4]
def dz (k : Nat) : Array Value := (rows bv (dL k)).toArray
theorem dz_zero : Try.zeroCells59 = dz 0 := by kernel_rfl
theorem dz_size (k : Nat) : (dz k).size = 128 := by
  unfold dz dL
  simp [rows, bv, dgk]
theorem dz_1 : (dz 0).setIfInBounds 0 (.int .u8 1) = dz 1 := by kernel_rfl
theorem dz_2 : (dz 1).setIfInBounds 32 (.int .u8 2) = dz 2 := by kernel_rfl
theorem dz_3 : (dz 2).setIfInBounds 64 (.int .u8 3) = dz 3 := by kernel_rfl
theorem dz_4 : (dz 3).setIfInBounds 96 (.int .u8 4) = dz 4 := by kernel_rfl
theorem dz_at (k i : Nat) (hi : i < 128) : ∃ v, (dz k)[i]? = some v := ⟨_, Array.getElem?_eq_getElem (by rw [dz_size]; exact hi)⟩
theorem dig_at : ∀ (L : List (List UInt8)), (∀ d ∈ L, d.length = 32) → ∀ (j i : Nat) (d : List UInt8), L[j]? = some d → i < 32 → (rows bv L)[j * 32 + i]? = (bv d)[i]?
  | [], _, j, i, d, h, _ => by cases h
  | y :: L, hy, j, i, d, h, hi => by
    have hyl := hy y (by simp)
    unfold rows
    rw [List.flatMap_cons]
    cases j with
    | zero =>
      obtain rfl : y = d := by simpa using h
      rw [Nat.zero_mul, Nat.zero_add, List.getElem?_append_left (by rw [bv_length, hyl]; exact hi)]
    | succ j =>
      have ih := dig_at L (fun s hs => hy s (by simp [hs])) j i d (by simpa using h) hi
      unfold rows at ih
      rw [List.getElem?_append_right (by rw [bv_length, hyl]; omega), bv_length, hyl, show (j + 1) * 32 + i - 32 = j * 32 + i by omega]
      exact ih
theorem infoNode3 : (Try.prog.info? 50).map (fun i => (i.zero, i.size, i.bytes)) = some (some (.agg (List.replicate 32 (Value.int .u8 0) ++ [Value.slice none 0 0]).toArray), 33, 56) := by kernel_rfl
/-- A struct built in a still region. -/
theorem still_build_as {P : Program} {ops : Array Oper} {w : World} {Q : Act → Prop} {rest : List Oper} {op : Oper} {a : Act} (hw : Region.wanted op (yielded ops a.tmps) = true) (t : TypeId) (parts : Array (Nat × Operand)) (ho : op.op = .build t parts)
    (ps : List (Nat × Value)) (hps : (parts.toList.map fun p => (p.1, a.eval p.2)) = ps) (cs : Array Value) (hcs : P.built t ps = some cs)
    (h : wpStill P ops w Q rest (a.put op.dst (.agg cs))) : wpStill P ops w Q (op :: rest) a := by
  have e : (parts.map fun (i, x) => (i, a.eval x)).toList = ps := by rw [Array.toList_map]; exact hps
  rw [wpStill, if_pos hw]
  unfold Oper.still execOp
  simp only [ho, Sem.run_bind, run_build w t _ cs (by rw [e]; exact hcs), Result.andThen_ok, Sem.run_pure]
  exact ⟨rfl, h⟩
/-- A slice of four things of many cells. -/
theorem wpList_four_slice {P : Program} {ops : Array Oper} {rest : List Oper} {o : Oper} {a : Act} {w : World} {Q : Exit → Act → World → Prop} (hg : o.guard = none) (t e : TypeId) (x0 x1 x2 x3 : Operand) (ho : o.op = .buildSlice t 4 #[(0, x0), (1, x1), (2, x2), (3, x3)]) (ie : TypeInfo) (z : Value) (D0 D1 D2 D3 : Array Value) (k : Nat)
    (h0 : a.eval x0 = .agg D0) (h1 : a.eval x1 = .agg D1) (h2 : a.eval x2 = .agg D2) (h3 : a.eval x3 = .agg D3) (s0 : D0.size = k) (s1 : D1.size = k) (s2 : D2.size = k) (s3 : D3.size = k) (hk : 0 < k) (hk2 : k ≤ 1000)
    (hu : P.underlying t = some (.slice e)) (hie : P.info? e = some ie) (hz : ie.zero = some z) (hs : ie.size = k)
    (h : wpList P ops Q rest (a.put o.dst (.slice (some ⟨w.heap.size, 0, none⟩) 4 4)) (w.alloc (.cells (D0.toList ++ (D1.toList ++ (D2.toList ++ D3.toList))).toArray e))) : wpList P ops Q (o :: rest) a w := by
  refine wpList_plain hg fun _ hK => ?_
  have hr : (Instr.buildSlice t 4 #[(0, .agg D0), (1, .agg D1), (2, .agg D2), (3, .agg D3)]).run P w = .ok (.slice (some ⟨w.heap.size, 0, none⟩) 4 4) (w.alloc (.cells (D0.toList ++ (D1.toList ++ (D2.toList ++ D3.toList))).toArray e)) := by
    refine run_buildSlice w t e 4 _ _ ie z hu hie hz (by rw [hs]; omega) (by rw [hs]; omega) ?_
    have h := Go.Great.fill_whole (s := k) hk [Value.agg D0, .agg D1, .agg D2, .agg D3] ((Array.range (4 * ie.size)).map (z.cells[· % z.cells.size]!)) (by
      intro v hv
      simp only [List.mem_cons, List.not_mem_nil, or_false] at hv
      rcases hv with rfl | rfl | rfl | rfl
      · exact s0
      · exact s1
      · exact s2
      · exact s3) (by simp [hs])
    rw [hs] at h ⊢
    rw [show (#[(0, Value.agg D0), (1, .agg D1), (2, .agg D2), (3, .agg D3)] : Array (Nat × Value)).toList = (([Value.agg D0, .agg D1, .agg D2, .agg D3].zipIdx 0).map fun x => (x.2, x.1)) from rfl, h]
    simp [Value.cells]
  unfold Oper.wp execOp
  simp only [ho, List.map_toArray, List.map_cons, List.map_nil, h0, h1, h2, h3, Sem.run_bind, hr, Result.andThen_ok]
  exact hK _ _ h

def l4 (gd : Nat) : List (Nod × Option Addr × Nat) := [(⟨dgk 4 1, []⟩, none, 0), (⟨dgk 4 2, [dgk 4 1]⟩, some ⟨gd, 0, none⟩, 4), (⟨dgk 4 3, [dgk 4 1]⟩, some ⟨gd, 0, none⟩, 4), (⟨dgk 4 4, [dgk 4 2, dgk 4 3]⟩, some ⟨gd, 32, none⟩, 3)]
def n4 : List Nod := [⟨dgk 4 1, []⟩, ⟨dgk 4 2, [dgk 4 1]⟩, ⟨dgk 4 3, [dgk 4 1]⟩, ⟨dgk 4 4, [dgk 4 2, dgk 4 3]⟩]
theorem ns_l4 (gd : Nat) : nsOf (l4 gd) = n4 := rfl
theorem a4_heads : askE n4 [[dgk 4 1, dgk 4 2, dgk 4 3]] = 0 := by decide +kernel
theorem h4_heads : Gr.headsL Tx.less n4 [dgk 4 1, dgk 4 2, dgk 4 3] = [dgk 4 2, dgk 4 3] := by decide +kernel
theorem a4_common : askE n4 [[dgk 4 2], [dgk 4 3]] = 0 := by decide +kernel
theorem h4_common : Gr.commonL Tx.less n4 [dgk 4 2] [dgk 4 3] = [dgk 4 1] := by decide +kernel
theorem a4_lacks : askE n4 [[dgk 4 4], [dgk 4 2]] = 0 := by decide +kernel
theorem h4_lacks : Gr.lacksL Tx.less n4 [dgk 4 4] [dgk 4 2] = [dgk 4 3, dgk 4 4] := by decide +kernel
theorem rd_dz {w : World} {gd : Nat} (h : Blk w gd 59 (dz 4)) (j n : Nat) (hjn : j + n ≤ 4) : Rd w w.heap.size (some ⟨gd, 32 * j, none⟩) (n * 32) (rows bv (((dL 4).drop j).take n)) := by
  have hl : ∀ L : List (List UInt8), (∀ d ∈ L, d.length = 32) → (rows bv L).length = L.length * 32 := by
    intro L
    induction L with
    | nil => intro _; rfl
    | cons y L ih =>
      intro hy
      have := ih (fun s hs => hy s (by simp [hs]))
      unfold rows at this ⊢
      rw [List.flatMap_cons, List.length_append, bv_length, hy y (by simp), this, List.length_cons]
      omega
  have hmem : ∀ d ∈ ((dL 4).drop j).take n, d.length = 32 := fun d hd => by
    have hd' : d ∈ dL 4 := List.mem_of_mem_drop (List.mem_of_mem_take hd)
    have := (by decide : ∀ d ∈ dL 4, d.length = 32)
    exact this d hd'
  have hlen : (((dL 4).drop j).take n).length = n := by rw [List.length_take, List.length_drop]; show min n (4 - j) = n; omega
  refine ⟨by rw [hl _ hmem, hlen], fun _ => ⟨_, rfl, h.lt, fun i v hv => ?_⟩⟩
  rw [Addr.add_lit, h.cell]
  have hi : i < n * 32 := by have := (List.getElem?_eq_some_iff.1 hv).1; rwa [hl _ hmem, hlen] at this
  have hq : i / 32 < n := by omega
  obtain ⟨d, hd⟩ : ∃ d, (((dL 4).drop j).take n)[i / 32]? = some d := ⟨_, List.getElem?_eq_getElem (by rw [hlen]; exact hq)⟩
  have e1 := dig_at _ hmem (i / 32) (i % 32) d hd (Nat.mod_lt _ (by decide))
  have hd2 : (dL 4)[j + i / 32]? = some d := by rw [List.getElem?_take, if_pos hq, List.getElem?_drop] at hd; exact hd
  have e2 := dig_at (dL 4) (by decide) (j + i / 32) (i % 32) d hd2 (Nat.mod_lt _ (by decide))
  rw [Nat.div_add_mod' i 32, hv] at e1
  unfold dz
  rw [List.getElem?_toArray, show 32 * j + i = (j + i / 32) * 32 + i % 32 by omega, e2, ← e1]
theorem q4_in {w : World} {gd : Nat} (h : Blk w gd 59 (dz 4)) (j n c : Nat) (hjn : j + n ≤ 4) : QIn w [(((dL 4).drop j).take n, some ⟨gd, 32 * j, none⟩, c)] := ⟨fun q hq => by
  rw [List.mem_singleton] at hq
  subst hq
  have hlen : (((dL 4).drop j).take n).length = n := by rw [List.length_take, List.length_drop]; show min n (4 - j) = n; omega
  refine ⟨fun d hd => ?_, by show Rd w w.heap.size _ ((((dL 4).drop j).take n).length * 32) _; rw [hlen]; exact rd_dz h j n hjn, by show (((dL 4).drop j).take n).length * 32 ≤ _; rw [hlen]; omega⟩
  have hd' : d ∈ dL 4 := List.mem_of_mem_drop (List.mem_of_mem_take hd)
  have := (by decide : ∀ d ∈ dL 4, d.length = 32)
  exact this d hd'⟩
theorem q_two {w : World} {a b : Qst} (h1 : QIn w [a]) (h2 : QIn w [b]) : QIn w [a, b] := ⟨fun q hq => by
  rcases List.mem_cons.1 hq with rfl | hq
  · exact h1.each _ (List.mem_singleton.2 rfl)
  · rw [List.mem_singleton.1 hq]; exact h2.each _ (List.mem_singleton.2 rfl)⟩
theorem q4_two {w : World} {gd : Nat} (h : Blk w gd 59 (dz 4)) : QIn w [([dgk 4 2], some ⟨gd, 32, none⟩, 3), ([dgk 4 3], some ⟨gd, 64, none⟩, 2)] := q_two (q4_in h 1 1 3 (by omega)) (q4_in h 2 1 2 (by omega))
theorem q4_two' {w : World} {gd : Nat} (h : Blk w gd 59 (dz 4)) : QIn w [([dgk 4 4], some ⟨gd, 96, none⟩, 1), ([dgk 4 2], some ⟨gd, 32, none⟩, 3)] := q_two (q4_in h 3 1 1 (by omega)) (q4_in h 1 1 3 (by omega))
theorem l4_in {w : World} {gd : Nat} (h : Blk w gd 59 (dz 4)) : NIn w (l4 gd) := ⟨fun t ht => by
  simp only [l4, List.mem_cons, List.not_mem_nil, or_false] at ht
  rcases ht with rfl | rfl | rfl | rfl
  · exact ⟨rfl, (fun p hp => by cases hp), Rd.nil _ _ _, by decide⟩
  · exact ⟨rfl, (by decide : ∀ p ∈ [dgk 4 1], p.length = 32), rd_dz h 0 1 (by omega), Nat.le_of_ble_eq_true rfl⟩
  · exact ⟨rfl, (by decide : ∀ p ∈ [dgk 4 1], p.length = 32), rd_dz h 0 1 (by omega), Nat.le_of_ble_eq_true rfl⟩
  · exact ⟨rfl, (by decide : ∀ p ∈ [dgk 4 2, dgk 4 3], p.length = 32), rd_dz h 1 2 (by omega), Nat.le_of_ble_eq_true rfl⟩⟩
theorem dg4 : ∀ d ∈ dL 4, d.length = 32 := by decide

set_option maxRecDepth 100000 in
set_option maxHeartbeats 4000000 in
theorem alive_any (w : World) : Calls Try.prog 16 #[] w fun e w' => e = .returned (.bool true) ∧ Below w.heap.size w w' := by
  have hzz := dz_zero
  go_enter Try.func16, Try.ntmps16
  go_wp2_with fail
  clear hzz
  go_loopw [2] (fun iv wr => ∃ k : Nat, iv = .int .i64 (k : Int) ∧ k ≤ 4 ∧ Blk wr w.heap.size 59 (dz k) ∧ Below w.heap.size w wr) (fun iv _ => 4 - (intOf iv).toNat)
  case atStart => exact ⟨0, rfl, by omega, Blk.new w _ _, below_alloc w _⟩
  case round =>
    obtain ⟨k, rfl, hk, hb, hbw⟩ := hrel
    by_cases hlt : k < 4
    · obtain ⟨v, hv⟩ : ∃ v, wr.cell? ⟨w.heap.size, 32 * k, none⟩ = some v := by
        obtain ⟨v, hv⟩ := dz_at k (32 * k) (by omega)
        exact ⟨v, (hb.cell _).trans hv⟩
      have hf : wr.frozen? ⟨w.heap.size, 32 * k, none⟩ = false := hb.frozen _
      have hb2 := hb.set_ (32 * k) (.int .u8 ((k : Int) + 1))
      have HB := Lib.hid hb2
      have HBW := Lib.hid (hbw)
      clear hb hbw hb2
      obtain rfl | rfl | rfl | rfl : k = 0 ∨ k = 1 ∨ k = 2 ∨ k = 3 := by omega
      · go_wp2_with fail
        refine ⟨⟨1, rfl, by omega, ?_, HBW.out.grown (grown_set wr w.heap.size 0 _) HBW.out.size (fun q hq => by cases hq; exact Nat.le_refl _)⟩, by decide⟩
        have h := HB.out
        rw [← dz_1]
        exact h
      · go_wp2_with fail
        refine ⟨⟨2, rfl, by omega, ?_, HBW.out.grown (grown_set wr w.heap.size 32 _) HBW.out.size (fun q hq => by cases hq; exact Nat.le_refl _)⟩, by decide⟩
        have h := HB.out
        rw [← dz_2]
        exact h
      · go_wp2_with fail
        refine ⟨⟨3, rfl, by omega, ?_, HBW.out.grown (grown_set wr w.heap.size 64 _) HBW.out.size (fun q hq => by cases hq; exact Nat.le_refl _)⟩, by decide⟩
        have h := HB.out
        rw [← dz_3]
        exact h
      · go_wp2_with fail
        refine ⟨⟨4, rfl, by omega, ?_, HBW.out.grown (grown_set wr w.heap.size 96 _) HBW.out.size (fun q hq => by cases hq; exact Nat.le_refl _)⟩, by decide⟩
        have h := HB.out
        rw [← dz_4]
        exact h
    · obtain rfl : k = 4 := by omega
      have hzr := hb.drew
      obtain ⟨gd, hgd⟩ : ∃ y, y = w.heap.size := ⟨_, rfl⟩
      rw [← hgd] at hb hzr
      have HZ := Lib.hid hzr
      have HBW := Lib.hid hbw.drew
      have cel : ∀ (j : Nat) (d : List UInt8), (dL 4)[j]? = some d → d.length = 32 → ∀ i v, (bv d)[i]? = some v → wr.drew.cell? ((⟨gd, 32 * j, none⟩ : Addr).add i) = some v := by
        intro j d hj hd i v hv
        have hi : i < 32 := by have := (List.getElem?_eq_some_iff.1 hv).1; rwa [bv_length, hd] at this
        rw [Addr.add_lit, HZ.out.cell]
        unfold dz
        rw [List.getElem?_toArray, Nat.mul_comm, dig_at (dL 4) (by decide) j i d hj hi, hv]
      have HC0 := Lib.hid (cel 0 (dgk 4 1) rfl rfl)
      have HC1 := Lib.hid (cel 1 (dgk 4 2) rfl rfl)
      have HC2 := Lib.hid (cel 2 (dgk 4 3) rfl rfl)
      have HC3 := Lib.hid (cel 3 (dgk 4 4) rfl rfl)
      obtain ⟨N0, hN0⟩ : ∃ N, N = (ndC ⟨dgk 4 1, []⟩ none 0).toArray := ⟨_, rfl⟩
      obtain ⟨N1, hN1⟩ : ∃ N, N = (ndC ⟨dgk 4 2, [dgk 4 1]⟩ (some ⟨gd, 0, none⟩) 4).toArray := ⟨_, rfl⟩
      obtain ⟨N2, hN2⟩ : ∃ N, N = (ndC ⟨dgk 4 3, [dgk 4 1]⟩ (some ⟨gd, 0, none⟩) 4).toArray := ⟨_, rfl⟩
      obtain ⟨N3, hN3⟩ : ∃ N, N = (ndC ⟨dgk 4 4, [dgk 4 2, dgk 4 3]⟩ (some ⟨gd, 32, none⟩) 3).toArray := ⟨_, rfl⟩
      have HB0 := Lib.hid (show Try.prog.built 50 [(0, .agg (bv (dgk 4 1)).toArray)] = some N0 by rw [hN0]; kernel_rfl)
      have HB1 := Lib.hid (show Try.prog.built 50 [(0, .agg (bv (dgk 4 2)).toArray), (1, .slice (some ⟨gd, 0, none⟩) 1 4)] = some N1 by rw [hN1]; kernel_rfl)
      have HB2 := Lib.hid (show Try.prog.built 50 [(0, .agg (bv (dgk 4 3)).toArray), (1, .slice (some ⟨gd, 0, none⟩) 1 4)] = some N2 by rw [hN2]; kernel_rfl)
      have HB3 := Lib.hid (show Try.prog.built 50 [(0, .agg (bv (dgk 4 4)).toArray), (1, .slice (some ⟨gd, 32, none⟩) 2 3)] = some N3 by rw [hN3]; kernel_rfl)
      have hE0 : (bv (dgk 4 1)).length = 32 := rfl
      obtain ⟨X0, hX0⟩ : ∃ X, X = bv (dgk 4 1) := ⟨_, rfl⟩
      obtain ⟨X1, hX1⟩ : ∃ X, X = bv (dgk 4 2) := ⟨_, rfl⟩
      obtain ⟨X2, hX2⟩ : ∃ X, X = bv (dgk 4 3) := ⟨_, rfl⟩
      obtain ⟨X3, hX3⟩ : ∃ X, X = bv (dgk 4 4) := ⟨_, rfl⟩
      have HL0 := Lib.hid (show (Try.prog.info? 47).map (·.size) = some X0.length by rw [hX0]; exact infoD32)
      have HL1 := Lib.hid (show (Try.prog.info? 47).map (·.size) = some X1.length by rw [hX1]; exact infoD32)
      have HL2 := Lib.hid (show (Try.prog.info? 47).map (·.size) = some X2.length by rw [hX2]; exact infoD32)
      have HL3 := Lib.hid (show (Try.prog.info? 47).map (·.size) = some X3.length by rw [hX3]; exact infoD32)
      rw [← hX0] at HC0 HB0
      rw [← hX1] at HC1 HB1
      rw [← hX2] at HC2 HB2
      rw [← hX3] at HC3 HB3
      have HN := Lib.hid (And.intro hN0 (And.intro hN1 (And.intro hN2 hN3)))
      have HS0 := Lib.hid (show N0.size = 33 by rw [hN0]; rfl)
      have HS1 := Lib.hid (show N1.size = 33 by rw [hN1]; rfl)
      have HS2 := Lib.hid (show N2.size = 33 by rw [hN2]; rfl)
      have HS3 := Lib.hid (show N3.size = 33 by rw [hN3]; rfl)
      have HGD := Lib.hid hgd
      rw [← hgd]
      clear hb hbw hzr cel hX0 hX1 hX2 hX3 hN0 hN1 hN2 hN3 hE0 hgd
      go_wp2_with fail
      refine still_tail 15 (by kernel_rfl) (by kernel_rfl) ?_
      simp only [List.take_succ_cons, List.take_zero, List.drop_succ_cons, List.drop_zero]
      generalize World.drew wr = wd at *
      with_reducible refine wpStill_step (fun K hK => ?_); go_simp; refine hK _ ?_; clear hK K
      refine still_load_any (by rfl) 47 (.tmp 20) rfl ⟨gd, 0, none⟩ rfl X0 _ HC0.out Try.underlying47 rfl HL0.out ?_; go_simp
      refine still_build_as (by rfl) 50 _ rfl [(0, .agg X0.toArray)] rfl N0 HB0.out ?_; go_simp
      with_reducible refine wpStill_step (fun K hK => ?_); go_simp; refine hK _ ?_; clear hK K
      refine still_load_any (by rfl) 47 (.tmp 23) rfl ⟨gd, 32, none⟩ rfl X1 _ HC1.out Try.underlying47 rfl HL1.out ?_; go_simp
      with_reducible refine wpStill_step (fun K hK => ?_); go_simp; refine hK _ ?_; clear hK K
      refine still_build_as (by rfl) 50 _ rfl [(0, .agg X1.toArray), (1, .slice (some ⟨gd, 0, none⟩) 1 4)] rfl N1 HB1.out ?_; go_simp
      with_reducible refine wpStill_step (fun K hK => ?_); go_simp; refine hK _ ?_; clear hK K
      refine still_load_any (by rfl) 47 (.tmp 27) rfl ⟨gd, 64, none⟩ rfl X2 _ HC2.out Try.underlying47 rfl HL2.out ?_; go_simp
      with_reducible refine wpStill_step (fun K hK => ?_); go_simp; refine hK _ ?_; clear hK K
      refine still_build_as (by rfl) 50 _ rfl [(0, .agg X2.toArray), (1, .slice (some ⟨gd, 0, none⟩) 1 4)] rfl N2 HB2.out ?_; go_simp
      with_reducible refine wpStill_step (fun K hK => ?_); go_simp; refine hK _ ?_; clear hK K
      refine still_load_any (by rfl) 47 (.tmp 31) rfl ⟨gd, 96, none⟩ rfl X3 _ HC3.out Try.underlying47 rfl HL3.out ?_; go_simp
      with_reducible refine wpStill_step (fun K hK => ?_); go_simp; refine hK _ ?_; clear hK K
      refine still_build_as (by rfl) 50 _ rfl [(0, .agg X3.toArray), (1, .slice (some ⟨gd, 32, none⟩) 2 3)] rfl N3 HB3.out ?_; go_simp
      refine wpStill_nil ?_
      obtain ⟨ie, hie, hzz, hss, -⟩ := info_parts infoNode3
      go_wp2_with (refine at_dst 35 rfl ?_; go_must (refine wpList_four_slice rfl 22 50 (.tmp 22) (.tmp 26) (.tmp 30) (.tmp 34) rfl ie _ N0 N1 N2 N3 33 rfl rfl rfl rfl HS0.out HS1.out HS2.out HS3.out (by decide) (by decide) Try.underlying22 hie hzz hss ?_))
      have hzd := HZ.out
      have hbd := HBW.out
      obtain ⟨w5, hw5⟩ : ∃ y, y = wd.alloc (.cells (N0.toList ++ (N1.toList ++ (N2.toList ++ N3.toList))).toArray 50) := ⟨_, rfl⟩
      rw [← hw5]
      have hb5 : Below wd.heap.size wd w5 := by rw [hw5]; exact below_alloc wd _
      have hR5 : Rd w5 w5.heap.size (some ⟨wd.heap.size, 0, none⟩) (4 * 33) (rows nC (l4 gd)) := by
        have hk5 : Blk w5 wd.heap.size 50 (N0.toList ++ (N1.toList ++ (N2.toList ++ N3.toList))).toArray := by rw [hw5]; exact Blk.new wd _ _
        have h := Rd.of_blk hk5
        have hx : N0.toList ++ (N1.toList ++ (N2.toList ++ N3.toList)) = rows nC (l4 gd) := by
          obtain ⟨e0, e1, e2, e3⟩ := HN.out
          rw [e0, e1, e2, e3]; rfl
        rw [hx] at h
        exact h
      have hz5 := hzd.later hb5
      have hN5 := l4_in hz5
      have HH := Lib.hid (api_heads (l4 gd) (some ⟨wd.heap.size, 0, none⟩) 4 w5.heap.size w5 hN5 hR5 (Nat.le_refl _) (Nat.le_of_ble_eq_true rfl) [dgk 4 1, dgk 4 2, dgk 4 3] (some ⟨gd, 0, none⟩) 4 (q4_in hz5 0 3 4 (by omega)))
      have HZ5 := Lib.hid hz5
      have HR5 := Lib.hid hR5
      have HB5 := Lib.hid (hbd.trans (hb5.mono hbd.size))
      rw [ns_l4, a4_heads, h4_heads] at HH
      clear hzd hbd hw5 hb5 hR5 hz5 hN5 HC0 HC1 HC2 HC3 HB0 HB1 HB2 HB3 HL0 HL1 HL2 HL3 HN HS0 HS1 HS2 HS3 hie hzz hss HZ HBW
      refine HH.out.mono ?_; rintro e w6 ⟨hb6, ⟨h, -⟩ | ⟨-, -, A6, c6, rfl, ho6⟩⟩
      · exact absurd rfl h
      have HO6 := Lib.hid (show Rd w6 w6.heap.size A6 (2 * 32) (rows bv [dgk 4 2, dgk 4 3]) from Rd.of_ownK ho6)
      have HZ6 := Lib.hid (HZ5.out.later hb6)
      have HR6 := Lib.hid (HR5.out.later hb6)
      have HB6 := Lib.hid (HB5.out.trans (hb6.mono HB5.out.size))
      clear hb6 ho6 HH HZ5 HR5 HB5
      go_wp2_with fail
      have HH := Lib.hid (api_common (l4 gd) (some ⟨wd.heap.size, 0, none⟩) 4 w6.drew.heap.size w6.drew (l4_in HZ6.out.drew) (show Rd w6.drew w6.heap.size _ _ _ from HR6.out.drew) (Nat.le_refl _) (Nat.le_of_ble_eq_true rfl) [dgk 4 2] (some ⟨gd, 32, none⟩) 3 [dgk 4 3] (some ⟨gd, 64, none⟩) 2 (q4_two HZ6.out.drew))
      rw [ns_l4, a4_common, h4_common] at HH
      refine wp_region_any (by kernel_rfl) ?_
      change wpAny _ _ _ _ _ _ _ (World.drew _)
      refine wpAny_of_held (S := (fun x : World => Below w6.heap.size w6 x)) _ _ _ _ ?_
      refine wpAnyH_take (i := 0) (v := ?_) rfl (by kernel_rfl) (by kernel_rfl) (by kernel_rfl) (fun _ _ _ h => h) (Or.inl ⟨by rfl, ?_⟩) ((Below.refl _ _).drew) ?_
      rotate_left
      · intro wq hS
        have hS' := hS
        try simp only [] at hS'
        go_simp; try with_reducible rfl
      change wpAnyH _ _ _ _ _ _ _ (Act.put _ _ _) _
      refine wpAnyH_take (i := 1) (v := ?_) rfl (by kernel_rfl) (by kernel_rfl) (by kernel_rfl) (fun _ _ _ h => h) (Or.inl ⟨by rfl, ?_⟩) ((Below.refl _ _).drew) ?_
      rotate_left
      · intro wq hS
        have hS' := hS
        try simp only [] at hS'
        go_simp; try with_reducible rfl
      change wpAnyH _ _ _ _ _ _ _ (Act.put _ _ _) _
      refine wpAnyH_take (i := 2) (v := ?_) rfl (by kernel_rfl) (by kernel_rfl) (by kernel_rfl) (fun _ _ _ h => h) (Or.inl ⟨by rfl, ?_⟩) ((Below.refl _ _).drew) ?_
      rotate_left
      · intro wq hS
        have hS' := hS
        try simp only [] at hS'
        go_simp; try with_reducible rfl
      change wpAnyH _ _ _ _ _ _ _ (Act.put _ _ _) _
      go_simp
      refine held_one (i := 3) (by kernel_rfl) rfl (fun K hK => ?_)
      go_simp
      refine HH.out.mono ?_; rintro e w7 ⟨hb7, ⟨h, -⟩ | ⟨-, -, A7, c7, rfl, ho7⟩⟩
      · exact absurd rfl h
      dsimp only
      have HO7 := Lib.hid (show Rd w7 w7.heap.size A7 (1 * 32) (rows bv [dgk 4 1]) from Rd.of_ownK ho7)
      have HG7 := Lib.hid (show Below w6.heap.size w6 w7 from (Below.refl _ _).drew.trans hb7)
      refine hK _ _ HG7.out ?_; clear hK K hb7 ho7
      go_simp
      refine wpAnyH_take (i := 4) (v := ?_) rfl (by kernel_rfl) (by kernel_rfl) (by kernel_rfl) (fun _ _ _ h => h) (Or.inl ⟨by rfl, ?_⟩) (HG7.out) ?_
      rotate_left
      · intro wq hS
        have hS' := hS
        try simp only [] at hS'
        go_simp; try with_reducible rfl
      change wpAnyH _ _ _ _ _ _ _ (Act.put _ _ _) _
      refine wpAnyH_take (i := 5) (v := ?_) rfl (by kernel_rfl) (by kernel_rfl) (by kernel_rfl) (fun _ _ _ h => h) (Or.inl ⟨by rfl, ?_⟩) (HG7.out) ?_
      rotate_left
      · intro wq hS
        have hS' := hS
        try simp only [] at hS'
        go_simp; try with_reducible rfl
      change wpAnyH _ _ _ _ _ _ _ (Act.put _ _ _) _
      refine wpAnyH_take (i := 6) (v := ?_) rfl (by kernel_rfl) (by kernel_rfl) (by kernel_rfl) (fun _ _ _ h => h) (Or.inl ⟨by rfl, ?_⟩) (HG7.out) ?_
      rotate_left
      · intro wq hS
        have hS' := hS
        try simp only [] at hS'
        go_simp; try with_reducible rfl
      change wpAnyH _ _ _ _ _ _ _ (Act.put _ _ _) _
      refine wpAnyH_take (i := 7) (v := ?_) rfl (by kernel_rfl) (by kernel_rfl) (by kernel_rfl) (fun _ _ _ h => h) (Or.inl ⟨by rfl, ?_⟩) (HG7.out) ?_
      rotate_left
      · intro wq hS
        have hS' := hS
        try simp only [] at hS'
        go_simp; try with_reducible rfl
      change wpAnyH _ _ _ _ _ _ _ (Act.put _ _ _) _
      refine wpAnyH_take (i := 8) (v := ?_) rfl (by kernel_rfl) (by kernel_rfl) (by kernel_rfl) (fun _ _ _ h => h) (Or.inl ⟨by rfl, ?_⟩) (HG7.out) ?_
      rotate_left
      · intro wq hS
        have hS' := hS
        try simp only [] at hS'
        go_simp; try with_reducible rfl
      change wpAnyH _ _ _ _ _ _ _ (Act.put _ _ _) _
      go_simp
      refine ⟨by kernel_rfl, ?_⟩
      have HO7' := Lib.hid (HO6.out.later HG7.out)
      have HZ7 := Lib.hid (HZ6.out.later HG7.out)
      have HR7 := Lib.hid (HR6.out.later HG7.out)
      have HB7 := Lib.hid (HB6.out.trans (HG7.out.mono HB6.out.size))
      clear HH HG7 HO6 HZ6 HR6 HB6
      go_wp2_with fail
      have HH := Lib.hid (api_lacks (l4 gd) (some ⟨wd.heap.size, 0, none⟩) 4 w7.drew.heap.size w7.drew (l4_in HZ7.out.drew) (show Rd w7.drew w7.heap.size _ _ _ from HR7.out.drew) (Nat.le_refl _) (Nat.le_of_ble_eq_true rfl) [dgk 4 4] (some ⟨gd, 96, none⟩) 1 [dgk 4 2] (some ⟨gd, 32, none⟩) 3 (q4_two' HZ7.out.drew))
      rw [ns_l4, a4_lacks, h4_lacks] at HH
      refine wp_region_any (by kernel_rfl) ?_
      change wpAny _ _ _ _ _ _ _ (World.drew _)
      refine wpAny_of_held (S := (fun x : World => Below w7.heap.size w7 x)) _ _ _ _ ?_
      refine wpAnyH_take (i := 0) (v := ?_) rfl (by kernel_rfl) (by kernel_rfl) (by kernel_rfl) (fun _ _ _ h => h) (Or.inl ⟨by rfl, ?_⟩) ((Below.refl _ _).drew) ?_
      rotate_left
      · intro wq hS
        have hS' := hS
        try simp only [] at hS'
        go_simp; try with_reducible rfl
      change wpAnyH _ _ _ _ _ _ _ (Act.put _ _ _) _
      refine wpAnyH_take (i := 1) (v := ?_) rfl (by kernel_rfl) (by kernel_rfl) (by kernel_rfl) (fun _ _ _ h => h) (Or.inl ⟨by rfl, ?_⟩) ((Below.refl _ _).drew) ?_
      rotate_left
      · intro wq hS
        have hS' := hS
        try simp only [] at hS'
        go_simp; try with_reducible rfl
      change wpAnyH _ _ _ _ _ _ _ (Act.put _ _ _) _
      refine wpAnyH_take (i := 2) (v := ?_) rfl (by kernel_rfl) (by kernel_rfl) (by kernel_rfl) (fun _ _ _ h => h) (Or.inl ⟨by rfl, ?_⟩) ((Below.refl _ _).drew) ?_
      rotate_left
      · intro wq hS
        have hS' := hS
        try simp only [] at hS'
        go_simp; try with_reducible rfl
      change wpAnyH _ _ _ _ _ _ _ (Act.put _ _ _) _
      go_simp
      refine held_one (i := 3) (by kernel_rfl) rfl (fun K hK => ?_)
      go_simp
      refine HH.out.mono ?_; rintro e w8 ⟨hb8, ⟨h, -⟩ | ⟨-, -, A8, c8, rfl, ho8⟩⟩
      · exact absurd rfl h
      dsimp only
      have HO8 := Lib.hid (show Rd w8 w8.heap.size A8 (2 * 32) (rows bv [dgk 4 3, dgk 4 4]) from Rd.of_ownK ho8)
      have HG8 := Lib.hid (show Below w7.heap.size w7 w8 from (Below.refl _ _).drew.trans hb8)
      refine hK _ _ HG8.out ?_; clear hK K hb8 ho8
      go_simp
      refine wpAnyH_take (i := 4) (v := ?_) rfl (by kernel_rfl) (by kernel_rfl) (by kernel_rfl) (fun _ _ _ h => h) (Or.inl ⟨by rfl, ?_⟩) (HG8.out) ?_
      rotate_left
      · intro wq hS
        have hS' := hS
        try simp only [] at hS'
        go_simp; try with_reducible rfl
      change wpAnyH _ _ _ _ _ _ _ (Act.put _ _ _) _
      refine wpAnyH_take (i := 5) (v := ?_) rfl (by kernel_rfl) (by kernel_rfl) (by kernel_rfl) (fun _ _ _ h => h) (Or.inl ⟨by rfl, ?_⟩) (HG8.out) ?_
      rotate_left
      · intro wq hS
        have hS' := hS
        try simp only [] at hS'
        go_simp; try with_reducible rfl
      change wpAnyH _ _ _ _ _ _ _ (Act.put _ _ _) _
      refine wpAnyH_take (i := 6) (v := ?_) rfl (by kernel_rfl) (by kernel_rfl) (by kernel_rfl) (fun _ _ _ h => h) (Or.inl ⟨by rfl, ?_⟩) (HG8.out) ?_
      rotate_left
      · intro wq hS
        have hS' := hS
        try simp only [] at hS'
        go_simp; try with_reducible rfl
      change wpAnyH _ _ _ _ _ _ _ (Act.put _ _ _) _
      refine wpAnyH_take (i := 7) (v := ?_) rfl (by kernel_rfl) (by kernel_rfl) (by kernel_rfl) (fun _ _ _ h => h) (Or.inl ⟨by rfl, ?_⟩) (HG8.out) ?_
      rotate_left
      · intro wq hS
        have hS' := hS
        try simp only [] at hS'
        go_simp; try with_reducible rfl
      change wpAnyH _ _ _ _ _ _ _ (Act.put _ _ _) _
      refine wpAnyH_take (i := 8) (v := ?_) rfl (by kernel_rfl) (by kernel_rfl) (by kernel_rfl) (fun _ _ _ h => h) (Or.inl ⟨by rfl, ?_⟩) (HG8.out) ?_
      rotate_left
      · intro wq hS
        have hS' := hS
        try simp only [] at hS'
        go_simp; try with_reducible rfl
      change wpAnyH _ _ _ _ _ _ _ (Act.put _ _ _) _
      go_simp
      refine ⟨by kernel_rfl, ?_⟩
      have H6 := HO7'.out.later HG8.out
      have H7 := HO7.out.later HG8.out
      have hz8 := HZ7.out.later HG8.out
      have HB8 := Lib.hid (HB7.out.trans (HG8.out.mono HB7.out.size))
      have d2 : ∀ s ∈ [dgk 4 2, dgk 4 3], s.length = 32 := by decide
      have d1 : ∀ s ∈ [dgk 4 1], s.length = 32 := by decide
      have d3 : ∀ s ∈ [dgk 4 3, dgk 4 4], s.length = 32 := by decide
      have H8 := HO8.out
      have S1 := Lib.hid (fun (u : World) (h : Below w8.heap.size w8 u) => rsame_digs A6 (some ⟨gd, 32, none⟩) c6 3 [dgk 4 2, dgk 4 3] [dgk 4 2, dgk 4 3] _ _ u (H6.later h) (Nat.le_refl _) (rd_dz (hz8.later h) 1 2 (by omega)) (Nat.le_refl _) (Nat.le_of_ble_eq_true rfl) d2 d2)
      have S2 := Lib.hid (fun (u : World) (h : Below w8.heap.size w8 u) => rsame_digs A7 (some ⟨gd, 0, none⟩) c7 4 [dgk 4 1] [dgk 4 1] _ _ u (H7.later h) (Nat.le_refl _) (rd_dz (hz8.later h) 0 1 (by omega)) (Nat.le_refl _) (Nat.le_of_ble_eq_true rfl) d1 d1)
      have S3 := Lib.hid (fun (u : World) (h : Below w8.heap.size w8 u) => rsame_digs A8 (some ⟨gd, 64, none⟩) c8 2 [dgk 4 3, dgk 4 4] [dgk 4 3, dgk 4 4] _ _ u (H8.later h) (Nat.le_refl _) (rd_dz (hz8.later h) 2 2 (by omega)) (Nat.le_refl _) (Nat.le_of_ble_eq_true rfl) d3 d3)
      rw [decide_eq_true rfl] at S1 S2 S3
      clear H8
      clear H6 H7 hz8 HO7' HO7 HO8 HZ7 HR7 HB7 HG8 HH d1 d2 d3
      go_wp2_with fail
      refine (S1.out _ (Below.refl _ _)).mono ?_; rintro e w9 ⟨rfl, hb9⟩
      go_wp2_with fail
      refine (S2.out _ hb9).mono ?_; rintro e wx ⟨rfl, hbx⟩
      have HGX := Lib.hid (hb9.trans (hbx.mono hb9.size))
      clear hb9 hbx
      go_wp2_with fail
      refine (S3.out _ HGX.out).mono ?_; rintro e wy ⟨rfl, hby⟩
      have HGY := Lib.hid (HGX.out.trans (hby.mono HGX.out.size))
      clear hby
      go_wp2_with fail
      go_ret
      exact ⟨rfl, HB8.out.trans (HGY.out.mono HB8.out.size)⟩
end Go.Proofs.Ytebfocfeehajjaa
