/- The contracts of the program's firstState, New, isMade, Len and Copy. · The contract of the program's Hash.Sum. · The cells of a hash, part by part; a row stored into the midst of a block that is known whole. · The contract of the program's Hash.Write. · The contract of the program's Sum. -/
import Derived.Test.YtjgegggcbjecbaaDoorDigA
import Derived.Deep.WholeRow
import Derived.Deep.DeepCutAuto
import Derived.Laws.CopyOwn
import Derived.Test.YtjgegggcbjecbaaDoorBase
namespace Go.Proofs.YtjgegggcbjecbaaDoor
open Go Go.RowKit

theorem infoHash : (Tryd.prog.info? 98).map (·.size) = some 74 := by kernel_rfl

/-- The cells of a hash that has taken these bytes. -/
def HC (l : List UInt8) : List Value := Value.bool true :: (uv (Sh.stt l) ++ (bv (Sh.pad (Sh.rest l)) ++ [Value.int .i64 (l.length : Int)]))
def HashIs (w : World) (g : Nat) (l : List UInt8) : Prop := Blk w g 98 (HC l).toArray

/-- A hash that nobody made. -/
def HN : Array Value := (Value.bool false :: (uv (List.replicate 8 0) ++ (bv (List.replicate 64 0) ++ [Value.int .i64 0]))).toArray
theorem HN_size : HN.size = 74 := by decide +kernel
theorem HN_made : HN[0]? = some (.bool false) := rfl
theorem zeroHash (w : World) : (zeroValue 98).run Tryd.prog w = .ok (.agg HN) w := (zero_of_info (n := 74) (by kernel_rfl)).1 w

set_option maxRecDepth 100000 in
set_option maxHeartbeats 4000000 in
theorem first_any (w : World) :
    Calls Tryd.prog 56 #[] w fun e w' => e = .returned (.agg (uv Sh.H).toArray) ∧ Below w.heap.size w w' := by
  go_enter Tryd.func56, Tryd.ntmps56
  go_wp2_with (refine at_sto 93 (.tmp 0) (.tmp 1) rfl ?_; go_must (refine wpList_store_row rfl 93 (.tmp 0) (.tmp 1) rfl _ (uv Sh.H).toArray rfl rfl _ _ (Blk.new w _ _) infoS8 rfl (uv_all _) ?_))
  exact bodyPost_ret (v := .agg (uv Sh.H).toArray) (results_cell_row rfl _ _ w.heap.size _ _ _ _ rfl ((Blk.new w _ _).row _) Tryd.underlying93 rfl infoS8) rfl ⟨rfl, below_setRow ((Below.refl _ _).alloc (Nat.le_refl _) _) (Nat.le_refl _) _⟩

set_option maxRecDepth 100000 in
set_option maxHeartbeats 4000000 in
theorem new_any (w : World) :
    Calls Tryd.prog 34 #[] w fun e w' => ∃ g, e = .returned (.pointer (some ⟨g, 0, none⟩)) ∧ w.heap.size ≤ g ∧ HashIs w' g [] ∧ Below w.heap.size w w' := by
  have F := Lib.hid (first_any w)
  go_enter Tryd.func34, Tryd.ntmps34
  go_wp2_with fail
  refine F.out.mono ?_; rintro e w1 ⟨rfl, hb1⟩
  go_wp2_with (refine at_dst 2 rfl ?_; go_must (refine dz_wpList_build_as rfl 98 _ rfl [(0, .bool true), (1, .agg (uv Sh.H).toArray)] rfl (HC []).toArray (by kernel_rfl) ?_))
  go_ret
  exact ⟨w1.heap.size, rfl, hb1.size, Blk.new w1 _ _, hb1.alloc hb1.size _⟩

theorem HC_size (l : List UInt8) : (HC l).toArray.size = 74 := by
  have h1 := uv_length (Sh.stt l)
  rw [Sh.stt_length] at h1
  have h2 := bv_length (Sh.pad (Sh.rest l))
  rw [Sh.pad_length (by rw [Sh.rest_length]; omega)] at h2
  rw [List.size_toArray]; unfold HC
  simp only [List.length_cons, List.length_append, List.length_nil, h1, h2]
theorem HC_made (l : List UInt8) : (HC l).toArray[0]? = some (.bool true) := rfl
theorem HC_last (l : List UInt8) : (HC l).toArray[73]? = some (.int .i64 (l.length : Int)) := by
  have h1 := uv_length (Sh.stt l)
  rw [Sh.stt_length] at h1
  have h2 := bv_length (Sh.pad (Sh.rest l))
  rw [Sh.pad_length (by rw [Sh.rest_length]; omega)] at h2
  rw [List.getElem?_toArray]; unfold HC
  rw [List.getElem?_cons_succ, List.getElem?_append_right (by omega), List.getElem?_append_right (by omega), h1, h2]
  rfl
theorem HC_all (l : List UInt8) : (HC l).toArray.all (·.oneCell') = true := Array.all_eq_true_iff_forall_mem.2 (fun v hv => by
  have hv' : v ∈ HC l := by simpa using hv
  unfold HC at hv'
  rcases List.mem_cons.1 hv' with rfl | hv'
  · rfl
  rcases List.mem_append.1 hv' with hv' | hv'
  · exact uv_one _ v hv'
  rcases List.mem_append.1 hv' with hv' | hv'
  · exact bv_one _ v hv'
  · rw [List.mem_singleton.1 hv']; rfl)

set_option maxRecDepth 100000 in
set_option maxHeartbeats 1000000 in
theorem made_nil (w : World) : Calls Tryd.prog 57 #[.pointer none] w fun e w' => e = .returned (.bool false) ∧ w = w' := by
  go_enter Tryd.func57, Tryd.ntmps57
  go_wp2
  go_ret
  exact ⟨rfl, rfl⟩
set_option maxRecDepth 100000 in
set_option maxHeartbeats 1000000 in
theorem made_any (w : World) (g : Nat) (b : Bool) (cs : Array Value) (h : Blk w g 98 cs) (hc : cs[0]? = some (.bool b)) : Calls Tryd.prog 57 #[.pointer (some ⟨g, 0, none⟩)] w fun e w' => e = .returned (.bool b) ∧ w = w' := by
  have h0 := (h.cell 0).trans hc
  clear hc h
  go_enter Tryd.func57, Tryd.ntmps57
  go_wp2
  go_ret
  exact ⟨rfl, rfl⟩

end Go.Proofs.YtjgegggcbjecbaaDoor

namespace Go.Proofs.YtjgegggcbjecbaaDoor
open Go Go.RowKit

/-- A row out of the midst of a block, in a still region. -/
theorem still_load_mid {P : Program} {ops : Array Oper} {w : World} {Q : Act → Prop} {rest : List Oper} {op : Oper} {a : Act} (hgd : op.guard = none) (ty : TypeId) (x : Operand) (ho : op.op = .load ty x)
    (b o : Nat) (hx : a.eval x = .pointer (some ⟨b, o, none⟩)) (cs : List Value) (d : TypeDesc) (hc : w.rangeAt b o cs)
    (hu : P.underlying ty = some d) (hd : d.isRow = true) (hi : (P.info? ty).map (·.size) = some cs.length)
    (h : wpStill P ops w Q rest (a.put op.dst (.agg cs.toArray))) : wpStill P ops w Q (op :: rest) a := by
  have hw : Region.wanted op (yielded ops a.tmps) = true := by simp [Region.wanted, hgd]
  rw [wpStill, if_pos hw]
  unfold Oper.still execOp
  simp only [ho, hx, Instr.loadAt, Instr.sureAddr, Sem.run_bind, Sem.run_pure, Result.andThen_ok, run_loadVar_mid w b o ty cs d hc hu hd hi]
  exact ⟨rfl, h⟩

theorem HC_state (l : List UInt8) {j : Nat} (h : j < 8) : (HC l).toArray[1 + j]? = (uv (Sh.stt l))[j]? := by
  have h1 := uv_length (Sh.stt l)
  rw [Sh.stt_length] at h1
  rw [List.getElem?_toArray]; unfold HC
  rw [Nat.add_comm, List.getElem?_cons_succ, List.getElem?_append_left (by omega)]
theorem HC_block (l : List UInt8) {j : Nat} (h : j < 64) : (HC l).toArray[9 + j]? = (bv (Sh.pad (Sh.rest l)))[j]? := by
  have h1 := uv_length (Sh.stt l)
  rw [Sh.stt_length] at h1
  have h2 := bv_length (Sh.pad (Sh.rest l))
  rw [Sh.pad_length (by rw [Sh.rest_length]; omega)] at h2
  rw [List.getElem?_toArray]; unfold HC
  rw [show 9 + j = (8 + j) + 1 by omega, List.getElem?_cons_succ, List.getElem?_append_right (by omega), List.getElem?_append_left (by omega)]
  congr 1; omega
theorem HashIs.state {w : World} {g : Nat} {l : List UInt8} (h : HashIs w g l) : w.rangeAt g 1 (uv (Sh.stt l)) := fun j v hv => by
  have hj := (List.getElem?_eq_some_iff.1 hv).1
  rw [uv_length, Sh.stt_length] at hj
  rw [Blk.cell h, HC_state l hj, hv]
theorem HashIs.block {w : World} {g : Nat} {l : List UInt8} (h : HashIs w g l) : w.rangeAt g 9 (bv (Sh.pad (Sh.rest l))) := fun j v hv => by
  have hj := (List.getElem?_eq_some_iff.1 hv).1
  rw [bv_length, Sh.pad_length (by rw [Sh.rest_length]; omega)] at hj
  rw [Blk.cell h, HC_block l hj, hv]
theorem HashIs.size {w : World} {g : Nat} {l : List UInt8} (h : HashIs w g l) : w.cell? ⟨g, 73, none⟩ = some (.int .i64 (l.length : Int)) := (Blk.cell h 73).trans (HC_last l)

/-- One operation alone may come up, or two: behind it what is held is shown anew. -/
theorem held_op {P : Program} {md : Region.Mode} {ops : Array Oper} {S : World → Prop} {Q : Exit → Act → World → Prop} {fuel : Nat} {listed : Array Bool} {a : Act} {w : World} (i : Nat) {o : Oper} (hr : Region.ready md ops listed = [i]) (ho : ops[i]? = some o) (hgd : o.guard = none)
    (h : ∀ K' : Act → World → Prop, (∀ a w, S w → wpAnyH P md ops Q S fuel (listed.setIfInBounds i true) a w → K' a w) → Oper.wp P o a w K' Q) : wpAnyH P md ops Q S (fuel + 1) listed a w :=
  held_one hr ho fun K' hK' => by
    have hw : Region.wanted o (yielded ops a.tmps) = true := by simp [Region.wanted, hgd]
    rw [if_pos hw]
    exact h K' hK'
theorem held_two {P : Program} {md : Region.Mode} {ops : Array Oper} {S : World → Prop} {Q : Exit → Act → World → Prop} {fuel : Nat} {listed : Array Bool} {a : Act} {w : World} (i j : Nat) {o o' : Oper} (hr : Region.ready md ops listed = [i, j]) (ho : ops[i]? = some o) (ho' : ops[j]? = some o') (hgd : o.guard = none) (hgd' : o'.guard = none)
    (h : ∀ K' : Act → World → Prop, (∀ a w, S w → wpAnyH P md ops Q S fuel (listed.setIfInBounds i true) a w → K' a w) → Oper.wp P o a w K' Q)
    (h' : ∀ K' : Act → World → Prop, (∀ a w, S w → wpAnyH P md ops Q S fuel (listed.setIfInBounds j true) a w → K' a w) → Oper.wp P o' a w K' Q) : wpAnyH P md ops Q S (fuel + 1) listed a w :=
  wpAnyH_all hr (by simp) fun k hk => by
    have hw : Region.wanted o (yielded ops a.tmps) = true := by simp [Region.wanted, hgd]
    have hw' : Region.wanted o' (yielded ops a.tmps) = true := by simp [Region.wanted, hgd']
    rcases List.mem_cons.1 hk with rfl | hk
    · exact wpOp_step ho fun K' hK' => by rw [if_pos hw]; exact h K' fun a w hS hw => hK' a w ⟨hS, hw⟩
    · obtain rfl : k = j := by simpa using hk
      exact wpOp_step ho' fun K' hK' => by rw [if_pos hw']; exact h' K' fun a w hS hw => hK' a w ⟨hS, hw⟩

/-- A new variable, its zero value told. -/
theorem wp_alloc_as {P : Program} {o : Oper} {a : Act} {w : World} {K : Act → World → Prop} {Q : Exit → Act → World → Prop} (t : TypeId) (ho : o.op = .alloc t) (cs : Array Value) (hz : (P.info? t).map (·.zero) = some (some (.agg cs)))
    (h : K (a.put o.dst (.pointer (some ⟨w.heap.size, 0, none⟩))) (w.alloc (.cells cs t))) : o.wp P a w K Q := by
  cases hq : P.info? t with
  | none => simp [hq] at hz
  | some i =>
    have hzz : i.zero = some (.agg cs) := by simpa [hq] using hz
    unfold Oper.wp execOp
    simp [ho, Instr.alloc, zeroValue, typeInfo, hq, hzz]
    exact h

theorem bv_set_mid (A B : List UInt8) (c : UInt8) {x : Nat} (hx : x < 256) : (bv (A ++ ([c] ++ B))).toArray.setIfInBounds A.length (.int .u8 (x : Int)) = (bv (A ++ ([UInt8.ofNat x] ++ B))).toArray := by
  rw [bv_append, bv_append, bv_append, bv_append, dz_byte_cell hx, List.setIfInBounds_toArray, ← bv_length A, List.set_append_right _ _ (Nat.le_refl _), Nat.sub_self]
  rfl
theorem be8_set (pre : List UInt8) (N k : Nat) (hp : pre.length = 56) (hk : k < 8) :
    (bv (pre ++ List.replicate (8 - k) 0 ++ Sh.be8 N k)).toArray.setIfInBounds (63 - k) (.int .u8 ((N / 2 ^ (8 * k) % 256 : Nat) : Int)) = (bv (pre ++ List.replicate (8 - (k + 1)) 0 ++ Sh.be8 N (k + 1))).toArray := by
  have h1 : List.replicate (8 - k) (0 : UInt8) = List.replicate (8 - (k + 1)) 0 ++ [0] := by rw [← List.replicate_succ', show 8 - (k + 1) + 1 = 8 - k by omega]
  have h2 : (pre ++ List.replicate (8 - (k + 1)) (0 : UInt8)).length = 63 - k := by rw [List.length_append, List.length_replicate, hp]; omega
  have h3 := bv_set_mid (pre ++ List.replicate (8 - (k + 1)) 0) (Sh.be8 N k) 0 (x := N / 2 ^ (8 * k) % 256) (Nat.mod_lt _ (by decide))
  rw [h2] at h3
  rw [h1, ← List.append_assoc, List.append_assoc _ [0], h3, Sh.be8]
  rfl
theorem zeroS : (Tryd.prog.info? 93).map (·.zero) = some (some (.agg (uv (List.replicate 8 0)).toArray)) := by kernel_rfl
theorem zeroB : (Tryd.prog.info? 96).map (·.zero) = some (some (.agg (bv (List.replicate 64 0)).toArray)) := by kernel_rfl
set_option maxRecDepth 100000 in
set_option maxHeartbeats 8000000 in
theorem hsum_any (l : List UInt8) (g : Nat) (w : World) (hh : HashIs w g l) (hk : KT w) (hl : l.length ≤ 1152921504606846975) :
    Calls Tryd.prog 36 #[.pointer (some ⟨g, 0, none⟩)] w fun e w' => e = .returned (.agg (bv (Sh.sum l)).toArray) ∧ Below w.heap.size w w' := by
  have M := Lib.hid (fun W h => made_any W g true _ h (HC_made l))
  have hglt := Blk.lt hh
  have HH := Lib.hid hh
  have HS := Lib.hid (fun (W : World) (h : HashIs W g l) => And.intro h.state h.block)
  have HSL := Lib.hid ((uv_length (Sh.stt l)).trans (Sh.stt_length l))
  have HBL := Lib.hid ((bv_length (Sh.pad (Sh.rest l))).trans (Sh.pad_length (r := Sh.rest l) (by rw [Sh.rest_length]; omega)))
  clear hh
  go_enter Tryd.func36, Tryd.ntmps36
  go_wp2_with fail
  refine (M.out _ (HH.out.alloc _)).mono ?_; rintro e w' ⟨rfl, rfl⟩
  go_upto_region 3 with (fail)
  have hZ0 : Blk (w.alloc (.cells (bz [] 32) 34)) w.heap.size 34 (bz [] 32) := Blk.new w _ _
  have hB0 : Below w.heap.size w (w.alloc (.cells (bz [] 32) 34)) := (Below.refl _ _).alloc (Nat.le_refl _) _
  have hH0 := Blk.alloc HH.out (.cells (bz [] 32) 34)
  have hN0 : w.heap.size < (w.alloc (.cells (bz [] 32) 34)).heap.size := by simp
  change Code.wp _ _ _ _ (w.alloc (.cells (bz [] 32) 34))
  generalize w.alloc (.cells (bz [] 32) 34) = wa at *
  go_cut [3, 4] (fun s3 s4 wx => ∃ g3 g4 : Nat, s3 = .pointer (some ⟨g3, 0, none⟩) ∧ s4 = .pointer (some ⟨g4, 0, none⟩) ∧ Blk wx g3 93 (uv (Sh.stt l)).toArray ∧ Blk wx g4 96 (bz (Sh.rest l) 64) ∧ Blk wx w.heap.size 34 (bz [] 32) ∧ w.heap.size < g3 ∧ w.heap.size < g4 ∧ Below w.heap.size w wx)
  case first =>
    have hHd : HashIs wa.drew g l := hH0
    have hZ1 := hZ0.drew
    have hB1 := hB0.drew
    have hNd : w.heap.size < (World.drew wa).heap.size := hN0
    clear hZ0 hB0 hH0 hN0
    refine wp_region_any (by kernel_rfl) ?_
    change wpAny _ _ _ _ _ _ _ (World.drew _)
    refine wpAny_of_held (S := fun w' => HashIs w' g l) _ _ _ _ ?_
    refine wpAnyH_take (i := 0) (v := ?_) rfl (by kernel_rfl) (by kernel_rfl) (by kernel_rfl) (fun _ _ _ h => h) (Or.inl ⟨by rfl, ?_⟩) (hHd) ?_
    rotate_left
    · intro wq hS
      have hS' := hS
      try simp only [] at hS'
      go_simp; try with_reducible rfl
    change wpAnyH _ _ _ _ _ _ _ (Act.put _ _ _) _
    refine wpAnyH_take (i := 1) (v := ?_) rfl (by kernel_rfl) (by kernel_rfl) (by kernel_rfl) (fun _ _ _ h => h) (Or.inl ⟨by rfl, ?_⟩) (hHd) ?_
    rotate_left
    · intro wq hS
      have hS' := hS
      try simp only [] at hS'
      go_simp; try with_reducible rfl
    change wpAnyH _ _ _ _ _ _ _ (Act.put _ _ _) _
    refine wpAnyH_take (i := 2) (v := ?_) rfl (by kernel_rfl) (by kernel_rfl) (by kernel_rfl) (fun _ _ _ h => h) (Or.inl ⟨by rfl, ?_⟩) (hHd) ?_
    rotate_left
    · intro wq hS
      have hS' := hS
      try simp only [] at hS'
      go_simp; try with_reducible rfl
    change wpAnyH _ _ _ _ _ _ _ (Act.put _ _ _) _
    refine wpAnyH_take (i := 3) (v := .agg (uv (Sh.stt l)).toArray) rfl (by kernel_rfl) (by kernel_rfl) (by kernel_rfl) (fun _ _ _ h => h) ?_ hHd ?_
    · exact yieldsIf_load_mid (by rfl) 93 (.tmp 14) rfl g 1 rfl (uv (Sh.stt l)) _ (fun W h => (HS.out W h).1) Tryd.underlying93 rfl (by rw [HSL.out]; exact infoS8)
    change wpAnyH _ _ _ _ _ _ _ (Act.put _ _ _) _
    refine wpAnyH_take (i := 4) (v := ?_) rfl (by kernel_rfl) (by kernel_rfl) (by kernel_rfl) (fun _ _ _ h => h) (Or.inl ⟨by rfl, ?_⟩) (hHd) ?_
    rotate_left
    · intro wq hS
      have hS' := hS
      try simp only [] at hS'
      go_simp; try with_reducible rfl
    change wpAnyH _ _ _ _ _ _ _ (Act.put _ _ _) _
    refine wpAnyH_take (i := 5) (v := ?_) rfl (by kernel_rfl) (by kernel_rfl) (by kernel_rfl) (fun _ _ _ h => h) (Or.inl ⟨by rfl, ?_⟩) (hHd) ?_
    rotate_left
    · intro wq hS
      have hS' := hS
      try simp only [] at hS'
      go_simp; try with_reducible rfl
    change wpAnyH _ _ _ _ _ _ _ (Act.put _ _ _) _
    refine wpAnyH_take (i := 6) (v := ?_) rfl (by kernel_rfl) (by kernel_rfl) (by kernel_rfl) (fun _ _ _ h => h) (Or.inl ⟨by rfl, ?_⟩) (hHd) ?_
    rotate_left
    · intro wq hS
      have hS' := hS
      try simp only [] at hS'
      go_simp; try with_reducible rfl
    change wpAnyH _ _ _ _ _ _ _ (Act.put _ _ _) _
    refine wpAnyH_take (i := 7) (v := .agg (bv (Sh.pad (Sh.rest l))).toArray) rfl (by kernel_rfl) (by kernel_rfl) (by kernel_rfl) (fun _ _ _ h => h) ?_ hHd ?_
    · exact yieldsIf_load_mid (by rfl) 96 (.tmp 18) rfl g 9 rfl (bv (Sh.pad (Sh.rest l))) _ (fun W h => (HS.out W h).2) Tryd.underlying96 rfl (by rw [HBL.out]; exact infoB64)
    change wpAnyH _ _ _ _ _ _ _ (Act.put _ _ _) _
    generalize World.drew wa = wd at *
    go_simp
    refine held_two 8 9 (by kernel_rfl) rfl rfl rfl rfl (fun K hK => wp_alloc_as 93 rfl _ zeroS (hK _ _ (Blk.alloc hHd _) ?_)) (fun K hK => wp_alloc_as 96 rfl _ zeroB (hK _ _ (Blk.alloc hHd _) ?_))
    all_goals clear hK K
    · have hX := Blk.new wd 93 (uv (List.replicate 8 0)).toArray
      have hH1 := Blk.alloc hHd (.cells (uv (List.replicate 8 0)).toArray 93)
      have hZ2 := hZ1.alloc (.cells (uv (List.replicate 8 0)).toArray 93)
      have hB2 := hB1.alloc hB1.size (.cells (uv (List.replicate 8 0)).toArray 93)
      have hs2 : wd.heap.size < (wd.alloc (.cells (uv (List.replicate 8 0)).toArray 93)).heap.size := by simp
      generalize wd.alloc (.cells (uv (List.replicate 8 0)).toArray 93) = w1 at *
      refine held_op 9 (by kernel_rfl) rfl rfl (fun K hK => wp_alloc_as 96 rfl _ zeroB (hK _ _ (Blk.alloc hH1 _) ?_))
      clear hK K
      have hY := Blk.new w1 96 (bv (List.replicate 64 0)).toArray
      have hX := hX.alloc (.cells (bv (List.replicate 64 0)).toArray 96)
      have hH1 := Blk.alloc hH1 (.cells (bv (List.replicate 64 0)).toArray 96)
      have hZ2 := hZ2.alloc (.cells (bv (List.replicate 64 0)).toArray 96)
      have hB2 := hB2.alloc hB2.size (.cells (bv (List.replicate 64 0)).toArray 96)
      generalize w1.alloc (.cells (bv (List.replicate 64 0)).toArray 96) = w2 at *
      go_simp
      refine held_op 10 (by kernel_rfl) rfl rfl (fun K hK => wp_store_row 93 (.tmp 3) (.tmp 15) rfl _ (uv (Sh.stt l)).toArray rfl rfl _ _ hX (by rw [uv_size, Sh.stt_length]; exact infoS8) (by rw [uv_size, uv_size, Sh.stt_length]; rfl) (uv_all _) (hK _ _ (Blk.farRow hH1 (by omega) _) ?_))
      clear hK K
      have hS3 := hX.row (uv (Sh.stt l)).toArray
      have hB3 := hY.farRow (g' := wd.heap.size) (by omega) (uv (Sh.stt l)).toArray
      have hH1 := Blk.farRow hH1 (g' := wd.heap.size) (by omega) (uv (Sh.stt l)).toArray
      have hZ2 := hZ2.farRow (g' := wd.heap.size) (by omega) (uv (Sh.stt l)).toArray
      have hB2 := below_setRow hB2 (g := wd.heap.size) (by omega) (uv (Sh.stt l)).toArray
      clear hX hY
      generalize w2.setRow wd.heap.size (uv (Sh.stt l)).toArray = w3 at *
      go_simp
      refine held_op 11 (by kernel_rfl) rfl rfl (fun K hK => wp_store_row 96 (.tmp 4) (.tmp 19) rfl _ (bv (Sh.pad (Sh.rest l))).toArray rfl rfl _ _ hB3 (by rw [List.size_toArray, HBL.out]; exact infoB64) (by rw [List.size_toArray, List.size_toArray, HBL.out]; rfl) (dz_bv_all _) (hK _ _ (Blk.farRow hH1 (by omega) _) ?_))
      clear hK K
      refine ⟨by kernel_rfl, ?_⟩
      go_wp2_with fail
      go_meet
      exact ⟨wd.heap.size, w1.heap.size, rfl, rfl, hS3.farRow (by omega) _, hB3.row _, hZ2.farRow (by omega) _, by omega, by omega, below_setRow hB2 (by omega) _⟩
    · have hX := Blk.new wd 96 (bv (List.replicate 64 0)).toArray
      have hH1 := Blk.alloc hHd (.cells (bv (List.replicate 64 0)).toArray 96)
      have hZ2 := hZ1.alloc (.cells (bv (List.replicate 64 0)).toArray 96)
      have hB2 := hB1.alloc hB1.size (.cells (bv (List.replicate 64 0)).toArray 96)
      have hs2 : wd.heap.size < (wd.alloc (.cells (bv (List.replicate 64 0)).toArray 96)).heap.size := by simp
      generalize wd.alloc (.cells (bv (List.replicate 64 0)).toArray 96) = w1 at *
      refine held_op 8 (by kernel_rfl) rfl rfl (fun K hK => wp_alloc_as 93 rfl _ zeroS (hK _ _ (Blk.alloc hH1 _) ?_))
      clear hK K
      have hY := Blk.new w1 93 (uv (List.replicate 8 0)).toArray
      have hX := hX.alloc (.cells (uv (List.replicate 8 0)).toArray 93)
      have hH1 := Blk.alloc hH1 (.cells (uv (List.replicate 8 0)).toArray 93)
      have hZ2 := hZ2.alloc (.cells (uv (List.replicate 8 0)).toArray 93)
      have hB2 := hB2.alloc hB2.size (.cells (uv (List.replicate 8 0)).toArray 93)
      generalize w1.alloc (.cells (uv (List.replicate 8 0)).toArray 93) = w2 at *
      go_simp
      refine held_op 10 (by kernel_rfl) rfl rfl (fun K hK => wp_store_row 93 (.tmp 3) (.tmp 15) rfl _ (uv (Sh.stt l)).toArray rfl rfl _ _ hY (by rw [uv_size, Sh.stt_length]; exact infoS8) (by rw [uv_size, uv_size, Sh.stt_length]; rfl) (uv_all _) (hK _ _ (Blk.farRow hH1 (by omega) _) ?_))
      clear hK K
      have hS3 := hY.row (uv (Sh.stt l)).toArray
      have hB3 := hX.farRow (g' := w1.heap.size) (by omega) (uv (Sh.stt l)).toArray
      have hH1 := Blk.farRow hH1 (g' := w1.heap.size) (by omega) (uv (Sh.stt l)).toArray
      have hZ2 := hZ2.farRow (g' := w1.heap.size) (by omega) (uv (Sh.stt l)).toArray
      have hB2 := below_setRow hB2 (g := w1.heap.size) (by omega) (uv (Sh.stt l)).toArray
      clear hX hY
      generalize w2.setRow w1.heap.size (uv (Sh.stt l)).toArray = w3 at *
      go_simp
      refine held_op 11 (by kernel_rfl) rfl rfl (fun K hK => wp_store_row 96 (.tmp 4) (.tmp 19) rfl _ (bv (Sh.pad (Sh.rest l))).toArray rfl rfl _ _ hB3 (by rw [List.size_toArray, HBL.out]; exact infoB64) (by rw [List.size_toArray, List.size_toArray, HBL.out]; rfl) (dz_bv_all _) (hK _ _ (Blk.farRow hH1 (by omega) _) ?_))
      clear hK K
      refine ⟨by kernel_rfl, ?_⟩
      go_wp2_with fail
      go_meet
      exact ⟨w1.heap.size, wd.heap.size, rfl, rfl, hS3.farRow (by omega) _, hB3.row _, hZ2.farRow (by omega) _, by omega, by omega, below_setRow hB2 (by omega) _⟩
  case rest =>
    obtain ⟨g3, g4, rfl, rfl, hg3, hg4, hgr, hn3, hn4, hbw⟩ := hcut
    have hHc : HashIs wc g l := Blk.below HH.out hbw hglt
    have csz := hHc.size
    have hKc := Lib.hid (hk.below hbw (KT.lt hk))
    obtain ⟨r, hr⟩ : ∃ r, r = l.length % 64 := ⟨_, rfl⟩
    have hrl := Sh.rest_length l
    rw [← hr] at hrl
    have hr64 : (r : Int) < 64 := by omega
    have hmod : (l.length : Int) % 64 = (r : Int) := by omega
    have hb1 : (bz (Sh.rest l) 64).setIfInBounds (Sh.rest l).length (.int .u8 128) = bz (Sh.rest l ++ [128]) 64 := bz_set (l := Sh.rest l) (n := 64) (by omega) (x := 128) (by decide)
    rw [hrl] at hb1
    have HB1 := Lib.hid hb1
    have HRL := Lib.hid hrl
    have HR := Lib.hid hr
    have hbz := bz_size (l := Sh.rest l) (n := 64) (by omega)
    have HBZ := Lib.hid hbz
    clear hb1 hrl hr hbz hHc
    go_upto_if 28 with (refine at_sto 5 (.tmp 26) (.const (.int .u8 128)) rfl ?_; go_must (refine wpList_store_blk rfl 5 (.tmp 26) (.const (.int .u8 128)) rfl g4 r (.int .u8 128) rfl rfl _ _ hg4 (by rw [HBZ.out]; omega) rfl (by kernel_rfl) ?_; intro wq hq hkq hsq hbq))
    have hq := HB1.out ▸ hq
    have hg3q := hg3.other hkq (Blk.ne_ hg3 hg4 (by decide))
    have hgrq := hgr.other hkq (by omega)
    have hbwq := hbq _ _ (by omega) hbw
    have hKq := Lib.hid (hk.below hbwq (KT.lt hk))
    have hHq : HashIs wq g l := Blk.below HH.out hbwq hglt
    clear hg3 hg4 hgr hbw hkq hsq hbq hKc HB1 HBZ csz
    have HST := Lib.hid (Sh.stt_ws l)
    go_cut [] (fun wx => ∃ (st : List Nat) (pre : List UInt8), pre.length = 56 ∧ Sh.Ws st ∧ st.length = 8 ∧ Sh.sum l = Sh.out (Sh.mix st (pre ++ Sh.be8 (8 * l.length % 18446744073709551616) 8)) ∧ Blk wx g3 93 (uv st).toArray ∧ Blk wx g4 96 (bv (pre ++ List.replicate 8 0)).toArray ∧ Blk wx w.heap.size 34 (bz [] 32) ∧ Below w.heap.size w wx)
    case first =>
      by_cases h56 : r < 56
      · have hd : decide (56 ≤ (r : Int)) = false := by simp; omega
        go_wp2_with fail
        go_meet
        have e := Sh.sum_one (l := l) (by rw [← HR.out]; exact h56)
        rw [← HR.out] at e
        refine ⟨Sh.stt l, Sh.rest l ++ [128] ++ List.replicate (55 - r) 0, ?_, HST.out, Sh.stt_length l, e, hg3q, ?_, hgrq, hbwq⟩
        · simp only [List.length_append, List.length_cons, List.length_nil, List.length_replicate, HRL.out]; omega
        · have e2 : bz (Sh.rest l ++ [128]) 64 = (bv (Sh.rest l ++ [128] ++ List.replicate (55 - r) 0 ++ List.replicate 8 0)).toArray := by
            unfold bz
            rw [List.append_assoc _ (List.replicate (55 - r) 0), List.replicate_append_replicate, List.length_append, HRL.out, show 64 - (r + [(128 : UInt8)].length) = 55 - r + 8 by simp only [List.length_cons, List.length_nil]; omega]
          rw [← e2]; exact hq
      · have hd : decide (56 ≤ (r : Int)) = true := by simp; omega
        have e := Sh.sum_two (l := l) (by rw [← HR.out]; omega)
        rw [← HR.out] at e
        have e2 : bz (Sh.rest l ++ [128]) 64 = (bv (Sh.rest l ++ [128] ++ List.replicate (63 - r) 0)).toArray := by
          unfold bz
          rw [List.length_append, HRL.out, show 64 - (r + [(128 : UInt8)].length) = 63 - r by simp only [List.length_cons, List.length_nil]; omega]
        rw [e2] at hq
        have hlen : (Sh.rest l ++ [128] ++ List.replicate (63 - r) 0).length = 64 := by
          simp only [List.length_append, List.length_cons, List.length_nil, List.length_replicate, HRL.out]; omega
        obtain ⟨D, hD⟩ : ∃ D, D = Sh.rest l ++ [128] ++ List.replicate (63 - r) 0 := ⟨_, rfl⟩
        rw [← hD] at e hq hlen
        have NX := Lib.hid (next_any (Sh.stt l) D wq (Sh.stt_length l) HST.out hlen hKq.out)
        have HLD := Lib.hid ((dz_bv_size D).trans hlen)
        have HLS := Lib.hid ((uv_size (Sh.stt l)).trans (Sh.stt_length l))
        have E := Lib.hid e
        clear e e2 hlen hD
        go_wp2_with (first
          | (refine at_lod 93 (.tmp 3) rfl ?_; go_must (refine wpList_load_row rfl 93 (.tmp 3) rfl _ rfl _ _ _ _ hg3q Tryd.underlying93 rfl (by rw [HLS.out]; exact infoS8) ?_))
          | (refine at_lod 96 (.tmp 4) rfl ?_; go_must (refine wpList_load_row rfl 96 (.tmp 4) rfl _ rfl _ _ _ _ hq Tryd.underlying96 rfl (by rw [HLD.out]; exact infoB64) ?_))
          | (go_at_call 58; refine NX.out.mono ?_; rintro e' w5 ⟨rfl, hb5⟩)
          | (refine at_sto 93 (.tmp 3) (.tmp 31) rfl ?_; go_must (refine wpList_store_row rfl 93 (.tmp 3) (.tmp 31) rfl _ (uv (Sh.mix (Sh.stt l) D)).toArray rfl rfl _ _ (hg3q.later hb5) (by rw [uv_size]; exact infoS8) (by rw [HLS.out, uv_size]; rfl) (uv_all _) ?_))
          | (refine at_dst 32 rfl ?_; go_must (refine dz_wpList_build_as rfl 96 _ rfl [] rfl (bv (List.replicate 64 0)).toArray (by kernel_rfl) ?_))
          | (refine at_sto 96 (.tmp 4) (.tmp 32) rfl ?_; go_must (refine wpList_store_row rfl 96 (.tmp 4) (.tmp 32) rfl _ (bv (List.replicate 64 0)).toArray rfl rfl _ _ ((hq.later hb5).farRow (Blk.ne_ (hq.later hb5) (hg3q.later hb5) (by decide)) _) (by rw [dz_bv_size]; exact infoB64) (by rw [HLD.out, dz_bv_size]; rfl) (dz_bv_all _) ?_)))
        go_meet
        have n34 := Blk.ne_ (hq.later hb5) (hg3q.later hb5) (by decide)
        refine ⟨Sh.mix (Sh.stt l) D, List.replicate 56 0, rfl, Sh.mix_ws _ _, rfl, E.out, ((hg3q.later hb5).row _).farRow (fun h => n34 h.symm) _, (((hq.later hb5).farRow n34 _).row _), ((hgrq.later hb5).farRow (by omega) _).farRow (by omega) _, below_setRow (below_setRow (hbwq.trans (hb5.mono hbwq.size)) (by omega) _) (by omega) _⟩
    case rest =>
      obtain ⟨st, pre, hpl, hws, hsl, hsum, hS, hB, hZ, hbx⟩ := hcut
      have hHx : HashIs wc g l := Blk.below HH.out hbx hglt
      have csz := hHx.size
      have hNm : 8 * l.length % 18446744073709551616 = 8 * l.length := by omega
      rw [hNm] at hsum
      obtain ⟨N, hN⟩ : ∃ N, N = 8 * l.length := ⟨_, rfl⟩
      rw [← hN] at hsum
      have hNw : IntKind.u64.wrap ((l.length : Int) * 8) = (N : Int) := by rw [IntWalk.u64_in _ (by omega)]; omega
      have hlu : IntKind.u64.wrap (l.length : Int) = (l.length : Int) := IntWalk.u64_in _ (by omega)
      have hNb : N < 9223372036854775808 := by omega
      have HSUM := Lib.hid hsum
      have HPL := Lib.hid hpl
      have HSL' := Lib.hid hsl
      have HWS := Lib.hid hws
      clear hNm hN hsum hpl hsl hws hHx hg3q hgrq hbwq hKq hHq hq
      go_upto_region 10 with (fail)
      clear hNw hlu hmod hr64 csz
      go_wp2_with fail
      go_loopw [39] (fun iv wr => ∃ k : Nat, k ≤ 8 ∧ iv = .int .i64 (k : Int) ∧ Blk wr g3 93 (uv st).toArray ∧ Blk wr g4 96 (bv (pre ++ List.replicate (8 - k) 0 ++ Sh.be8 N k)).toArray ∧ Blk wr w.heap.size 34 (bz [] 32) ∧ Below w.heap.size w wr) (fun iv _ => 8 - (intOf iv).toNat)
      case atStart => exact ⟨0, Nat.zero_le _, rfl, hS, by rw [Sh.be8, List.append_nil]; exact hB, hZ, hbx⟩
      case round =>
        obtain ⟨k, hk8, rfl, hS, hB, hZ, hbx⟩ := hrel
        by_cases hlt : k < 8
        · have hx : N / 2 ^ (8 * k) % 256 < 256 := Nat.mod_lt _ (by decide)
          have hv : IntKind.u8.wrap ((N : Int) / 2 ^ (8 * k)) = ((N / 2 ^ (8 * k) % 256 : Nat) : Int) := by rw [IntKind.wrap_u8, Int.natCast_emod, Int.natCast_ediv, Int.natCast_pow]; rfl
          have hset := be8_set pre N k HPL.out hlt
          have HSET := Lib.hid hset
          have hsz : (bv (pre ++ List.replicate (8 - k) 0 ++ Sh.be8 N k)).toArray.size = 64 := by
            rw [dz_bv_size, List.length_append, List.length_append, List.length_replicate, Sh.be8_length, HPL.out]; omega
          have HSZ := Lib.hid hsz
          clear hset hsz
          generalize N / 2 ^ (8 * k) % 256 = x at *
          have hkb : (k : Int) ≤ 63 := by omega
          have hk9 : (63 : Int) - (k : Int) < 64 := by omega
          go_wp2_with (refine at_sto 5 (.tmp 49) (.tmp 48) rfl ?_; go_must (refine wpList_store_blk rfl 5 (.tmp 49) (.tmp 48) rfl g4 (63 - k) (.int .u8 (x : Int)) rfl rfl _ _ hB (by rw [HSZ.out]; omega) rfl (by kernel_rfl) ?_; intro wq hq hkq hsq hbq; rw [HSET.out] at hq))
          go_roundw
          case rel => exact ⟨k + 1, by omega, by go_num, hS.other hkq (Blk.ne_ hS hB (by decide)), hq, hZ.other hkq (by omega), hbq _ _ (by omega) hbx⟩
          case measure => simp [intOf]; omega
        · obtain rfl : k = 8 := by omega
          have hlen : (pre ++ Sh.be8 N 8).length = 64 := by rw [List.length_append, Sh.be8_length, HPL.out]
          rw [show 8 - 8 = 0 from rfl, List.replicate_zero, List.append_nil] at hB
          obtain ⟨D, hD⟩ : ∃ D, D = pre ++ Sh.be8 N 8 := ⟨_, rfl⟩
          have hsum := HSUM.out
          rw [← hD] at hB hlen hsum
          have NX := Lib.hid (next_any st D wr HSL'.out HWS.out hlen (hk.below hbx (KT.lt hk)))
          have DG := Lib.hid (fun W => digest_any (Sh.mix st D) W rfl (Sh.mix_ws _ _))
          have HLD := Lib.hid ((dz_bv_size D).trans hlen)
          have HLS := Lib.hid ((uv_size st).trans HSL'.out)
          have HF := Lib.hid hsum
          clear hD hlen hsum hlt hk8
          rw [show ((8 : Nat) : Int) = 8 from rfl]
          go_wp2_with (first
            | (refine at_lod 93 (.tmp 3) rfl ?_; go_must (refine wpList_load_row rfl 93 (.tmp 3) rfl _ rfl _ _ _ _ hS Tryd.underlying93 rfl (by rw [HLS.out]; exact infoS8) ?_))
            | (refine at_lod 96 (.tmp 4) rfl ?_; go_must (refine wpList_load_row rfl 96 (.tmp 4) rfl _ rfl _ _ _ _ hB Tryd.underlying96 rfl (by rw [HLD.out]; exact infoB64) ?_))
            | (go_at_call 58; refine NX.out.mono ?_; rintro e' w5 ⟨rfl, hb5⟩)
            | (go_at_call 59; refine (DG.out _).mono ?_; rintro e' w6 ⟨rfl, hb6⟩; have hZ6 := (hZ.later hb5).later hb6)
            | (refine at_sto 34 (.tmp 2) (.tmp 54) rfl ?_; go_must (refine wpList_store_row rfl 34 (.tmp 2) (.tmp 54) rfl _ (bv (Sh.out (Sh.mix st D))).toArray rfl rfl _ _ hZ6 (by rw [dz_bv_size]; exact dz_infoD32) (by rw [dz_bv_size]; rfl) (dz_bv_all _) ?_)))
          exact bodyPost_ret (v := .agg (bv (Sh.out (Sh.mix st D))).toArray) (results_cell_row rfl _ _ w.heap.size _ _ _ _ rfl (hZ6.row _) Tryd.underlying34 rfl (by rw [dz_bv_size]; exact dz_infoD32)) rfl ⟨by rw [HF.out], below_setRow (hbx.trans ((hb5.trans (hb6.mono hb5.size)).mono hbx.size)) (Nat.le_refl _) _⟩
end Go.Proofs.YtjgegggcbjecbaaDoor

namespace Go.Proofs.YtjgegggcbjecbaaDoor
open Go Go.RowKit

def HCx (st : List Nat) (blk : List UInt8) (sz : Int) : List Value := Value.bool true :: (uv st ++ (bv blk ++ [Value.int .i64 sz]))
theorem HC_eq (l : List UInt8) : HC l = HCx (Sh.stt l) (Sh.pad (Sh.rest l)) (l.length : Int) := rfl
section
variable {st : List Nat} {blk : List UInt8} {sz : Int}
theorem HCx_length (h8 : st.length = 8) (h64 : blk.length = 64) : (HCx st blk sz).length = 74 := by
  have h1 := uv_length st
  have h2 := bv_length blk
  unfold HCx; simp only [List.length_cons, List.length_append, List.length_nil, h1, h2, h8, h64]
theorem HCx_size (h8 : st.length = 8) (h64 : blk.length = 64) : (HCx st blk sz).toArray.size = 74 := by rw [List.size_toArray, HCx_length h8 h64]
theorem HCx_last (h8 : st.length = 8) (h64 : blk.length = 64) : (HCx st blk sz).toArray[73]? = some (.int .i64 sz) := by
  have h1 := uv_length st
  have h2 := bv_length blk
  rw [List.getElem?_toArray]; unfold HCx
  rw [List.getElem?_cons_succ, List.getElem?_append_right (by omega), List.getElem?_append_right (by omega), h1, h2, h8, h64]
  rfl
theorem HCx_setLast (h8 : st.length = 8) (h64 : blk.length = 64) (sz' : Int) : (HCx st blk sz).toArray.setIfInBounds 73 (.int .i64 sz') = (HCx st blk sz').toArray := by
  have h1 := uv_length st
  have h2 := bv_length blk
  rw [List.setIfInBounds_toArray]; unfold HCx
  congr 1
  rw [List.set_cons_succ, List.set_append_right _ _ (by omega), List.set_append_right _ _ (by omega), h1, h2, h8, h64]
  rfl
theorem HCx_state {w : World} {g : Nat} (h : Blk w g 98 (HCx st blk sz).toArray) : w.rangeAt g 1 (uv st) := fun j v hv => by
  have h1 := uv_length st
  have hj := (List.getElem?_eq_some_iff.1 hv).1
  rw [h.cell, List.getElem?_toArray]
  unfold HCx
  rw [Nat.add_comm, List.getElem?_cons_succ, List.getElem?_append_left hj]
  exact hv
theorem HCx_block (h8 : st.length = 8) (h64 : blk.length = 64) {w : World} {g : Nat} (h : Blk w g 98 (HCx st blk sz).toArray) : w.rangeAt g 9 (bv blk) := fun j v hv => by
  have h1 := uv_length st
  have h2 := bv_length blk
  have hj := (List.getElem?_eq_some_iff.1 hv).1
  rw [h.cell, List.getElem?_toArray]
  unfold HCx
  rw [show 9 + j = (8 + j) + 1 by omega, List.getElem?_cons_succ, List.getElem?_append_right (by omega), List.getElem?_append_left (by omega), ← hv]
  congr 1; omega

/-- What a row written from place o on leaves of these cells. -/
def dz_over (cur : Array Value) (o : Nat) (vs : List Value) : Array Value := (cur.toList.take o ++ (vs ++ cur.toList.drop (o + vs.length))).toArray
theorem over_state (h8 : st.length = 8) {st' : List Nat} (h8' : st'.length = 8) : dz_over (HCx st blk sz).toArray 1 (uv st') = (HCx st' blk sz).toArray := by
  have h1 := uv_length st
  have h2 := uv_length st'
  unfold dz_over HCx
  congr 1
  rw [h2, h8']
  simp only [List.take_succ_cons, List.take_zero, List.cons_append, List.nil_append]
  rw [show 1 + 8 = 8 + 1 by omega, List.drop_succ_cons, List.drop_append_of_le_length (by omega), List.drop_of_length_le (by omega), List.nil_append]
theorem over_block (h8 : st.length = 8) (h64 : blk.length = 64) (b : Nat) (c : List UInt8) (hb : b + c.length ≤ 64) :
    dz_over (HCx st blk sz).toArray (9 + b) (bv c) = (HCx st (blk.take b ++ (c ++ blk.drop (b + c.length))) sz).toArray := by
  have h1 := uv_length st
  have h2 := bv_length blk
  have h3 := bv_length c
  unfold dz_over HCx
  congr 1
  simp only []
  rw [h3, show 9 + b = (8 + b) + 1 by omega, List.take_succ_cons, List.take_append, List.take_of_length_le (by omega), show (8 + b) + 1 + c.length = (8 + (b + c.length)) + 1 by omega, List.drop_succ_cons, List.drop_append, List.drop_of_length_le (by omega), List.nil_append, h1, h8,
    show 8 + b - 8 = b by omega, show 8 + (b + c.length) - 8 = b + c.length by omega, List.take_append_of_le_length (by omega), List.drop_append_of_le_length (by omega)]
  rw [bv_append, bv_append, bv_take, bv_drop]
  simp only [List.cons_append, List.append_assoc]
end

section
variable {P : Program}
/-- 'x[b:]' of an array of one-cell elements, b not its end. -/
theorem run_sliceAt_from {t e : TypeId} {n : Nat} (ht : P.underlying t = some (.array n e)) (hs : (P.info? e).map (·.size) = some 1) (g o b : Nat) (hb : b < n) (W : World) :
    (Instr.sliceAt t (.pointer (some ⟨g, o, none⟩)) (some (.int .i64 (b : Int))) none none).run P W = .ok (.slice (some ⟨g, o + b, none⟩) (n - b) (n - b)) W := by
  have hal : P.arrayLen t = n := by unfold Program.arrayLen; rw [ht]
  have hel : P.elem t = e := by unfold Program.elem; rw [ht]
  cases hq : P.info? e with
  | none => simp [hq] at hs
  | some i =>
    have hi : i.size = 1 := by simpa [hq] using hs
    have hsz : (sizeOf e).run P W = .ok 1 W := by simp [sizeOf, typeInfo, hq, hi]
    rw [run_sliceAt_array_l W t ⟨g, o, none⟩ (by rw [hal, hel]; exact ht) .i64 (b : Int) (by omega) (by rw [hal]; omega), hel, hal, hsz]
    have hne : ¬ n = b := by omega
    simp only [Result.andThen_ok, slicedAt, Int.toNat_natCast, Nat.mul_one, if_neg hne, Addr.add_mid]
/-- Where 'x[n:]' begins; 'x[n:]' of a slice of one-cell elements. -/
def fromA (A : Option Addr) (cap n : Nat) : Option Addr := if cap = n then A else A.map (fun a => a.add n)
theorem run_slice_from {t e : TypeId} (ht : P.underlying t = some (.slice e)) (hs : (P.info? e).map (·.size) = some 1) (A : Option Addr) (len cap n : Nat) (hn : n ≤ len) (W : World) :
    (Instr.slice t (.slice A len cap) (some (.int .i64 (n : Int))) none none).run P W = .ok (.slice (fromA A cap n) (len - n) (cap - n)) W := by
  have hel : P.elem t = e := by unfold Program.elem; rw [ht]
  cases hq : P.info? e with
  | none => simp [hq] at hs
  | some i =>
    have hi : i.size = 1 := by simpa [hq] using hs
    have hsz : (sizeOf e).run P W = .ok 1 W := by simp [sizeOf, typeInfo, hq, hi]
    rw [run_slice_l W t A len cap (by rw [hel]; exact ht) .i64 (n : Int) (by omega) (by omega), hel, hsz]
    simp only [Result.andThen_ok, sliced, Int.toNat_natCast, Nat.mul_one]
    rfl
theorem dz_run_storeVar_over (ty : TypeId) (cells : Array Value) (hi : (P.info? ty).map (·.size) = some cells.size) (h1 : cells.all (·.oneCell') = true) (g o : Nat) (t : TypeId) (cur : Array Value) (w : World) (hg : Blk w g t cur) (hfit : o + cells.size ≤ cur.size) :
    (storeVar ty ⟨g, o, none⟩ (.agg cells)).run P w = .ok () (w.setRow g (dz_over cur o cells.toList)) := by
  have hst := run_storeCells_at P g o t cells.toList 0 cur w hg (by simpa using hfit) (fun v hv => (Array.all_eq_true_iff_forall_mem.1 h1) v (by simpa using hv))
  cases hq : P.info? ty with
  | none => simp [hq] at hi
  | some i =>
    have hs : cells.size = i.size := by simp [hq] at hi; omega
    simp only [Nat.add_zero, List.append_assoc] at hst
    simp [storeVar, sizeOf, typeInfo, hq, Value.cells, hs, hst, dz_over]
theorem dz_wp_store_over {o : Oper} {a : Act} {w : World} {K : Act → World → Prop} {Q : Exit → Act → World → Prop} (ty : TypeId) (x y : Operand) (ho : o.op = .store ty x y)
    (g off : Nat) (cells : Array Value) (hx : a.eval x = .pointer (some ⟨g, off, none⟩)) (hy : a.eval y = .agg cells) (t : TypeId) (cur : Array Value) (hg : Blk w g t cur) (hfit : off + cells.size ≤ cur.size)
    (hi : (P.info? ty).map (·.size) = some cells.size) (h1 : cells.all (·.oneCell') = true) (h : K (a.put o.dst undef) (w.setRow g (dz_over cur off cells.toList))) : o.wp P a w K Q := by
  unfold Oper.wp execOp
  simp only [ho, hx, hy, Instr.storeAt, Instr.sureAddr, Sem.run_bind, Sem.run_pure, Result.andThen_ok, dz_run_storeVar_over (P := P) ty cells hi h1 g off t cur w hg hfit]
  exact h
theorem dz_wpList_store_over {ops : Array Oper} {rest : List Oper} {o : Oper} {a : Act} {w : World} {Q : Exit → Act → World → Prop} (hgd : o.guard = none) (ty : TypeId) (x y : Operand) (ho : o.op = .store ty x y)
    (g off : Nat) (cells : Array Value) (hx : a.eval x = .pointer (some ⟨g, off, none⟩)) (hy : a.eval y = .agg cells) (t : TypeId) (cur : Array Value) (hg : Blk w g t cur) (hfit : off + cells.size ≤ cur.size)
    (hi : (P.info? ty).map (·.size) = some cells.size) (h1 : cells.all (·.oneCell') = true) (h : wpList P ops Q rest (a.put o.dst undef) (w.setRow g (dz_over cur off cells.toList))) : wpList P ops Q (o :: rest) a w :=
  wpList_plain hgd fun _ hK => dz_wp_store_over ty x y ho g off cells hx hy t cur hg hfit hi h1 (hK _ _ h)

/-- Only one block, and what is new, has turned. -/
theorem only_drew {a w : World} {row : Option Nat} (h : a.grownBy w row) : a.grownBy w.drew row := ⟨h.os, h.tape, h.output, h.size, h.block⟩
theorem only_row {a w : World} {g : Nat} (h : a.grownBy w (some g)) (cs : Array Value) : a.grownBy (w.setRow g cs) (some g) :=
  ⟨h.os, h.tape, h.output, by rw [size_setRow]; exact h.size, fun i hi hne => (setRow_other w g i cs (fun e => hne (by rw [e]))).trans (h.block i hi hne)⟩
theorem only_set {a w : World} {g : Nat} (h : a.grownBy w (some g)) (i : Nat) (v : Value) : a.grownBy (w.setCell ⟨g, i, none⟩ v) (some g) :=
  ⟨h.os, h.tape, h.output, by simpa [World.setCell] using h.size, fun k hk hne => (Below.heap_setCell w ⟨g, i, none⟩ v k (fun e => hne (congrArg some e))).trans (h.block k hk hne)⟩
theorem only_later {a w w' : World} {row : Option Nat} (h : a.grownBy w row) (hb : Below w.heap.size w w') : a.grownBy w' row :=
  ⟨hb.os.trans h.os, hb.tape.trans h.tape, hb.output.trans h.output, Nat.le_trans h.size hb.size, fun i hi hn => (hb.block i (Nat.lt_of_lt_of_le hi h.size)).trans (h.block i hi hn)⟩
theorem only_blk {a w : World} {g g' : Nat} {t : TypeId} {cs : Array Value} (hb : Blk a g' t cs) (h : a.grownBy w (some g)) (hne : g' ≠ g) : Blk w g' t cs := (h.block g' hb.lt (fun e => hne (Option.some.inj e))).trans hb
theorem KT.only {a w : World} {g : Nat} (hk : KT a) (h : a.grownBy w (some g)) (hne : 0 ≠ g) : KT w := fun i hi => by
  rw [← hk i hi]
  exact World.cell?_of_block (h.block _ hk.lt (fun e => hne (Option.some.inj e)))
end
end Go.Proofs.YtjgegggcbjecbaaDoor

namespace Go.Proofs.YtjgegggcbjecbaaDoor
open Go Go.RowKit

set_option maxRecDepth 100000 in
set_option maxHeartbeats 1000000 in
theorem write_nil (v : Value) (w : World) : Calls Tryd.prog 35 #[.pointer none, v] w fun e w' => e = .returned (.tuple #[]) ∧ w = w' := by
  have M := Lib.hid (made_nil w)
  go_enter Tryd.func35, Tryd.ntmps35
  go_wp2_with fail
  refine M.out.mono ?_; rintro e w' ⟨rfl, rfl⟩
  go_wp2_with fail
  refine bodyPost_ret (results_none rfl _ _ _) rfl ?_
  exact ⟨rfl, rfl⟩
set_option maxRecDepth 100000 in
set_option maxHeartbeats 1000000 in
theorem write_not (v : Value) (w : World) (g : Nat) (cs : Array Value) (h : Blk w g 98 cs) (hc : cs[0]? = some (.bool false)) : Calls Tryd.prog 35 #[.pointer (some ⟨g, 0, none⟩), v] w fun e w' => e = .returned (.tuple #[]) ∧ w = w' := by
  have M := Lib.hid (made_any w g false cs h hc)
  clear h hc
  go_enter Tryd.func35, Tryd.ntmps35
  go_wp2_with fail
  refine M.out.mono ?_; rintro e w' ⟨rfl, rfl⟩
  go_wp2_with fail
  refine bodyPost_ret (results_none rfl _ _ _) rfl ?_
  exact ⟨rfl, rfl⟩

theorem pad_over {x c : List UInt8} {b n : Nat} (hx : x.length = b) (hc : c.length = n) (h : b + n ≤ 64) : (Sh.pad x).take b ++ (c ++ (Sh.pad x).drop (b + n)) = Sh.pad (x ++ c) := by
  subst hx hc
  unfold Sh.pad
  rw [List.take_append_of_le_length (Nat.le_refl _), List.take_length, List.drop_append, List.drop_of_length_le (by omega), List.nil_append, List.drop_replicate, List.length_append, List.append_assoc]
  congr 3
  omega
theorem pad_self {x : List UInt8} (h : x.length = 64) : Sh.pad x = x := by unfold Sh.pad; rw [h, Nat.sub_self, List.replicate_zero, List.append_nil]
theorem dz_infoU81 : (Tryd.prog.info? 5).map (·.size) = some 1 := by kernel_rfl

theorem only_oth {a w w' : World} {g : Nat} (h : a.grownBy w (some g)) (hk : ∀ k, k ≠ g → w'.heap[k]? = w.heap[k]?) (hs : w'.heap.size = w.heap.size) (hb : Below 0 w w') : a.grownBy w' (some g) :=
  ⟨hb.os.trans h.os, hb.tape.trans h.tape, hb.output.trans h.output, by rw [hs]; exact h.size, fun i hi hne => (hk i (fun e => hne (congrArg some e))).trans (h.block i hi hne)⟩

/-- What is left of the bytes, behind what writes into another block alone. -/
theorem rest_rd {wr w' : World} {g n c : Nat} {ad : Addr} {r : List UInt8} (hr : Rd wr wr.heap.size (some ad) r.length (bv r)) (hne : ∀ x, 0 < r.length → some ad = some x → x.block ≠ g) (hg : wr.grownBy w' (some g)) (hn : n ≤ r.length) (hc : r.length ≤ c) :
    Rd w' w'.heap.size (fromA (some ad) c n) (r.drop n).length (bv (r.drop n)) ∧ ∀ x, 0 < (r.drop n).length → (fromA (some ad) c n) = some x → x.block ≠ g := by
  have hl : (r.drop n).length = r.length - n := List.length_drop
  unfold fromA
  by_cases h0 : r.length = n
  · refine ⟨⟨bv_length _, fun h => by omega⟩, fun x h => by omega⟩
  · have hcn : ¬ c = n := by omega
    rw [if_neg hcn, Option.map_some]
    obtain ⟨x, hx, hb, hcell⟩ := hr.2 (by omega)
    cases hx
    have hbg := hne ad (by omega) rfl
    refine ⟨⟨bv_length _, fun _ => ⟨_, rfl, by rw [block_add]; exact Nat.lt_of_lt_of_le hb hg.size, fun j u hu => ?_⟩⟩, fun x _ hx => by cases hx; rw [block_add]; exact hbg⟩
    rw [add_add', World.cell?_of_block (hg.block (ad.add (n + j)).block (by rw [block_add]; exact hb) (fun e => hbg (by rw [block_add] at e; exact Option.some.inj e)))]
    exact hcell _ u (by rw [← hu, bv_drop, List.getElem?_drop])

theorem kt_ne {w : World} {g : Nat} {l : List UInt8} (hk : KT w) (hh : HashIs w g l) : 0 ≠ g := by
  rintro rfl
  have h1 := hk 0 (by decide)
  rw [Blk.cell hh 0, HC_made] at h1
  cases h1

/-- What holds at each round's head: so much is taken, and the rest is still to come. -/
def WrRel (l bs : List UInt8) (g : Nat) (w : World) (v : Value) (wr : World) : Prop :=
  ∃ (d r : List UInt8) (A : Option Addr) (c : Nat), bs = d ++ r ∧ v = .slice A r.length c ∧ r.length ≤ c ∧ c ≤ 9223372036854775807 ∧ Hid (Rd wr wr.heap.size A r.length (bv r)) ∧ Hid (∀ ad, 0 < r.length → A = some ad → ad.block ≠ g) ∧ HashIs wr g (l ++ d) ∧ w.grownBy wr (some g)

set_option maxRecDepth 100000 in
set_option maxHeartbeats 8000000 in
theorem write_any (l bs : List UInt8) (g : Nat) (A : Option Addr) (c : Nat) (w : World) (hh : HashIs w g l) (hk : KT w) (hr : Rd w w.heap.size A bs.length (bv bs)) (hne : ∀ ad, 0 < bs.length → A = some ad → ad.block ≠ g)
    (hc : bs.length ≤ c ∧ c ≤ 9223372036854775807) (hl : l.length + bs.length ≤ 1152921504606846975) :
    Calls Tryd.prog 35 #[.pointer (some ⟨g, 0, none⟩), .slice A bs.length c] w fun e w' => e = .returned (.tuple #[]) ∧ HashIs w' g (l ++ bs) ∧ w.grownBy w' (some g) := by
  have M := Lib.hid (made_any w g true _ hh (HC_made l))
  have hkn := kt_ne hk hh
  have HR := Lib.hid hr
  have HNE := Lib.hid hne
  have HH := Lib.hid hh
  obtain ⟨hc1, hc2⟩ := hc
  clear hr hne hh
  go_enter Tryd.func35, Tryd.ntmps35
  go_wp2_with fail
  refine M.out.mono ?_; rintro e w' ⟨rfl, rfl⟩
  go_wp2_with fail
  go_loopw [1] (fun v wr => WrRel l bs g w v wr) (fun v _ => match v with | .slice _ n _ => n | _ => 0)
  case atStart => exact ⟨[], bs, A, c, rfl, rfl, hc1, hc2, HR, HNE, by rw [List.append_nil]; exact HH.out, World.grownBy.refl w _⟩
  case round =>
    obtain ⟨d, r, A, c, hbs, rfl, hc1, hc2, HR, HNE, hH, hgw⟩ := hrel
    have HBS := Lib.hid hbs
    have hlen : bs.length = d.length + r.length := by rw [hbs, List.length_append]
    have HLEN := Lib.hid hlen
    have hdr : d.length + r.length ≤ bs.length := by omega
    clear hbs hlen
    by_cases h0 : r.length = 0
    · obtain rfl : r = [] := List.eq_nil_of_length_eq_zero h0
      clear hdr h0
      go_wp2_with fail
      go_end0
      exact ⟨rfl, by rw [HBS.out, List.append_nil]; exact hH, hgw⟩
    · have hpos : 0 < r.length := by omega
      obtain ⟨T, hT⟩ : ∃ T, T = l ++ d := ⟨_, rfl⟩
      have hTl : T.length = l.length + d.length := by rw [hT, List.length_append]
      have HT := Lib.hid hT
      have HTL := Lib.hid hTl
      rw [← hT] at hH
      have hTb : T.length + r.length ≤ 1152921504606846975 := by omega
      have hTc : T.length ≤ 1152921504606846975 := by omega
      clear hT hTl
      have csz := hH.size
      obtain ⟨b, hb⟩ : ∃ b, b = T.length % 64 := ⟨_, rfl⟩
      have HB := Lib.hid hb
      have hb64 : b < 64 := by omega
      have hmod : (T.length : Int) % 64 = (b : Int) := by omega
      clear hb
      have hposI : 0 < (r.length : Int) := by omega
      have hsl := run_sliceAt_from (P := Tryd.prog) Tryd.underlying96 (by kernel_rfl) g 9 b hb64
      obtain ⟨ad, hA, hblk, hcell⟩ := HR.out.2 hpos
      subst hA
      have hcut : r.length - 0 ≤ c := by omega
      obtain ⟨n, hn⟩ : ∃ n, n = Nat.min r.length (64 - b) := ⟨_, rfl⟩
      have hnr : n ≤ r.length := by rw [hn]; exact Nat.min_le_left _ _
      have hnb : b + n ≤ 64 := by have : n ≤ 64 - b := by rw [hn]; exact Nat.min_le_right _ _
                                  omega
      have hn0 : 0 < n := by rw [hn]; exact Nat.lt_min.2 ⟨hpos, by omega⟩
      have hcl : (r.take n).length = n := by rw [List.length_take]; omega
      have HN := Lib.hid hn
      obtain ⟨C, hC⟩ : ∃ C, C = r.take n := ⟨_, rfl⟩
      have hsrc : ∀ j v, (bv C)[j]? = some v → wr.cell? (ad.add j) = some v := fun j v hv => by
        rw [hC, bv_take, List.getElem?_take] at hv
        split at hv
        · exact hcell j v hv
        · cases hv
      rw [← hC] at hcl
      have HSRC := Lib.hid hsrc
      have HCC := Lib.hid hC
      have HCL := Lib.hid hcl
      have HBL := Lib.hid ((bv_length C).trans hcl)
      have hov := over_block (st := Sh.stt T) (blk := Sh.pad (Sh.rest T)) (sz := (T.length : Int)) (Sh.stt_length T) (Sh.pad_length (by rw [Sh.rest_length]; omega)) b C (by omega)
      have hrb : (Sh.rest T).length = b := by rw [Sh.rest_length, HB.out]
      rw [hcl, pad_over hrb hcl hnb] at hov
      have hpl : (Sh.pad (Sh.rest T ++ C)).length = 64 := Sh.pad_length (by rw [List.length_append]; omega)
      have HPL := Lib.hid hpl
      have HOV := Lib.hid hov
      have hslast := HCx_setLast (st := Sh.stt T) (blk := Sh.pad (Sh.rest T ++ C)) (sz := (T.length : Int)) (Sh.stt_length T) hpl ((T.length : Int) + (n : Int))
      have HSLAST := Lib.hid hslast
      have hclast := HCx_last (st := Sh.stt T) (blk := Sh.pad (Sh.rest T ++ C)) (sz := (T.length : Int)) (Sh.stt_length T) hpl
      have HCLAST := Lib.hid hclast
      have HRB := Lib.hid hrb
      unfold HashIs at hH
      rw [HC_eq] at hH
      have hcurs := HCx_size (st := Sh.stt T) (blk := Sh.pad (Sh.rest T)) (sz := (T.length : Int)) (Sh.stt_length T) (Sh.pad_length (by rw [Sh.rest_length]; omega))
      have HCURS := Lib.hid hcurs
      have hnc : (n : Int) ≤ (r.length : Int) := by omega
      have hsc := run_slice_from (P := Tryd.prog) Tryd.underlying27 dz_infoU81 (some ad) r.length c n hnr
      clear hn hC hcl hsrc hov hrb hpl hslast hclast hcurs hcell
      generalize hX : (HCx (Sh.stt T) (Sh.pad (Sh.rest T)) (T.length : Int)).toArray = X at *
      clear hX
      have HSZ2 := Lib.hid (HCx_size (st := Sh.stt T) (blk := Sh.pad (Sh.rest T ++ C)) (sz := (T.length : Int)) (Sh.stt_length T) HPL.out)
      have HNXT := Lib.hid (fun (w' : World) (h : wr.grownBy w' (some g)) => rest_rd (n := n) HR.out HNE.out h hnr hc1)
      by_cases hf : b + n = 64
      · have hff : (((b : Int) + (n : Int)) == 64) = true := by rw [beq_iff_eq]; omega
        go_wp2_with (first
        | (refine at_dst 23 rfl ?_; go_must (refine wpList_copy_own rfl (.tmp 21) (.tmp 22) 27 27 rfl 5 Tryd.underlying27 dz_infoU81 g (9 + b) (64 - b) (64 - b) ad r.length c rfl rfl X _ hH (bv C) (by rw [HBL.out]; exact HN.out) HSRC.out (by rw [HBL.out, HCURS.out]; omega) (bv_one C) ?_; generalize hw2 : World.setRow _ _ _ = w2; rw [HBL.out, show goInt n = .int .i64 (n : Int) from rfl]; have hH2 : Blk w2 g 98 (dz_over X (9 + b) (bv C)) := hw2 ▸ Blk.row hH _; rw [HOV.out] at hH2; have hg2 : w.grownBy w2 (some g) := hw2 ▸ only_row hgw _; have hgr2 : wr.grownBy w2 (some g) := hw2 ▸ only_row (World.grownBy.refl wr _) _; have csz2 := (hH2.cell 73).trans HCLAST.out; clear hw2))
        | (refine at_sto 3 (.tmp 31) (.tmp 29) rfl ?_; go_must (refine wpList_store_blk rfl 3 (.tmp 31) (.tmp 29) rfl g 73 (.int .i64 ((T.length : Int) + (n : Int))) rfl rfl _ _ hH2 (by rw [HSZ2.out]; decide) rfl (by kernel_rfl) ?_; intro w3 hH3 hk3 hs3 hb3; rw [HSLAST.out] at hH3; have hg3 := only_oth hg2 hk3 hs3 (hb3 _ _ (Nat.zero_le _) (Below.refl 0 w2)); have hgr3 := only_oth hgr2 hk3 hs3 (hb3 _ _ (Nat.zero_le _) (Below.refl 0 w2)))))
        have hfull : T.length % 64 + C.length = 64 := by rw [← HB.out, HCL.out]; exact hf
        have hpl : (Sh.rest T ++ C).length = 64 := by rw [List.length_append, Sh.rest_length]; exact hfull
        rw [pad_self hpl] at hH3
        have hsf := Sh.stt_full hfull
        have hrf := Sh.rest_full hfull
        obtain ⟨D, hD⟩ : ∃ D, D = Sh.rest T ++ C := ⟨_, rfl⟩
        rw [← hD] at hH3 hpl hsf
        have hkd : KT w3.drew := (hk.only hg3 hkn).drew
        have NX := Lib.hid (next_any (Sh.stt T) D w3.drew (Sh.stt_length T) (Sh.stt_ws T) hpl hkd)
        have h8 := Sh.stt_length T
        have HRS := Lib.hid (fun (W : World) (h : Blk W g 98 (HCx (Sh.stt T) D ((T.length : Int) + (n : Int))).toArray) => And.intro (HCx_state h) (HCx_block h8 hpl h))
        have HSL := Lib.hid ((uv_length (Sh.stt T)).trans h8)
        have HDL := Lib.hid ((bv_length D).trans hpl)
        have hml : (Sh.mix (Sh.stt T) D).length = 8 := Sh.mix_length _ _
        have HO1 := Lib.hid (over_state (blk := D) (sz := (T.length : Int) + (n : Int)) h8 hml)
        have hO2 := over_block (st := Sh.mix (Sh.stt T) D) (blk := D) (sz := (T.length : Int) + (n : Int)) hml hpl 0 (List.replicate 64 0) (by simp)
        rw [List.take_zero, List.nil_append, List.length_replicate, Nat.zero_add, List.drop_of_length_le (by omega), List.append_nil] at hO2
        have HO2 := Lib.hid hO2
        have HX1 := Lib.hid (HCx_size (sz := (T.length : Int) + (n : Int)) h8 hpl)
        have HX2 := Lib.hid (HCx_size (sz := (T.length : Int) + (n : Int)) hml hpl)
        have HSF := Lib.hid hsf
        have HRF := Lib.hid hrf
        have hHd : Blk w3.drew g 98 (HCx (Sh.stt T) D ((T.length : Int) + (n : Int))).toArray := hH3
        have hgd : w.grownBy w3.drew (some g) := only_drew hg3
        have hgrd : wr.grownBy w3.drew (some g) := only_drew hgr3
        have HML := Lib.hid ((uv_length (Sh.mix (Sh.stt T) D)).trans hml)
        clear hsf hrf hD hpl h8 hml hO2 hH3 hH2 csz2 hg2 hgr2 hg3 hgr3 csz hH hsl hsc hgw hk3 hs3 hb3 hff hmod
        refine wp_region_any (by kernel_rfl) ?_
        change wpAny _ _ _ _ _ _ _ (World.drew _)
        refine wpAny_of_zed (S := fun w' => Blk w' g 98 (HCx (Sh.stt T) D ((T.length : Int) + (n : Int))).toArray) (z := 12) _ _ _ _ ?_
        refine zed_take (i := 0) (v := ?_) rfl (by kernel_rfl) (by kernel_rfl) (by kernel_rfl) (by kernel_rfl) (fun _ _ _ h => h) (Or.inl ⟨by rfl, ?_⟩) (hHd) ?_
        rotate_left
        · intro wq hS
          have hS' := hS
          try simp only [] at hS'
          go_simp; try with_reducible rfl
        change wpAnyZ _ _ _ _ _ _ _ _ (Act.put _ _ _) _
        refine zed_take (i := 1) (v := ?_) rfl (by kernel_rfl) (by kernel_rfl) (by kernel_rfl) (by kernel_rfl) (fun _ _ _ h => h) (Or.inl ⟨by rfl, ?_⟩) (hHd) ?_
        rotate_left
        · intro wq hS
          have hS' := hS
          try simp only [] at hS'
          go_simp; try with_reducible rfl
        change wpAnyZ _ _ _ _ _ _ _ _ (Act.put _ _ _) _
        refine zed_take (i := 2) (v := ?_) rfl (by kernel_rfl) (by kernel_rfl) (by kernel_rfl) (by kernel_rfl) (fun _ _ _ h => h) (Or.inl ⟨by rfl, ?_⟩) (hHd) ?_
        rotate_left
        · intro wq hS
          have hS' := hS
          try simp only [] at hS'
          go_simp; try with_reducible rfl
        change wpAnyZ _ _ _ _ _ _ _ _ (Act.put _ _ _) _
        refine zed_take (i := 3) (v := ?_) rfl (by kernel_rfl) (by kernel_rfl) (by kernel_rfl) (by kernel_rfl) (fun _ _ _ h => h) (Or.inl ⟨by rfl, ?_⟩) (hHd) ?_
        rotate_left
        · intro wq hS
          have hS' := hS
          try simp only [] at hS'
          go_simp; try with_reducible rfl
        change wpAnyZ _ _ _ _ _ _ _ _ (Act.put _ _ _) _
        refine zed_take (i := 4) (v := .agg (uv (Sh.stt T)).toArray) rfl (by kernel_rfl) (by kernel_rfl) (by kernel_rfl) (by kernel_rfl) (fun _ _ _ h => h) ?_ hHd ?_
        · exact yieldsIf_load_mid (by rfl) 93 (.tmp 42) rfl g 1 rfl (uv (Sh.stt T)) _ (fun W h => (HRS.out W h).1) Tryd.underlying93 rfl (by rw [HSL.out]; exact infoS8)
        change wpAnyZ _ _ _ _ _ _ _ _ (Act.put _ _ _) _
        go_simp
        refine zed_take (i := 5) (v := ?_) rfl (by kernel_rfl) (by kernel_rfl) (by kernel_rfl) (by kernel_rfl) (fun _ _ _ h => h) (Or.inl ⟨by rfl, ?_⟩) (hHd) ?_
        rotate_left
        · intro wq hS
          have hS' := hS
          try simp only [] at hS'
          go_simp; try with_reducible rfl
        change wpAnyZ _ _ _ _ _ _ _ _ (Act.put _ _ _) _
        refine zed_take (i := 6) (v := ?_) rfl (by kernel_rfl) (by kernel_rfl) (by kernel_rfl) (by kernel_rfl) (fun _ _ _ h => h) (Or.inl ⟨by rfl, ?_⟩) (hHd) ?_
        rotate_left
        · intro wq hS
          have hS' := hS
          try simp only [] at hS'
          go_simp; try with_reducible rfl
        change wpAnyZ _ _ _ _ _ _ _ _ (Act.put _ _ _) _
        refine zed_take (i := 7) (v := ?_) rfl (by kernel_rfl) (by kernel_rfl) (by kernel_rfl) (by kernel_rfl) (fun _ _ _ h => h) (Or.inl ⟨by rfl, ?_⟩) (hHd) ?_
        rotate_left
        · intro wq hS
          have hS' := hS
          try simp only [] at hS'
          go_simp; try with_reducible rfl
        change wpAnyZ _ _ _ _ _ _ _ _ (Act.put _ _ _) _
        refine zed_take (i := 8) (v := .agg (bv D).toArray) rfl (by kernel_rfl) (by kernel_rfl) (by kernel_rfl) (by kernel_rfl) (fun _ _ _ h => h) ?_ hHd ?_
        · exact yieldsIf_load_mid (by rfl) 96 (.tmp 46) rfl g 9 rfl (bv D) _ (fun W h => (HRS.out W h).2) Tryd.underlying96 rfl (by rw [HDL.out]; exact infoB64)
        change wpAnyZ _ _ _ _ _ _ _ _ (Act.put _ _ _) _
        go_simp
        generalize World.drew w3 = wd at *
        refine zed_op 9 (by kernel_rfl) rfl rfl (fun K hK => ?_)
        go_simp
        refine NX.out.mono ?_; rintro e' w5 ⟨rfl, hb5⟩
        have hH5 := hHd.later hb5
        refine hK _ _ (fun _ => hH5) ?_; clear hK K
        have hg5 := only_later hgd hb5
        have hgr5 := only_later hgrd hb5
        go_simp
        refine zed_op 10 (by kernel_rfl) rfl rfl (fun K hK => ?_)
        go_simp
        refine hK _ _ (fun _ => hH5) ?_; clear hK K
        refine zed_op 11 (by kernel_rfl) rfl rfl (fun K hK => ?_)
        go_simp
        refine hK _ _ (fun _ => hH5) ?_; clear hK K
        go_simp
        refine zed_op 12 (by kernel_rfl) rfl rfl (fun K hK => dz_wp_store_over 93 (.tmp 50) (.tmp 48) rfl g 1 (uv (Sh.mix (Sh.stt T) D)).toArray rfl rfl _ _ hH5 (by rw [HX1.out, List.size_toArray, HML.out]; decide) (by rw [List.size_toArray, HML.out]; exact infoS8) (uv_all _) (hK _ _ (fun h => absurd rfl h) ?_))
        clear hK K
        have hH6 : Blk (w5.setRow g (dz_over (HCx (Sh.stt T) D ((T.length : Int) + (n : Int))).toArray 1 (uv (Sh.mix (Sh.stt T) D)).toArray.toList)) g 98 _ := Blk.row hH5 _
        have hg6 := only_row hg5 (dz_over (HCx (Sh.stt T) D ((T.length : Int) + (n : Int))).toArray 1 (uv (Sh.mix (Sh.stt T) D)).toArray.toList)
        have hgr6 := only_row hgr5 (dz_over (HCx (Sh.stt T) D ((T.length : Int) + (n : Int))).toArray 1 (uv (Sh.mix (Sh.stt T) D)).toArray.toList)
        generalize w5.setRow g (dz_over (HCx (Sh.stt T) D ((T.length : Int) + (n : Int))).toArray 1 (uv (Sh.mix (Sh.stt T) D)).toArray.toList) = w6 at *
        rw [List.toList_toArray, HO1.out] at hH6
        refine ⟨by kernel_rfl, ?_⟩
        go_wp2_with (first
          | (refine at_dst 52 rfl ?_; go_must (refine dz_wpList_build_as rfl 96 _ rfl [] rfl (bv (List.replicate 64 0)).toArray (by kernel_rfl) ?_))
          | (refine at_sto 96 (.tmp 54) (.tmp 52) rfl ?_; go_must (refine dz_wpList_store_over rfl 96 (.tmp 54) (.tmp 52) rfl g 9 (bv (List.replicate 64 0)).toArray rfl rfl _ _ hH6 (by rw [HX2.out, dz_bv_size, List.length_replicate]; decide) (by rw [dz_bv_size, List.length_replicate]; exact infoB64) (dz_bv_all _) ?_; generalize hw7 : World.setRow _ _ _ = w7; have hH7 : Blk w7 g 98 _ := hw7 ▸ Blk.row hH6 _; have hg7 : w.grownBy w7 (some g) := hw7 ▸ only_row hg6 _; have hgr7 : wr.grownBy w7 (some g) := hw7 ▸ only_row hgr6 _; clear hw7)))
        go_roundw
        case rel =>
          obtain ⟨q1, q2⟩ := HNXT.out _ hgr7
          rw [HO2.out] at hH7
          exact ⟨d ++ C, r.drop n, _, c - n, by rw [HBS.out, List.append_assoc, HCC.out, List.take_append_drop], by rw [List.length_drop], by rw [List.length_drop]; omega, by omega, q1, q2, by
            rw [← List.append_assoc, ← HT.out]
            unfold HashIs
            rw [HC_eq, HSF.out, HRF.out, List.length_append, HCL.out, Int.natCast_add]
            exact hH7, hg7⟩
        case measure => omega
      · have hff : (((b : Int) + (n : Int)) == 64) = false := by rw [beq_eq_false_iff_ne]; omega
        go_wp2_with (first
        | (refine at_dst 23 rfl ?_; go_must (refine wpList_copy_own rfl (.tmp 21) (.tmp 22) 27 27 rfl 5 Tryd.underlying27 dz_infoU81 g (9 + b) (64 - b) (64 - b) ad r.length c rfl rfl X _ hH (bv C) (by rw [HBL.out]; exact HN.out) HSRC.out (by rw [HBL.out, HCURS.out]; omega) (bv_one C) ?_; generalize hw2 : World.setRow _ _ _ = w2; rw [HBL.out, show goInt n = .int .i64 (n : Int) from rfl]; have hH2 : Blk w2 g 98 (dz_over X (9 + b) (bv C)) := hw2 ▸ Blk.row hH _; rw [HOV.out] at hH2; have hg2 : w.grownBy w2 (some g) := hw2 ▸ only_row hgw _; have hgr2 : wr.grownBy w2 (some g) := hw2 ▸ only_row (World.grownBy.refl wr _) _; have csz2 := (hH2.cell 73).trans HCLAST.out; clear hw2))
        | (refine at_sto 3 (.tmp 31) (.tmp 29) rfl ?_; go_must (refine wpList_store_blk rfl 3 (.tmp 31) (.tmp 29) rfl g 73 (.int .i64 ((T.length : Int) + (n : Int))) rfl rfl _ _ hH2 (by rw [HSZ2.out]; decide) rfl (by kernel_rfl) ?_; intro w3 hH3 hk3 hs3 hb3; rw [HSLAST.out] at hH3; have hg3 := only_oth hg2 hk3 hs3 (hb3 _ _ (Nat.zero_le _) (Below.refl 0 w2)); have hgr3 := only_oth hgr2 hk3 hs3 (hb3 _ _ (Nat.zero_le _) (Below.refl 0 w2)))))
        go_roundw
        case rel =>
          obtain ⟨q1, q2⟩ := HNXT.out _ hgr3
          have hlt : T.length % 64 + C.length < 64 := by rw [← HB.out, HCL.out]; omega
          exact ⟨d ++ C, r.drop n, _, c - n, by rw [HBS.out, List.append_assoc, HCC.out, List.take_append_drop], by rw [List.length_drop], by rw [List.length_drop]; omega, by omega, q1, q2, by
            rw [← List.append_assoc, ← HT.out]
            unfold HashIs
            rw [HC_eq, Sh.stt_less hlt, Sh.rest_less hlt, List.length_append, HCL.out, Int.natCast_add]
            exact hH3, hg3⟩
        case measure => simp; omega
end Go.Proofs.YtjgegggcbjecbaaDoor

namespace Go.Proofs.YtjgegggcbjecbaaDoor
open Go Go.RowKit

/-- What writes into a block that is new, alone, leaves what there was. -/
theorem below_only {B g : Nat} {w0 a w : World} (hb : Below B w0 a) (h : a.grownBy w (some g)) (hg : B ≤ g) (hB : B ≤ w0.heap.size := by exact Nat.le_refl _) : Below B w0 w :=
  ⟨h.os.trans hb.os, h.tape.trans hb.tape, h.output.trans hb.output, Nat.le_trans hb.size h.size, fun i hi => (h.block i (Nat.lt_of_lt_of_le hi (Nat.le_trans hB hb.size)) (fun e => by have := Option.some.inj e; omega)).trans (hb.block i hi)⟩

set_option maxRecDepth 100000 in
set_option maxHeartbeats 2000000 in
theorem psum_any (bs : List UInt8) (A : Option Addr) (c : Nat) (w : World) (hk : KT w) (hr : Rd w w.heap.size A bs.length (bv bs)) (hc : bs.length ≤ c ∧ c ≤ 9223372036854775807) (hl : bs.length ≤ 1152921504606846975) :
    Calls Tryd.prog 15 #[.slice A bs.length c] w fun e w' => e = .returned (.agg (bv (Sh.sum bs)).toArray) ∧ Below w.heap.size w w' := by
  have N := Lib.hid new_any
  have HK := Lib.hid hk
  have HR := Lib.hid hr
  obtain ⟨hc1, hc2⟩ := hc
  have hglt := hk.lt
  clear hk hr
  go_enter Tryd.func15, Tryd.ntmps15
  have hB0 : Below w.heap.size w (w.alloc (.cells (bz [] 32) 34)) := (Below.refl _ _).alloc (Nat.le_refl _) _
  have hZ0 : Blk (w.alloc (.cells (bz [] 32) 34)) w.heap.size 34 (bz [] 32) := Blk.new w _ _
  have hs0 : (w.alloc (.cells (bz [] 32) 34)).heap.size = w.heap.size + 1 := by simp
  have HS0 := Lib.hid hs0
  clear hs0
  go_wp2_with fail
  refine (N.out _).mono ?_; rintro e w1 ⟨g, rfl, hg, hH, hb1⟩
  have hB1 := hB0.trans (hb1.mono hB0.size)
  have hZ1 := hZ0.later hb1
  have hg' : w.heap.size < g := by rw [World.size_alloc] at hg; omega
  have hK1 := HK.out.below hB1 hglt
  have hR1 := (HR.out.below hB1)
  have W := Lib.hid (write_any [] bs g A c w1 hH hK1 (hR1.more hB1.size) (fun ad h0 hA => by obtain ⟨x, hx, hb, -⟩ := hR1.2 h0; rw [hA] at hx; cases hx; omega) ⟨hc1, hc2⟩ (by simp; omega))
  clear hH hb1 hB0 hZ0 hg HS0 N
  go_wp2_with fail
  refine W.out.mono ?_; rintro e w2 ⟨rfl, hH2, hg2⟩
  rw [List.nil_append] at hH2
  have hB2 := below_only hB1 hg2 (by omega)
  have hZ2 := only_blk hZ1 hg2 (by omega)
  have S := Lib.hid (hsum_any bs g w2 hH2 (HK.out.below hB2 hglt) hl)
  clear hH2 hg2 hB1 hZ1 hK1 hR1 W
  go_wp2_with (first
    | (go_at_call 36; refine S.out.mono ?_; rintro e w3 ⟨rfl, hb3⟩; have hZ3 := hZ2.later hb3)
    | (refine at_sto 34 (.tmp 2) (.tmp 9) rfl ?_; go_must (refine wpList_store_row rfl 34 (.tmp 2) (.tmp 9) rfl _ (bv (Sh.sum bs)).toArray rfl rfl _ _ hZ3 (by rw [dz_bv_size]; exact dz_infoD32) (by rw [dz_bv_size]; rfl) (dz_bv_all _) ?_)))
  exact bodyPost_ret (v := .agg (bv (Sh.sum bs)).toArray) (results_cell_row rfl _ _ w.heap.size _ _ _ _ rfl (hZ3.row _) Tryd.underlying34 rfl (by rw [dz_bv_size]; exact dz_infoD32)) rfl ⟨rfl, below_setRow (hB2.trans (hb3.mono hB2.size)) (Nat.le_refl _) _⟩
end Go.Proofs.YtjgegggcbjecbaaDoor
