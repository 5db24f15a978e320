/- The contract of the program's Hash.Sum. -/
import Derived.Test.YtkgkllpecpcgjaaDoorPHash
import Derived.Deep.DeepCutAuto
namespace Go.Proofs.YtkgkllpecpcgjaaDoor
open Go Go.RowKit

/-- A row out of the midst of a block, in a still region. -/
theorem still_load_mid {P : Program} {ops : Array Oper} {w : World} {Q : Act → Prop} {rest : List Oper} {op : Oper} {a : Act} (hgd : op.guard = none) (ty : TypeId) (x : Operand) (ho : op.op = .load ty x)
    (b o : Nat) (hx : a.eval x = .pointer (some ⟨b, o, none⟩)) (cs : List Value) (d : TypeDesc) (hc : w.rangeAt b o cs)
    (hu : P.underlying ty = some d) (hd : d.isRow = true) (hi : (P.info? ty).map (·.size) = some cs.length)
    (h : wpStill P ops w Q rest (a.put op.dst (.agg cs.toArray))) : wpStill P ops w Q (op :: rest) a := by
  have hw : Region.wanted op (yielded ops a.tmps) = true := by simp [Region.wanted, hgd]
  rw [wpStill, if_pos hw]
  unfold Oper.still execOp
  simp only [ho, hx, Instr.loadAt, Instr.sureAddr, Sem.run_bind, Sem.run_pure, Result.andThen_ok, run_loadVar_mid w b o ty cs d hc hu hd hi]
  exact ⟨rfl, h⟩

theorem HC_state (l : List UInt8) {j : Nat} (h : j < 8) : (HC l).toArray[1 + j]? = (uv (Sh.stt l))[j]? := by
  have h1 := uv_length (Sh.stt l)
  rw [Sh.stt_length] at h1
  rw [List.getElem?_toArray]; unfold HC
  rw [Nat.add_comm, List.getElem?_cons_succ, List.getElem?_append_left (by omega)]
theorem HC_block (l : List UInt8) {j : Nat} (h : j < 64) : (HC l).toArray[9 + j]? = (bv (Sh.pad (Sh.rest l)))[j]? := by
  have h1 := uv_length (Sh.stt l)
  rw [Sh.stt_length] at h1
  have h2 := bv_length (Sh.pad (Sh.rest l))
  rw [Sh.pad_length (by rw [Sh.rest_length]; omega)] at h2
  rw [List.getElem?_toArray]; unfold HC
  rw [show 9 + j = (8 + j) + 1 by omega, List.getElem?_cons_succ, List.getElem?_append_right (by omega), List.getElem?_append_left (by omega)]
  congr 1; omega
theorem HashIs.state {w : World} {g : Nat} {l : List UInt8} (h : HashIs w g l) : w.rangeAt g 1 (uv (Sh.stt l)) := fun j v hv => by
  have hj := (List.getElem?_eq_some_iff.1 hv).1
  rw [uv_length, Sh.stt_length] at hj
  rw [Blk.cell h, HC_state l hj, hv]
theorem HashIs.block {w : World} {g : Nat} {l : List UInt8} (h : HashIs w g l) : w.rangeAt g 9 (bv (Sh.pad (Sh.rest l))) := fun j v hv => by
  have hj := (List.getElem?_eq_some_iff.1 hv).1
  rw [bv_length, Sh.pad_length (by rw [Sh.rest_length]; omega)] at hj
  rw [Blk.cell h, HC_block l hj, hv]
theorem HashIs.size {w : World} {g : Nat} {l : List UInt8} (h : HashIs w g l) : w.cell? ⟨g, 73, none⟩ = some (.int .i64 (l.length : Int)) := (Blk.cell h 73).trans (HC_last l)

/-- One operation alone may come up, or two: behind it what is held is shown anew. -/
theorem held_op {P : Program} {md : Region.Mode} {ops : Array Oper} {S : World → Prop} {Q : Exit → Act → World → Prop} {fuel : Nat} {listed : Array Bool} {a : Act} {w : World} (i : Nat) {o : Oper} (hr : Region.ready md ops listed = [i]) (ho : ops[i]? = some o) (hgd : o.guard = none)
    (h : ∀ K' : Act → World → Prop, (∀ a w, S w → wpAnyH P md ops Q S fuel (listed.setIfInBounds i true) a w → K' a w) → Oper.wp P o a w K' Q) : wpAnyH P md ops Q S (fuel + 1) listed a w :=
  held_one hr ho fun K' hK' => by
    have hw : Region.wanted o (yielded ops a.tmps) = true := by simp [Region.wanted, hgd]
    rw [if_pos hw]
    exact h K' hK'
theorem held_two {P : Program} {md : Region.Mode} {ops : Array Oper} {S : World → Prop} {Q : Exit → Act → World → Prop} {fuel : Nat} {listed : Array Bool} {a : Act} {w : World} (i j : Nat) {o o' : Oper} (hr : Region.ready md ops listed = [i, j]) (ho : ops[i]? = some o) (ho' : ops[j]? = some o') (hgd : o.guard = none) (hgd' : o'.guard = none)
    (h : ∀ K' : Act → World → Prop, (∀ a w, S w → wpAnyH P md ops Q S fuel (listed.setIfInBounds i true) a w → K' a w) → Oper.wp P o a w K' Q)
    (h' : ∀ K' : Act → World → Prop, (∀ a w, S w → wpAnyH P md ops Q S fuel (listed.setIfInBounds j true) a w → K' a w) → Oper.wp P o' a w K' Q) : wpAnyH P md ops Q S (fuel + 1) listed a w :=
  wpAnyH_all hr (by simp) fun k hk => by
    have hw : Region.wanted o (yielded ops a.tmps) = true := by simp [Region.wanted, hgd]
    have hw' : Region.wanted o' (yielded ops a.tmps) = true := by simp [Region.wanted, hgd']
    rcases List.mem_cons.1 hk with rfl | hk
    · exact wpOp_step ho fun K' hK' => by rw [if_pos hw]; exact h K' fun a w hS hw => hK' a w ⟨hS, hw⟩
    · obtain rfl : k = j := by simpa using hk
      exact wpOp_step ho' fun K' hK' => by rw [if_pos hw']; exact h' K' fun a w hS hw => hK' a w ⟨hS, hw⟩

/-- A new variable, its zero value told. -/
theorem wp_alloc_as {P : Program} {o : Oper} {a : Act} {w : World} {K : Act → World → Prop} {Q : Exit → Act → World → Prop} (t : TypeId) (ho : o.op = .alloc t) (cs : Array Value) (hz : (P.info? t).map (·.zero) = some (some (.agg cs)))
    (h : K (a.put o.dst (.pointer (some ⟨w.heap.size, 0, none⟩))) (w.alloc (.cells cs t))) : o.wp P a w K Q := by
  cases hq : P.info? t with
  | none => simp [hq] at hz
  | some i =>
    have hzz : i.zero = some (.agg cs) := by simpa [hq] using hz
    unfold Oper.wp execOp
    simp [ho, Instr.alloc, zeroValue, typeInfo, hq, hzz]
    exact h

theorem bv_set_mid (A B : List UInt8) (c : UInt8) {x : Nat} (hx : x < 256) : (bv (A ++ ([c] ++ B))).toArray.setIfInBounds A.length (.int .u8 (x : Int)) = (bv (A ++ ([UInt8.ofNat x] ++ B))).toArray := by
  rw [bv_append, bv_append, bv_append, bv_append, byte_cell hx, List.setIfInBounds_toArray, ← bv_length A, List.set_append_right _ _ (Nat.le_refl _), Nat.sub_self]
  rfl
theorem be8_set (pre : List UInt8) (N k : Nat) (hp : pre.length = 56) (hk : k < 8) :
    (bv (pre ++ List.replicate (8 - k) 0 ++ Sh.be8 N k)).toArray.setIfInBounds (63 - k) (.int .u8 ((N / 2 ^ (8 * k) % 256 : Nat) : Int)) = (bv (pre ++ List.replicate (8 - (k + 1)) 0 ++ Sh.be8 N (k + 1))).toArray := by
  have h1 : List.replicate (8 - k) (0 : UInt8) = List.replicate (8 - (k + 1)) 0 ++ [0] := by rw [← List.replicate_succ', show 8 - (k + 1) + 1 = 8 - k by omega]
  have h2 : (pre ++ List.replicate (8 - (k + 1)) (0 : UInt8)).length = 63 - k := by rw [List.length_append, List.length_replicate, hp]; omega
  have h3 := bv_set_mid (pre ++ List.replicate (8 - (k + 1)) 0) (Sh.be8 N k) 0 (x := N / 2 ^ (8 * k) % 256) (Nat.mod_lt _ (by decide))
  rw [h2] at h3
  rw [h1, ← List.append_assoc, List.append_assoc _ [0], h3, Sh.be8]
  rfl
theorem zeroS : (Tryd.prog.info? 48).map (·.zero) = some (some (.agg (uv (List.replicate 8 0)).toArray)) := by kernel_rfl
theorem zeroB : (Tryd.prog.info? 50).map (·.zero) = some (some (.agg (bv (List.replicate 64 0)).toArray)) := by kernel_rfl
set_option maxRecDepth 100000 in
set_option maxHeartbeats 8000000 in
theorem hsum_any (l : List UInt8) (g : Nat) (w : World) (hh : HashIs w g l) (hk : KT w) (hl : l.length ≤ 1152921504606846975) :
    Calls Tryd.prog 23 #[.pointer (some ⟨g, 0, none⟩)] w fun e w' => e = .returned (.agg (bv (Sh.sum l)).toArray) ∧ Below w.heap.size w w' := by
  have M := Lib.hid (fun W h => made_any W g true _ h (HC_made l))
  have hglt := Blk.lt hh
  have HH := Lib.hid hh
  have HS := Lib.hid (fun (W : World) (h : HashIs W g l) => And.intro h.state h.block)
  have HSL := Lib.hid ((uv_length (Sh.stt l)).trans (Sh.stt_length l))
  have HBL := Lib.hid ((bv_length (Sh.pad (Sh.rest l))).trans (Sh.pad_length (r := Sh.rest l) (by rw [Sh.rest_length]; omega)))
  clear hh
  go_enter Tryd.func23, Tryd.ntmps23
  go_wp2_with fail
  refine (M.out _ (HH.out.alloc _)).mono ?_; rintro e w' ⟨rfl, rfl⟩
  go_upto_region 3 with (fail)
  have hZ0 : Blk (w.alloc (.cells (bz [] 32) 24)) w.heap.size 24 (bz [] 32) := Blk.new w _ _
  have hB0 : Below w.heap.size w (w.alloc (.cells (bz [] 32) 24)) := (Below.refl _ _).alloc (Nat.le_refl _) _
  have hH0 := Blk.alloc HH.out (.cells (bz [] 32) 24)
  have hN0 : w.heap.size < (w.alloc (.cells (bz [] 32) 24)).heap.size := by simp
  change Code.wp _ _ _ _ (w.alloc (.cells (bz [] 32) 24))
  generalize w.alloc (.cells (bz [] 32) 24) = wa at *
  go_cut [3, 4] (fun s3 s4 wx => ∃ g3 g4 : Nat, s3 = .pointer (some ⟨g3, 0, none⟩) ∧ s4 = .pointer (some ⟨g4, 0, none⟩) ∧ Blk wx g3 48 (uv (Sh.stt l)).toArray ∧ Blk wx g4 50 (bz (Sh.rest l) 64) ∧ Blk wx w.heap.size 24 (bz [] 32) ∧ w.heap.size < g3 ∧ w.heap.size < g4 ∧ Below w.heap.size w wx)
  case first =>
    have hHd : HashIs wa.drew g l := hH0
    have hZ1 := hZ0.drew
    have hB1 := hB0.drew
    have hNd : w.heap.size < (World.drew wa).heap.size := hN0
    clear hZ0 hB0 hH0 hN0
    refine wp_region_any (by kernel_rfl) ?_
    change wpAny _ _ _ _ _ _ _ (World.drew _)
    refine wpAny_of_held (S := fun w' => HashIs w' g l) _ _ _ _ ?_
    refine wpAnyH_take (i := 0) (v := ?_) rfl (by kernel_rfl) (by kernel_rfl) (by kernel_rfl) (fun _ _ _ h => h) (Or.inl ⟨by rfl, ?_⟩) (hHd) ?_
    rotate_left
    · intro wq hS
      have hS' := hS
      try simp only [] at hS'
      go_simp; try with_reducible rfl
    change wpAnyH _ _ _ _ _ _ _ (Act.put _ _ _) _
    refine wpAnyH_take (i := 1) (v := ?_) rfl (by kernel_rfl) (by kernel_rfl) (by kernel_rfl) (fun _ _ _ h => h) (Or.inl ⟨by rfl, ?_⟩) (hHd) ?_
    rotate_left
    · intro wq hS
      have hS' := hS
      try simp only [] at hS'
      go_simp; try with_reducible rfl
    change wpAnyH _ _ _ _ _ _ _ (Act.put _ _ _) _
    refine wpAnyH_take (i := 2) (v := ?_) rfl (by kernel_rfl) (by kernel_rfl) (by kernel_rfl) (fun _ _ _ h => h) (Or.inl ⟨by rfl, ?_⟩) (hHd) ?_
    rotate_left
    · intro wq hS
      have hS' := hS
      try simp only [] at hS'
      go_simp; try with_reducible rfl
    change wpAnyH _ _ _ _ _ _ _ (Act.put _ _ _) _
    refine wpAnyH_take (i := 3) (v := .agg (uv (Sh.stt l)).toArray) rfl (by kernel_rfl) (by kernel_rfl) (by kernel_rfl) (fun _ _ _ h => h) ?_ hHd ?_
    · exact yieldsIf_load_mid (by rfl) 48 (.tmp 14) rfl g 1 rfl (uv (Sh.stt l)) _ (fun W h => (HS.out W h).1) Tryd.underlying48 rfl (by rw [HSL.out]; exact infoS8)
    change wpAnyH _ _ _ _ _ _ _ (Act.put _ _ _) _
    refine wpAnyH_take (i := 4) (v := ?_) rfl (by kernel_rfl) (by kernel_rfl) (by kernel_rfl) (fun _ _ _ h => h) (Or.inl ⟨by rfl, ?_⟩) (hHd) ?_
    rotate_left
    · intro wq hS
      have hS' := hS
      try simp only [] at hS'
      go_simp; try with_reducible rfl
    change wpAnyH _ _ _ _ _ _ _ (Act.put _ _ _) _
    refine wpAnyH_take (i := 5) (v := ?_) rfl (by kernel_rfl) (by kernel_rfl) (by kernel_rfl) (fun _ _ _ h => h) (Or.inl ⟨by rfl, ?_⟩) (hHd) ?_
    rotate_left
    · intro wq hS
      have hS' := hS
      try simp only [] at hS'
      go_simp; try with_reducible rfl
    change wpAnyH _ _ _ _ _ _ _ (Act.put _ _ _) _
    refine wpAnyH_take (i := 6) (v := ?_) rfl (by kernel_rfl) (by kernel_rfl) (by kernel_rfl) (fun _ _ _ h => h) (Or.inl ⟨by rfl, ?_⟩) (hHd) ?_
    rotate_left
    · intro wq hS
      have hS' := hS
      try simp only [] at hS'
      go_simp; try with_reducible rfl
    change wpAnyH _ _ _ _ _ _ _ (Act.put _ _ _) _
    refine wpAnyH_take (i := 7) (v := .agg (bv (Sh.pad (Sh.rest l))).toArray) rfl (by kernel_rfl) (by kernel_rfl) (by kernel_rfl) (fun _ _ _ h => h) ?_ hHd ?_
    · exact yieldsIf_load_mid (by rfl) 50 (.tmp 18) rfl g 9 rfl (bv (Sh.pad (Sh.rest l))) _ (fun W h => (HS.out W h).2) Tryd.underlying50 rfl (by rw [HBL.out]; exact infoB64)
    change wpAnyH _ _ _ _ _ _ _ (Act.put _ _ _) _
    generalize World.drew wa = wd at *
    go_simp
    refine held_two 8 9 (by kernel_rfl) rfl rfl rfl rfl (fun K hK => wp_alloc_as 48 rfl _ zeroS (hK _ _ (Blk.alloc hHd _) ?_)) (fun K hK => wp_alloc_as 50 rfl _ zeroB (hK _ _ (Blk.alloc hHd _) ?_))
    all_goals clear hK K
    · have hX := Blk.new wd 48 (uv (List.replicate 8 0)).toArray
      have hH1 := Blk.alloc hHd (.cells (uv (List.replicate 8 0)).toArray 48)
      have hZ2 := hZ1.alloc (.cells (uv (List.replicate 8 0)).toArray 48)
      have hB2 := hB1.alloc hB1.size (.cells (uv (List.replicate 8 0)).toArray 48)
      have hs2 : wd.heap.size < (wd.alloc (.cells (uv (List.replicate 8 0)).toArray 48)).heap.size := by simp
      generalize wd.alloc (.cells (uv (List.replicate 8 0)).toArray 48) = w1 at *
      refine held_op 9 (by kernel_rfl) rfl rfl (fun K hK => wp_alloc_as 50 rfl _ zeroB (hK _ _ (Blk.alloc hH1 _) ?_))
      clear hK K
      have hY := Blk.new w1 50 (bv (List.replicate 64 0)).toArray
      have hX := hX.alloc (.cells (bv (List.replicate 64 0)).toArray 50)
      have hH1 := Blk.alloc hH1 (.cells (bv (List.replicate 64 0)).toArray 50)
      have hZ2 := hZ2.alloc (.cells (bv (List.replicate 64 0)).toArray 50)
      have hB2 := hB2.alloc hB2.size (.cells (bv (List.replicate 64 0)).toArray 50)
      generalize w1.alloc (.cells (bv (List.replicate 64 0)).toArray 50) = w2 at *
      go_simp
      refine held_op 10 (by kernel_rfl) rfl rfl (fun K hK => wp_store_row 48 (.tmp 3) (.tmp 15) rfl _ (uv (Sh.stt l)).toArray rfl rfl _ _ hX (by rw [uv_size, Sh.stt_length]; exact infoS8) (by rw [uv_size, uv_size, Sh.stt_length]; rfl) (uv_all _) (hK _ _ (Blk.farRow hH1 (by omega) _) ?_))
      clear hK K
      have hS3 := hX.row (uv (Sh.stt l)).toArray
      have hB3 := hY.farRow (g' := wd.heap.size) (by omega) (uv (Sh.stt l)).toArray
      have hH1 := Blk.farRow hH1 (g' := wd.heap.size) (by omega) (uv (Sh.stt l)).toArray
      have hZ2 := hZ2.farRow (g' := wd.heap.size) (by omega) (uv (Sh.stt l)).toArray
      have hB2 := below_setRow hB2 (g := wd.heap.size) (by omega) (uv (Sh.stt l)).toArray
      clear hX hY
      generalize w2.setRow wd.heap.size (uv (Sh.stt l)).toArray = w3 at *
      go_simp
      refine held_op 11 (by kernel_rfl) rfl rfl (fun K hK => wp_store_row 50 (.tmp 4) (.tmp 19) rfl _ (bv (Sh.pad (Sh.rest l))).toArray rfl rfl _ _ hB3 (by rw [List.size_toArray, HBL.out]; exact infoB64) (by rw [List.size_toArray, List.size_toArray, HBL.out]; rfl) (bv_all _) (hK _ _ (Blk.farRow hH1 (by omega) _) ?_))
      clear hK K
      refine ⟨by kernel_rfl, ?_⟩
      go_wp2_with fail
      go_meet
      exact ⟨wd.heap.size, w1.heap.size, rfl, rfl, hS3.farRow (by omega) _, hB3.row _, hZ2.farRow (by omega) _, by omega, by omega, below_setRow hB2 (by omega) _⟩
    · have hX := Blk.new wd 50 (bv (List.replicate 64 0)).toArray
      have hH1 := Blk.alloc hHd (.cells (bv (List.replicate 64 0)).toArray 50)
      have hZ2 := hZ1.alloc (.cells (bv (List.replicate 64 0)).toArray 50)
      have hB2 := hB1.alloc hB1.size (.cells (bv (List.replicate 64 0)).toArray 50)
      have hs2 : wd.heap.size < (wd.alloc (.cells (bv (List.replicate 64 0)).toArray 50)).heap.size := by simp
      generalize wd.alloc (.cells (bv (List.replicate 64 0)).toArray 50) = w1 at *
      refine held_op 8 (by kernel_rfl) rfl rfl (fun K hK => wp_alloc_as 48 rfl _ zeroS (hK _ _ (Blk.alloc hH1 _) ?_))
      clear hK K
      have hY := Blk.new w1 48 (uv (List.replicate 8 0)).toArray
      have hX := hX.alloc (.cells (uv (List.replicate 8 0)).toArray 48)
      have hH1 := Blk.alloc hH1 (.cells (uv (List.replicate 8 0)).toArray 48)
      have hZ2 := hZ2.alloc (.cells (uv (List.replicate 8 0)).toArray 48)
      have hB2 := hB2.alloc hB2.size (.cells (uv (List.replicate 8 0)).toArray 48)
      generalize w1.alloc (.cells (uv (List.replicate 8 0)).toArray 48) = w2 at *
      go_simp
      refine held_op 10 (by kernel_rfl) rfl rfl (fun K hK => wp_store_row 48 (.tmp 3) (.tmp 15) rfl _ (uv (Sh.stt l)).toArray rfl rfl _ _ hY (by rw [uv_size, Sh.stt_length]; exact infoS8) (by rw [uv_size, uv_size, Sh.stt_length]; rfl) (uv_all _) (hK _ _ (Blk.farRow hH1 (by omega) _) ?_))
      clear hK K
      have hS3 := hY.row (uv (Sh.stt l)).toArray
      have hB3 := hX.farRow (g' := w1.heap.size) (by omega) (uv (Sh.stt l)).toArray
      have hH1 := Blk.farRow hH1 (g' := w1.heap.size) (by omega) (uv (Sh.stt l)).toArray
      have hZ2 := hZ2.farRow (g' := w1.heap.size) (by omega) (uv (Sh.stt l)).toArray
      have hB2 := below_setRow hB2 (g := w1.heap.size) (by omega) (uv (Sh.stt l)).toArray
      clear hX hY
      generalize w2.setRow w1.heap.size (uv (Sh.stt l)).toArray = w3 at *
      go_simp
      refine held_op 11 (by kernel_rfl) rfl rfl (fun K hK => wp_store_row 50 (.tmp 4) (.tmp 19) rfl _ (bv (Sh.pad (Sh.rest l))).toArray rfl rfl _ _ hB3 (by rw [List.size_toArray, HBL.out]; exact infoB64) (by rw [List.size_toArray, List.size_toArray, HBL.out]; rfl) (bv_all _) (hK _ _ (Blk.farRow hH1 (by omega) _) ?_))
      clear hK K
      refine ⟨by kernel_rfl, ?_⟩
      go_wp2_with fail
      go_meet
      exact ⟨w1.heap.size, wd.heap.size, rfl, rfl, hS3.farRow (by omega) _, hB3.row _, hZ2.farRow (by omega) _, by omega, by omega, below_setRow hB2 (by omega) _⟩
  case rest =>
    obtain ⟨g3, g4, rfl, rfl, hg3, hg4, hgr, hn3, hn4, hbw⟩ := hcut
    have hHc : HashIs wc g l := Blk.below HH.out hbw hglt
    have csz := hHc.size
    have hKc := Lib.hid (hk.below hbw (KT.lt hk))
    obtain ⟨r, hr⟩ : ∃ r, r = l.length % 64 := ⟨_, rfl⟩
    have hrl := Sh.rest_length l
    rw [← hr] at hrl
    have hr64 : (r : Int) < 64 := by omega
    have hmod : (l.length : Int) % 64 = (r : Int) := by omega
    have hb1 : (bz (Sh.rest l) 64).setIfInBounds (Sh.rest l).length (.int .u8 128) = bz (Sh.rest l ++ [128]) 64 := bz_set (l := Sh.rest l) (n := 64) (by omega) (x := 128) (by decide)
    rw [hrl] at hb1
    have HB1 := Lib.hid hb1
    have HRL := Lib.hid hrl
    have HR := Lib.hid hr
    have hbz := bz_size (l := Sh.rest l) (n := 64) (by omega)
    have HBZ := Lib.hid hbz
    clear hb1 hrl hr hbz hHc
    go_upto_if 28 with (refine at_sto 5 (.tmp 26) (.const (.int .u8 128)) rfl ?_; go_must (refine wpList_store_blk rfl 5 (.tmp 26) (.const (.int .u8 128)) rfl g4 r (.int .u8 128) rfl rfl _ _ hg4 (by rw [HBZ.out]; omega) rfl (by kernel_rfl) ?_; intro wq hq hkq hsq hbq))
    have hq := HB1.out ▸ hq
    have hg3q := hg3.other hkq (Blk.ne_ hg3 hg4 (by decide))
    have hgrq := hgr.other hkq (by omega)
    have hbwq := hbq _ _ (by omega) hbw
    have hKq := Lib.hid (hk.below hbwq (KT.lt hk))
    have hHq : HashIs wq g l := Blk.below HH.out hbwq hglt
    clear hg3 hg4 hgr hbw hkq hsq hbq hKc HB1 HBZ csz
    have HST := Lib.hid (Sh.stt_ws l)
    go_cut [] (fun wx => ∃ (st : List Nat) (pre : List UInt8), pre.length = 56 ∧ Sh.Ws st ∧ st.length = 8 ∧ Sh.sum l = Sh.out (Sh.mix st (pre ++ Sh.be8 (8 * l.length % 18446744073709551616) 8)) ∧ Blk wx g3 48 (uv st).toArray ∧ Blk wx g4 50 (bv (pre ++ List.replicate 8 0)).toArray ∧ Blk wx w.heap.size 24 (bz [] 32) ∧ Below w.heap.size w wx)
    case first =>
      by_cases h56 : r < 56
      · have hd : decide (56 ≤ (r : Int)) = false := by simp; omega
        go_wp2_with fail
        go_meet
        have e := Sh.sum_one (l := l) (by rw [← HR.out]; exact h56)
        rw [← HR.out] at e
        refine ⟨Sh.stt l, Sh.rest l ++ [128] ++ List.replicate (55 - r) 0, ?_, HST.out, Sh.stt_length l, e, hg3q, ?_, hgrq, hbwq⟩
        · simp only [List.length_append, List.length_cons, List.length_nil, List.length_replicate, HRL.out]; omega
        · have e2 : bz (Sh.rest l ++ [128]) 64 = (bv (Sh.rest l ++ [128] ++ List.replicate (55 - r) 0 ++ List.replicate 8 0)).toArray := by
            unfold bz
            rw [List.append_assoc _ (List.replicate (55 - r) 0), List.replicate_append_replicate, List.length_append, HRL.out, show 64 - (r + [(128 : UInt8)].length) = 55 - r + 8 by simp only [List.length_cons, List.length_nil]; omega]
          rw [← e2]; exact hq
      · have hd : decide (56 ≤ (r : Int)) = true := by simp; omega
        have e := Sh.sum_two (l := l) (by rw [← HR.out]; omega)
        rw [← HR.out] at e
        have e2 : bz (Sh.rest l ++ [128]) 64 = (bv (Sh.rest l ++ [128] ++ List.replicate (63 - r) 0)).toArray := by
          unfold bz
          rw [List.length_append, HRL.out, show 64 - (r + [(128 : UInt8)].length) = 63 - r by simp only [List.length_cons, List.length_nil]; omega]
        rw [e2] at hq
        have hlen : (Sh.rest l ++ [128] ++ List.replicate (63 - r) 0).length = 64 := by
          simp only [List.length_append, List.length_cons, List.length_nil, List.length_replicate, HRL.out]; omega
        obtain ⟨D, hD⟩ : ∃ D, D = Sh.rest l ++ [128] ++ List.replicate (63 - r) 0 := ⟨_, rfl⟩
        rw [← hD] at e hq hlen
        have NX := Lib.hid (next_any (Sh.stt l) D wq (Sh.stt_length l) HST.out hlen hKq.out)
        have HLD := Lib.hid ((bv_size D).trans hlen)
        have HLS := Lib.hid ((uv_size (Sh.stt l)).trans (Sh.stt_length l))
        have E := Lib.hid e
        clear e e2 hlen hD
        go_wp2_with (first
          | (refine at_lod 48 (.tmp 3) rfl ?_; go_must (refine wpList_load_row rfl 48 (.tmp 3) rfl _ rfl _ _ _ _ hg3q Tryd.underlying48 rfl (by rw [HLS.out]; exact infoS8) ?_))
          | (refine at_lod 50 (.tmp 4) rfl ?_; go_must (refine wpList_load_row rfl 50 (.tmp 4) rfl _ rfl _ _ _ _ hq Tryd.underlying50 rfl (by rw [HLD.out]; exact infoB64) ?_))
          | (go_at_call 33; refine NX.out.mono ?_; rintro e' w5 ⟨rfl, hb5⟩)
          | (refine at_sto 48 (.tmp 3) (.tmp 31) rfl ?_; go_must (refine wpList_store_row rfl 48 (.tmp 3) (.tmp 31) rfl _ (uv (Sh.mix (Sh.stt l) D)).toArray rfl rfl _ _ (hg3q.later hb5) (by rw [uv_size]; exact infoS8) (by rw [HLS.out, uv_size]; rfl) (uv_all _) ?_))
          | (refine at_dst 32 rfl ?_; go_must (refine wpList_build_as rfl 50 _ rfl [] rfl (bv (List.replicate 64 0)).toArray (by kernel_rfl) ?_))
          | (refine at_sto 50 (.tmp 4) (.tmp 32) rfl ?_; go_must (refine wpList_store_row rfl 50 (.tmp 4) (.tmp 32) rfl _ (bv (List.replicate 64 0)).toArray rfl rfl _ _ ((hq.later hb5).farRow (Blk.ne_ (hq.later hb5) (hg3q.later hb5) (by decide)) _) (by rw [bv_size]; exact infoB64) (by rw [HLD.out, bv_size]; rfl) (bv_all _) ?_)))
        go_meet
        have n34 := Blk.ne_ (hq.later hb5) (hg3q.later hb5) (by decide)
        refine ⟨Sh.mix (Sh.stt l) D, List.replicate 56 0, rfl, Sh.mix_ws _ _, rfl, E.out, ((hg3q.later hb5).row _).farRow (fun h => n34 h.symm) _, (((hq.later hb5).farRow n34 _).row _), ((hgrq.later hb5).farRow (by omega) _).farRow (by omega) _, below_setRow (below_setRow (hbwq.trans (hb5.mono hbwq.size)) (by omega) _) (by omega) _⟩
    case rest =>
      obtain ⟨st, pre, hpl, hws, hsl, hsum, hS, hB, hZ, hbx⟩ := hcut
      have hHx : HashIs wc g l := Blk.below HH.out hbx hglt
      have csz := hHx.size
      have hNm : 8 * l.length % 18446744073709551616 = 8 * l.length := by omega
      rw [hNm] at hsum
      obtain ⟨N, hN⟩ : ∃ N, N = 8 * l.length := ⟨_, rfl⟩
      rw [← hN] at hsum
      have hNw : IntKind.u64.wrap ((l.length : Int) * 8) = (N : Int) := by rw [IntWalk.u64_in _ (by omega)]; omega
      have hlu : IntKind.u64.wrap (l.length : Int) = (l.length : Int) := IntWalk.u64_in _ (by omega)
      have hNb : N < 9223372036854775808 := by omega
      have HSUM := Lib.hid hsum
      have HPL := Lib.hid hpl
      have HSL' := Lib.hid hsl
      have HWS := Lib.hid hws
      clear hNm hN hsum hpl hsl hws hHx hg3q hgrq hbwq hKq hHq hq
      go_upto_region 10 with (fail)
      clear hNw hlu hmod hr64 csz
      go_wp2_with fail
      go_loopw [39] (fun iv wr => ∃ k : Nat, k ≤ 8 ∧ iv = .int .i64 (k : Int) ∧ Blk wr g3 48 (uv st).toArray ∧ Blk wr g4 50 (bv (pre ++ List.replicate (8 - k) 0 ++ Sh.be8 N k)).toArray ∧ Blk wr w.heap.size 24 (bz [] 32) ∧ Below w.heap.size w wr) (fun iv _ => 8 - (intOf iv).toNat)
      case atStart => exact ⟨0, Nat.zero_le _, rfl, hS, by rw [Sh.be8, List.append_nil]; exact hB, hZ, hbx⟩
      case round =>
        obtain ⟨k, hk8, rfl, hS, hB, hZ, hbx⟩ := hrel
        by_cases hlt : k < 8
        · have hx : N / 2 ^ (8 * k) % 256 < 256 := Nat.mod_lt _ (by decide)
          have hv : IntKind.u8.wrap ((N : Int) / 2 ^ (8 * k)) = ((N / 2 ^ (8 * k) % 256 : Nat) : Int) := by rw [IntKind.wrap_u8, Int.natCast_emod, Int.natCast_ediv, Int.natCast_pow]; rfl
          have hset := be8_set pre N k HPL.out hlt
          have HSET := Lib.hid hset
          have hsz : (bv (pre ++ List.replicate (8 - k) 0 ++ Sh.be8 N k)).toArray.size = 64 := by
            rw [bv_size, List.length_append, List.length_append, List.length_replicate, Sh.be8_length, HPL.out]; omega
          have HSZ := Lib.hid hsz
          clear hset hsz
          generalize N / 2 ^ (8 * k) % 256 = x at *
          have hkb : (k : Int) ≤ 63 := by omega
          have hk9 : (63 : Int) - (k : Int) < 64 := by omega
          go_wp2_with (refine at_sto 5 (.tmp 49) (.tmp 48) rfl ?_; go_must (refine wpList_store_blk rfl 5 (.tmp 49) (.tmp 48) rfl g4 (63 - k) (.int .u8 (x : Int)) rfl rfl _ _ hB (by rw [HSZ.out]; omega) rfl (by kernel_rfl) ?_; intro wq hq hkq hsq hbq; rw [HSET.out] at hq))
          go_roundw
          case rel => exact ⟨k + 1, by omega, by go_num, hS.other hkq (Blk.ne_ hS hB (by decide)), hq, hZ.other hkq (by omega), hbq _ _ (by omega) hbx⟩
          case measure => simp [intOf]; omega
        · obtain rfl : k = 8 := by omega
          have hlen : (pre ++ Sh.be8 N 8).length = 64 := by rw [List.length_append, Sh.be8_length, HPL.out]
          rw [show 8 - 8 = 0 from rfl, List.replicate_zero, List.append_nil] at hB
          obtain ⟨D, hD⟩ : ∃ D, D = pre ++ Sh.be8 N 8 := ⟨_, rfl⟩
          have hsum := HSUM.out
          rw [← hD] at hB hlen hsum
          have NX := Lib.hid (next_any st D wr HSL'.out HWS.out hlen (hk.below hbx (KT.lt hk)))
          have DG := Lib.hid (fun W => digest_any (Sh.mix st D) W rfl (Sh.mix_ws _ _))
          have HLD := Lib.hid ((bv_size D).trans hlen)
          have HLS := Lib.hid ((uv_size st).trans HSL'.out)
          have HF := Lib.hid hsum
          clear hD hlen hsum hlt hk8
          rw [show ((8 : Nat) : Int) = 8 from rfl]
          go_wp2_with (first
            | (refine at_lod 48 (.tmp 3) rfl ?_; go_must (refine wpList_load_row rfl 48 (.tmp 3) rfl _ rfl _ _ _ _ hS Tryd.underlying48 rfl (by rw [HLS.out]; exact infoS8) ?_))
            | (refine at_lod 50 (.tmp 4) rfl ?_; go_must (refine wpList_load_row rfl 50 (.tmp 4) rfl _ rfl _ _ _ _ hB Tryd.underlying50 rfl (by rw [HLD.out]; exact infoB64) ?_))
            | (go_at_call 33; refine NX.out.mono ?_; rintro e' w5 ⟨rfl, hb5⟩)
            | (go_at_call 34; refine (DG.out _).mono ?_; rintro e' w6 ⟨rfl, hb6⟩; have hZ6 := (hZ.later hb5).later hb6)
            | (refine at_sto 24 (.tmp 2) (.tmp 54) rfl ?_; go_must (refine wpList_store_row rfl 24 (.tmp 2) (.tmp 54) rfl _ (bv (Sh.out (Sh.mix st D))).toArray rfl rfl _ _ hZ6 (by rw [bv_size]; exact infoD32) (by rw [bv_size]; rfl) (bv_all _) ?_)))
          exact bodyPost_ret (v := .agg (bv (Sh.out (Sh.mix st D))).toArray) (results_cell_row rfl _ _ w.heap.size _ _ _ _ rfl (hZ6.row _) Tryd.underlying24 rfl (by rw [bv_size]; exact infoD32)) rfl ⟨by rw [HF.out], below_setRow (hbx.trans ((hb5.trans (hb6.mono hb5.size)).mono hbx.size)) (Nat.le_refl _) _⟩
end Go.Proofs.YtkgkllpecpcgjaaDoor
