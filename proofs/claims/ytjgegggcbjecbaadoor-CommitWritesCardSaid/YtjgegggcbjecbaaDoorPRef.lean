/- The program's isRoot, isOwn, isFar. -/
import Derived.Test.YtjgegggcbjecbaaDoorOpEq
namespace Go.Proofs.YtjgegggcbjecbaaDoor
open Go Go.RowKit

theorem ref_lit : (refCells ⟨false, Cm.zero32, 0⟩).toArray = #[Value.bool false, Value.int .u8 0, Value.int .u8 0, Value.int .u8 0, Value.int .u8 0, Value.int .u8 0, Value.int .u8 0, Value.int .u8 0, Value.int .u8 0, Value.int .u8 0, Value.int .u8 0, Value.int .u8 0, Value.int .u8 0, Value.int .u8 0, Value.int .u8 0, Value.int .u8 0, Value.int .u8 0, Value.int .u8 0, Value.int .u8 0, Value.int .u8 0, Value.int .u8 0, Value.int .u8 0, Value.int .u8 0, Value.int .u8 0, Value.int .u8 0, Value.int .u8 0, Value.int .u8 0, Value.int .u8 0, Value.int .u8 0, Value.int .u8 0, Value.int .u8 0, Value.int .u8 0, Value.int .u8 0, Value.int .i64 0] := rfl
theorem run_ref_zero {r : Cm.Rf} (hd : r.commit.length = 32) (w : World) : (Op.equalIn 10000 53 (.agg (refCells r).toArray) (.agg #[Value.bool false, Value.int .u8 0, Value.int .u8 0, Value.int .u8 0, Value.int .u8 0, Value.int .u8 0, Value.int .u8 0, Value.int .u8 0, Value.int .u8 0, Value.int .u8 0, Value.int .u8 0, Value.int .u8 0, Value.int .u8 0, Value.int .u8 0, Value.int .u8 0, Value.int .u8 0, Value.int .u8 0, Value.int .u8 0, Value.int .u8 0, Value.int .u8 0, Value.int .u8 0, Value.int .u8 0, Value.int .u8 0, Value.int .u8 0, Value.int .u8 0, Value.int .u8 0, Value.int .u8 0, Value.int .u8 0, Value.int .u8 0, Value.int .u8 0, Value.int .u8 0, Value.int .u8 0, Value.int .u8 0, Value.int .i64 0])).run Tryd.prog w = .ok (decide (Cm.refK r = 0)) w := by
  rw [← ref_lit]
  have h := fun d (hd' : d + 1 + 1 + 1 = 10000) => (hd' ▸ run_equal_ref d r ⟨false, Cm.zero32, 0⟩ hd Cm.zero32_length w : (Op.equalIn 10000 53 (.agg (refCells r).toArray) (.agg (refCells ⟨false, Cm.zero32, 0⟩).toArray)).run Tryd.prog w = .ok (decide (r = ⟨false, Cm.zero32, 0⟩)) w)
  rw [h 9997 rfl]
  have e : r = ⟨false, Cm.zero32, 0⟩ ↔ Cm.refK r = 0 := by
    constructor
    · rintro rfl; rfl
    · intro h
      obtain ⟨h1, h2, h3⟩ := Cm.refK_root h
      obtain ⟨o, c, n⟩ := r
      simp only [] at h1 h2 h3
      rw [h1, h2, h3]
  simp only [e]

/-- A reference in a block of its own. -/
structure BoxR (r : Cm.Rf) (g : Nat) (X : Array Value) (w : World) : Prop where
  blk : Blk w g 53 X
  c0 : w.cell? ⟨g, 0, none⟩ = some (.bool r.own)
  c33 : w.cell? ⟨g, 33, none⟩ = some (.int .i64 r.n)
  rng : w.rangeAt g 1 (bv r.commit)
theorem boxR_new (r : Cm.Rf) (w : World) (hd : r.commit.length = 32) : BoxR r w.heap.size (refCells r).toArray (w.alloc (.cells (refCells r).toArray 53)) := by
  have hB : Blk (w.alloc (.cells (refCells r).toArray 53)) w.heap.size 53 (refCells r).toArray := Blk.new w _ _
  refine ⟨hB, ?_, ?_, fun j v hv => ?_⟩
  · rw [hB.cell, List.getElem?_toArray, refCells_0]
  · rw [hB.cell, List.getElem?_toArray, refCells_33 hd]
  · rw [hB.cell, List.getElem?_toArray, refCells_dig hv]
theorem refA_size {r : Cm.Rf} (h : r.commit.length = 32) : (refCells r).toArray.size = 34 := by rw [List.size_toArray, refCells_len h]
theorem refCells_all (r : Cm.Rf) : (refCells r).toArray.all (·.oneCell') = true := Array.all_eq_true_iff_forall_mem.2 (fun v hv => by
  have hv' : v ∈ refCells r := by simpa using hv
  unfold refCells at hv'
  simp only [List.mem_cons, List.mem_append, List.not_mem_nil, or_false] at hv'
  rcases hv' with rfl | hv' | rfl
  · rfl
  · exact bv_one _ v hv'
  · rfl)

set_option maxRecDepth 100000 in
set_option maxHeartbeats 4000000 in
theorem isRoot_any (r : Cm.Rf) (w : World) (hd : r.commit.length = 32) :
    Calls Tryd.prog 65 #[refV r] w (Ret (.bool (decide (Cm.refK r = 0))) w) := by
  unfold refV
  have heq := fun w => run_ref_zero hd w
  have HRS := Lib.hid (refA_size hd)
  obtain ⟨X, hX⟩ : ∃ X, X = (refCells r).toArray := ⟨_, rfl⟩
  rw [← hX] at heq HRS ⊢
  obtain ⟨wa, hwa⟩ : ∃ y, y = w.alloc (.cells X 53) := ⟨_, rfl⟩
  have HB := Lib.hid (show Blk wa w.heap.size 53 X by rw [hwa]; exact Blk.new w _ _)
  have HBW := Lib.hid (show Below w.heap.size w wa by rw [hwa]; exact below_alloc w _)
  have HI := Lib.hid (show (Tryd.prog.info? 53).map (·.size) = some X.size by rw [HRS.out]; exact infoR34)
  replace hwa := hwa.symm
  clear hX hd
  go_enter Tryd.func65, Tryd.ntmps65
  go_wp2_with (refine at_lod 53 (.tmp 1) rfl ?_; go_must (refine wpList_load_row rfl 53 (.tmp 1) rfl w.heap.size rfl _ X (0, 0) _ HB.out Tryd.underlying53 rfl HI.out ?_))
  go_ret
  exact ⟨rfl, HBW.out⟩

set_option maxRecDepth 100000 in
set_option maxHeartbeats 4000000 in
theorem isOwn_any (r : Cm.Rf) (w : World) (hd : r.commit.length = 32) :
    Calls Tryd.prog 69 #[refV r] w (Ret (.bool (decide (Cm.refK r = 1))) w) := by
  unfold refV
  have heq := run_same_zero hd
  have HX := boxR_new r w hd
  have HK : Hid (Cm.refK r = 1 ↔ r.own = true ∧ r.commit = Cm.zero32 ∧ 0 < r.n) := by
    constructor
    · exact fun h => ⟨(Cm.refK_own h).1, (Cm.refK_own h).2.1, by have := (Cm.refK_own h).2.2; omega⟩
    · rintro ⟨h1, h2, h3⟩
      unfold Cm.refK
      rw [if_pos h1, if_neg (by intro h; rcases h with h | h; exact h h2; omega)]
  have HLN := Lib.hid (show (Tryd.prog.info? 34).map (·.size) = some (bv r.commit).length by rw [bv_length, hd]; exact infoD32)
  obtain ⟨X, hX⟩ : ∃ X, X = (refCells r).toArray := ⟨_, rfl⟩
  rw [← hX] at HX ⊢
  obtain ⟨wa, hwa⟩ : ∃ y, y = w.alloc (.cells X 53) := ⟨_, rfl⟩
  have HBW := Lib.hid (show Below w.heap.size w wa by rw [hwa]; exact below_alloc w _)
  rw [← hwa] at HX
  replace hwa := hwa.symm
  obtain ⟨-, c0, c33, hrg⟩ := HX
  have HRG := Lib.hid hrg
  obtain ⟨D, hD⟩ : ∃ D, D = (bv r.commit).toArray := ⟨_, rfl⟩
  have HD := Lib.hid hD
  rw [← hD] at heq
  obtain ⟨own, cm, n⟩ := r
  simp only [] at HK c0 c33 HRG HLN heq HD
  clear hX hD hrg hd
  obtain ⟨k, hk⟩ : ∃ k, k = Cm.refK ⟨own, cm, n⟩ := ⟨_, rfl⟩
  rw [← hk] at HK ⊢
  clear hk
  cases own with
  | false =>
    have HR := Lib.hid (decide_eq_false (fun h => by have := (HK.out.1 h).1; cases this) : decide (k = 1) = false)
    clear HK
    go_enter Tryd.func69, Tryd.ntmps69
    go_wp2_with fail
    go_ret
    exact ⟨by rw [HR.out]; rfl, HBW.out⟩
  | true =>
    by_cases hz : cm = Cm.zero32
    · rw [decide_eq_true hz] at heq
      by_cases h0 : 0 < n
      · have HR := Lib.hid (decide_eq_true (HK.out.2 ⟨rfl, hz, h0⟩))
        have d0 : decide (0 < n) = true := decide_eq_true h0
        clear HK hz
        go_enter Tryd.func69, Tryd.ntmps69
        go_wp2_with (refine at_lod 34 (.tmp 6) rfl ?_; go_must (refine wpList_load_mid_g (by rfl) 34 (.tmp 6) rfl w.heap.size 1 rfl _ _ HRG.out Tryd.underlying34 rfl HLN.out ?_); rw [← HD.out])
        go_ret
        exact ⟨by rw [HR.out]; rfl, HBW.out⟩
      · have HR := Lib.hid (decide_eq_false (fun h => h0 (HK.out.1 h).2.2) : decide (k = 1) = false)
        have d0 : decide (0 < n) = false := decide_eq_false h0
        clear HK hz
        go_enter Tryd.func69, Tryd.ntmps69
        go_wp2_with (refine at_lod 34 (.tmp 6) rfl ?_; go_must (refine wpList_load_mid_g (by rfl) 34 (.tmp 6) rfl w.heap.size 1 rfl _ _ HRG.out Tryd.underlying34 rfl HLN.out ?_); rw [← HD.out])
        go_ret
        exact ⟨by rw [HR.out]; rfl, HBW.out⟩
    · rw [decide_eq_false hz] at heq
      have HR := Lib.hid (decide_eq_false (fun h => hz (HK.out.1 h).2.1) : decide (k = 1) = false)
      clear HK hz
      go_enter Tryd.func69, Tryd.ntmps69
      go_wp2_with (refine at_lod 34 (.tmp 6) rfl ?_; go_must (refine wpList_load_mid_g (by rfl) 34 (.tmp 6) rfl w.heap.size 1 rfl _ _ HRG.out Tryd.underlying34 rfl HLN.out ?_); rw [← HD.out])
      go_ret
      exact ⟨by rw [HR.out]; rfl, HBW.out⟩

set_option maxRecDepth 100000 in
set_option maxHeartbeats 4000000 in
theorem isFar_any (r : Cm.Rf) (w : World) (hd : r.commit.length = 32) :
    Calls Tryd.prog 64 #[refV r] w (Ret (.bool (decide (Cm.refK r = 2))) w) := by
  unfold refV
  have HX := boxR_new r w hd
  have HK : Hid (Cm.refK r = 2 ↔ r.own = false ∧ 1 ≤ r.n ∧ r.n ≤ 2000) := by
    constructor
    · exact Cm.refK_far
    · rintro ⟨h1, h2, h3⟩
      unfold Cm.refK
      rw [if_neg (by rw [h1]; decide), if_pos ⟨h2, h3⟩]
  obtain ⟨X, hX⟩ : ∃ X, X = (refCells r).toArray := ⟨_, rfl⟩
  rw [← hX] at HX ⊢
  obtain ⟨wa, hwa⟩ : ∃ y, y = w.alloc (.cells X 53) := ⟨_, rfl⟩
  have HBW := Lib.hid (show Below w.heap.size w wa by rw [hwa]; exact below_alloc w _)
  rw [← hwa] at HX
  replace hwa := hwa.symm
  obtain ⟨-, c0, c33, -⟩ := HX
  obtain ⟨own, cm, n⟩ := r
  simp only [] at HK c0 c33
  clear hX hd
  obtain ⟨k, hk⟩ : ∃ k, k = Cm.refK ⟨own, cm, n⟩ := ⟨_, rfl⟩
  rw [← hk] at HK ⊢
  clear hk
  cases own with
  | true =>
    have HR := Lib.hid (decide_eq_false (fun h => by have := (HK.out.1 h).1; cases this) : decide (k = 2) = false)
    clear HK
    go_enter Tryd.func64, Tryd.ntmps64
    go_wp2_with fail
    go_ret
    exact ⟨by rw [HR.out]; rfl, HBW.out⟩
  | false =>
    by_cases h1 : 1 ≤ n
    · have d1 : decide (1 ≤ n) = true := decide_eq_true h1
      by_cases h2 : n ≤ 2000
      · have d2 : decide (n ≤ 2000) = true := decide_eq_true h2
        have HR := Lib.hid (decide_eq_true (HK.out.2 ⟨rfl, h1, h2⟩))
        clear HK
        go_enter Tryd.func64, Tryd.ntmps64
        go_wp2_with fail
        go_ret
        exact ⟨by rw [HR.out]; rfl, HBW.out⟩
      · have d2 : decide (n ≤ 2000) = false := decide_eq_false h2
        have HR := Lib.hid (decide_eq_false (fun h => h2 (HK.out.1 h).2.2) : decide (k = 2) = false)
        clear HK
        go_enter Tryd.func64, Tryd.ntmps64
        go_wp2_with fail
        go_ret
        exact ⟨by rw [HR.out]; rfl, HBW.out⟩
    · have d1 : decide (1 ≤ n) = false := decide_eq_false h1
      have HR := Lib.hid (decide_eq_false (fun h => h1 (HK.out.1 h).2.1) : decide (k = 2) = false)
      clear HK
      go_enter Tryd.func64, Tryd.ntmps64
      go_wp2_with fail
      go_ret
      exact ⟨by rw [HR.out]; rfl, HBW.out⟩
end Go.Proofs.YtjgegggcbjecbaaDoor
