/- The document's Ref: of what kind a reference is. -/
import Derived.Test.YtjgegggcbjecbaaDoorRName
import Derived.Test.YtjgegggcbjecbaaDoorOpenC
namespace Go.Proofs.YtjgegggcbjecbaaDoor
open Go Go.RowKit

theorem zero_lit : (bv Cm.zero32).toArray = #[Value.int .u8 0, Value.int .u8 0, Value.int .u8 0, Value.int .u8 0, Value.int .u8 0, Value.int .u8 0, Value.int .u8 0, Value.int .u8 0, Value.int .u8 0, Value.int .u8 0, Value.int .u8 0, Value.int .u8 0, Value.int .u8 0, Value.int .u8 0, Value.int .u8 0, Value.int .u8 0, Value.int .u8 0, Value.int .u8 0, Value.int .u8 0, Value.int .u8 0, Value.int .u8 0, Value.int .u8 0, Value.int .u8 0, Value.int .u8 0, Value.int .u8 0, Value.int .u8 0, Value.int .u8 0, Value.int .u8 0, Value.int .u8 0, Value.int .u8 0, Value.int .u8 0, Value.int .u8 0] := rfl
theorem run_same_zero {d : List UInt8} (hd : d.length = 32) (w : World) : (Op.equalIn 10000 34 (.agg (bv d).toArray) (.agg #[Value.int .u8 0, Value.int .u8 0, Value.int .u8 0, Value.int .u8 0, Value.int .u8 0, Value.int .u8 0, Value.int .u8 0, Value.int .u8 0, Value.int .u8 0, Value.int .u8 0, Value.int .u8 0, Value.int .u8 0, Value.int .u8 0, Value.int .u8 0, Value.int .u8 0, Value.int .u8 0, Value.int .u8 0, Value.int .u8 0, Value.int .u8 0, Value.int .u8 0, Value.int .u8 0, Value.int .u8 0, Value.int .u8 0, Value.int .u8 0, Value.int .u8 0, Value.int .u8 0, Value.int .u8 0, Value.int .u8 0, Value.int .u8 0, Value.int .u8 0, Value.int .u8 0, Value.int .u8 0])).run Tryd.prog w = .ok (decide (d = Cm.zero32)) w := by
  rw [← zero_lit]
  exact run_equal_bytes (P := Tryd.prog) Tryd.underlying34 Tryd.underlying5 infoU81 hd Cm.zero32_length w

/-- A reference as a value. -/
def refV (r : Cm.Rf) : Value := .agg (refCells r).toArray
theorem refCells_len {r : Cm.Rf} (h : r.commit.length = 32) : (refCells r).length = 34 := by
  unfold refCells
  rw [List.length_cons, List.length_append, bv_length, h]; rfl
theorem refCells_0 (r : Cm.Rf) : (refCells r)[0]? = some (.bool r.own) := rfl
theorem refCells_dig {r : Cm.Rf} {j : Nat} {v : Value} (h : (bv r.commit)[j]? = some v) : (refCells r)[1 + j]? = some v := by
  unfold refCells
  rw [Nat.add_comm, List.getElem?_cons_succ, List.getElem?_append_left (List.getElem?_eq_some_iff.1 h).1, h]
theorem refCells_33 {r : Cm.Rf} (h : r.commit.length = 32) : (refCells r)[33]? = some (.int .i64 r.n) := by
  unfold refCells
  rw [List.getElem?_cons_succ, List.getElem?_append_right (by rw [bv_length]; omega), bv_length, h]; rfl

set_option maxRecDepth 100000 in
set_option maxHeartbeats 4000000 in
theorem rref_any (r : Cm.Rf) (w : World) (hd : r.commit.length = 32) (_hn : -9223372036854775808 ≤ r.n ∧ r.n ≤ 9223372036854775807) :
    Calls Tryd.prog 43 #[refV r] w (Ret (.int .i64 (Cm.refK r : Int)) w) := by
  unfold refV
  obtain ⟨X, hX⟩ : ∃ X, X = (refCells r).toArray := ⟨_, rfl⟩
  rw [← hX]
  obtain ⟨wa, hwa⟩ : ∃ y, y = w.alloc (.cells X 53) := ⟨_, rfl⟩
  have hB : Blk wa w.heap.size 53 X := by rw [hwa]; exact Blk.new w _ _
  have HBW := Lib.hid (show Below w.heap.size w wa by rw [hwa]; exact below_alloc w _)
  have c0 : wa.cell? ⟨w.heap.size, 0, none⟩ = some (.bool r.own) := by rw [hB.cell, hX, List.getElem?_toArray, refCells_0]
  have c33 : wa.cell? ⟨w.heap.size, 33, none⟩ = some (.int .i64 r.n) := by rw [hB.cell, hX, List.getElem?_toArray, refCells_33 hd]
  have HRG := Lib.hid (show wa.rangeAt w.heap.size 1 (bv r.commit) from fun j v hv => by rw [hB.cell, hX, List.getElem?_toArray, refCells_dig hv])
  have HLN := Lib.hid (show (Tryd.prog.info? 34).map (·.size) = some (bv r.commit).length by rw [bv_length, hd]; exact infoD32)
  have heq := run_same_zero hd
  replace hwa := hwa.symm
  have HK : Hid (Cm.refK r = if r.own = true then (if r.commit ≠ Cm.zero32 ∨ r.n < 1 then 3 else 1) else if 1 ≤ r.n ∧ r.n ≤ 2000 then 2 else if r.n = 0 ∧ r.commit = Cm.zero32 then 0 else 3) := Lib.hid rfl
  obtain ⟨k, hk⟩ : ∃ k, k = Cm.refK r := ⟨_, rfl⟩
  rw [← hk] at HK ⊢
  obtain ⟨D, hD⟩ : ∃ D, D = (bv r.commit).toArray := ⟨_, rfl⟩
  have HD := Lib.hid hD
  rw [← hD] at heq
  obtain ⟨own, cm, n⟩ := r
  simp only [] at HK c0 c33 HRG HLN heq HD
  clear hX hB hk hD hd _hn
  cases own with
  | true =>
    rw [if_pos rfl] at HK
    by_cases hz : cm = Cm.zero32
    · have hdz : decide (cm = Cm.zero32) = true := decide_eq_true hz
      rw [hdz] at heq
      by_cases hn1 : n < 1
      · have HK2 := Lib.hid HK.out
        rw [if_pos (.inr hn1)] at HK2
        have dn : decide (n < 1) = true := decide_eq_true hn1
        clear hz HK
        go_enter Tryd.func43, Tryd.ntmps43
        go_wp2_with (first | (refine at_lod 34 (.tmp 5) rfl ?_; go_must (refine wpList_load_mid rfl 34 (.tmp 5) rfl w.heap.size 1 rfl _ _ HRG.out Tryd.underlying34 rfl HLN.out ?_); rw [← HD.out]) | (refine at_lod 34 (.tmp 26) rfl ?_; go_must (refine wpList_load_mid_g (by rfl) 34 (.tmp 26) rfl w.heap.size 1 rfl _ _ HRG.out Tryd.underlying34 rfl HLN.out ?_); rw [← HD.out]))
        go_ret
        exact ⟨by rw [HK2.out]; rfl, HBW.out⟩
      · have HK2 := Lib.hid HK.out
        rw [if_neg (by intro h; rcases h with h | h; exact h hz; exact hn1 h)] at HK2
        have dn : decide (n < 1) = false := decide_eq_false hn1
        clear hz HK
        go_enter Tryd.func43, Tryd.ntmps43
        go_wp2_with (first | (refine at_lod 34 (.tmp 5) rfl ?_; go_must (refine wpList_load_mid rfl 34 (.tmp 5) rfl w.heap.size 1 rfl _ _ HRG.out Tryd.underlying34 rfl HLN.out ?_); rw [← HD.out]) | (refine at_lod 34 (.tmp 26) rfl ?_; go_must (refine wpList_load_mid_g (by rfl) 34 (.tmp 26) rfl w.heap.size 1 rfl _ _ HRG.out Tryd.underlying34 rfl HLN.out ?_); rw [← HD.out]))
        go_ret
        exact ⟨by rw [HK2.out]; rfl, HBW.out⟩
    · have hdz : decide (cm = Cm.zero32) = false := decide_eq_false hz
      rw [hdz] at heq
      have HK2 := Lib.hid HK.out
      rw [if_pos (.inl hz)] at HK2
      clear hz HK
      go_enter Tryd.func43, Tryd.ntmps43
      go_wp2_with (first | (refine at_lod 34 (.tmp 5) rfl ?_; go_must (refine wpList_load_mid rfl 34 (.tmp 5) rfl w.heap.size 1 rfl _ _ HRG.out Tryd.underlying34 rfl HLN.out ?_); rw [← HD.out]) | (refine at_lod 34 (.tmp 26) rfl ?_; go_must (refine wpList_load_mid_g (by rfl) 34 (.tmp 26) rfl w.heap.size 1 rfl _ _ HRG.out Tryd.underlying34 rfl HLN.out ?_); rw [← HD.out]))
      go_ret
      exact ⟨by rw [HK2.out]; rfl, HBW.out⟩
  | false =>
    rw [if_neg (by decide)] at HK
    by_cases h1 : 1 ≤ n
    · have d1 : decide (1 ≤ n) = true := decide_eq_true h1
      by_cases h2 : n ≤ 2000
      · have d2 : decide (n ≤ 2000) = true := decide_eq_true h2
        rw [if_pos ⟨h1, h2⟩] at HK
        have HK2 := Lib.hid HK.out
        clear HK
        go_enter Tryd.func43, Tryd.ntmps43
        go_wp2_with (first | (refine at_lod 34 (.tmp 5) rfl ?_; go_must (refine wpList_load_mid rfl 34 (.tmp 5) rfl w.heap.size 1 rfl _ _ HRG.out Tryd.underlying34 rfl HLN.out ?_); rw [← HD.out]) | (refine at_lod 34 (.tmp 26) rfl ?_; go_must (refine wpList_load_mid_g (by rfl) 34 (.tmp 26) rfl w.heap.size 1 rfl _ _ HRG.out Tryd.underlying34 rfl HLN.out ?_); rw [← HD.out]))
        go_ret
        exact ⟨by rw [HK2.out]; rfl, HBW.out⟩
      · have d2 : decide (n ≤ 2000) = false := decide_eq_false h2
        have d3 : (n == 0) = false := by rw [beq_eq_false_iff_ne]; omega
        rw [if_neg (by omega), if_neg (by omega)] at HK
        have HK2 := Lib.hid HK.out
        clear HK
        go_enter Tryd.func43, Tryd.ntmps43
        go_wp2_with (first | (refine at_lod 34 (.tmp 5) rfl ?_; go_must (refine wpList_load_mid rfl 34 (.tmp 5) rfl w.heap.size 1 rfl _ _ HRG.out Tryd.underlying34 rfl HLN.out ?_); rw [← HD.out]) | (refine at_lod 34 (.tmp 26) rfl ?_; go_must (refine wpList_load_mid_g (by rfl) 34 (.tmp 26) rfl w.heap.size 1 rfl _ _ HRG.out Tryd.underlying34 rfl HLN.out ?_); rw [← HD.out]))
        go_ret
        exact ⟨by rw [HK2.out]; rfl, HBW.out⟩
    · have d1 : decide (1 ≤ n) = false := decide_eq_false h1
      by_cases h0 : n = 0
      · subst h0
        by_cases hz : cm = Cm.zero32
        · have hdz : decide (cm = Cm.zero32) = true := decide_eq_true hz
          rw [hdz] at heq
          rw [if_neg (by omega), if_pos ⟨rfl, hz⟩] at HK
          have HK2 := Lib.hid HK.out
          clear HK hz
          go_enter Tryd.func43, Tryd.ntmps43
          go_wp2_with (first | (refine at_lod 34 (.tmp 5) rfl ?_; go_must (refine wpList_load_mid rfl 34 (.tmp 5) rfl w.heap.size 1 rfl _ _ HRG.out Tryd.underlying34 rfl HLN.out ?_); rw [← HD.out]) | (refine at_lod 34 (.tmp 26) rfl ?_; go_must (refine wpList_load_mid_g (by rfl) 34 (.tmp 26) rfl w.heap.size 1 rfl _ _ HRG.out Tryd.underlying34 rfl HLN.out ?_); rw [← HD.out]))
          go_ret
          exact ⟨by rw [HK2.out]; rfl, HBW.out⟩
        · have hdz : decide (cm = Cm.zero32) = false := decide_eq_false hz
          rw [hdz] at heq
          rw [if_neg (by omega), if_neg (fun h => hz h.2)] at HK
          have HK2 := Lib.hid HK.out
          clear HK hz
          go_enter Tryd.func43, Tryd.ntmps43
          go_wp2_with (first | (refine at_lod 34 (.tmp 5) rfl ?_; go_must (refine wpList_load_mid rfl 34 (.tmp 5) rfl w.heap.size 1 rfl _ _ HRG.out Tryd.underlying34 rfl HLN.out ?_); rw [← HD.out]) | (refine at_lod 34 (.tmp 26) rfl ?_; go_must (refine wpList_load_mid_g (by rfl) 34 (.tmp 26) rfl w.heap.size 1 rfl _ _ HRG.out Tryd.underlying34 rfl HLN.out ?_); rw [← HD.out]))
          go_ret
          exact ⟨by rw [HK2.out]; rfl, HBW.out⟩
      · have d3 : (n == 0) = false := by rw [beq_eq_false_iff_ne]; exact h0
        rw [if_neg (by omega), if_neg (fun h => h0 h.1)] at HK
        have HK2 := Lib.hid HK.out
        clear HK
        go_enter Tryd.func43, Tryd.ntmps43
        go_wp2_with (first | (refine at_lod 34 (.tmp 5) rfl ?_; go_must (refine wpList_load_mid rfl 34 (.tmp 5) rfl w.heap.size 1 rfl _ _ HRG.out Tryd.underlying34 rfl HLN.out ?_); rw [← HD.out]) | (refine at_lod 34 (.tmp 26) rfl ?_; go_must (refine wpList_load_mid_g (by rfl) 34 (.tmp 26) rfl w.heap.size 1 rfl _ _ HRG.out Tryd.underlying34 rfl HLN.out ?_); rw [← HD.out]))
        go_ret
        exact ⟨by rw [HK2.out]; rfl, HBW.out⟩
end Go.Proofs.YtjgegggcbjecbaaDoor
