/- The document's Right. -/
import Derived.Test.YtjgegggcbjecbaaDoorRRef
import Derived.Deep.WholeRow
namespace Go.Proofs.YtjgegggcbjecbaaDoor
open Go Go.RowKit

theorem infoR34 : (Tryd.prog.info? 53).map (·.size) = some 34 := by kernel_rfl
theorem infoO37 : (Tryd.prog.info? 55).map (·.size) = some 37 := by kernel_rfl
theorem opCells_0 (x : Cm.Op) : (opCells x)[0]? = some (.int .i64 x.kind) := rfl
theorem opCells_1 (x : Cm.Op) : (opCells x)[1]? = some (.bool x.left) := rfl
theorem opCells_ref {x : Cm.Op} {j : Nat} {v : Value} (h : (refCells x.at_)[j]? = some v) : (opCells x)[2 + j]? = some v := by
  unfold opCells
  rw [show 2 + j = j + 1 + 1 by omega, List.getElem?_cons_succ, List.getElem?_cons_succ, List.getElem?_append_left (List.getElem?_eq_some_iff.1 h).1, h]
theorem opCells_35 {x : Cm.Op} (h : x.at_.commit.length = 32) : (opCells x)[35]? = some (.int .i64 x.at_.n) := opCells_ref (j := 33) (refCells_33 h)
theorem opCells_36 {x : Cm.Op} (h : x.at_.commit.length = 32) : (opCells x)[36]? = some (.int .u8 (x.byte.toNat : Int)) := by
  unfold opCells
  rw [List.getElem?_cons_succ, List.getElem?_cons_succ, List.getElem?_append_right (by rw [refCells_len h]; omega), refCells_len h]
  rfl

theorem opCells_all (x : Cm.Op) : (opCells x).toArray.all (·.oneCell') = true := Array.all_eq_true_iff_forall_mem.2 (fun v hv => by
  have hv' : v ∈ opCells x := by simpa using hv
  unfold opCells refCells at hv'
  simp only [List.cons_append, List.mem_cons, List.append_assoc, List.mem_append, List.not_mem_nil, or_false] at hv'
  rcases hv' with rfl | rfl | rfl | hv' | rfl | hv'
  · rfl
  · rfl
  · rfl
  · exact bv_one _ v hv'
  · rfl
  · rcases hv' with hv' | rfl
    · exact hv'.elim
    · rfl)
theorem addr_zero (a : Addr) : a.add 0 = a := by unfold Addr.add; split <;> simp_all
/-- What an own reference finds. -/
theorem finds_own {L : List Cm.Op} {j : Nat} {x : Cm.Op} (hj : j < L.length) : (((j : Int) + 1 ≤ x.at_.n) → Cm.refK x.at_ = 1 → Cm.finds L ((j : Int) + 1) x = false) ∧ (Cm.refK x.at_ = 1 → x.at_.n < (j : Int) + 1 → ∃ y m, x.at_.n = ((m : Nat) : Int) + 1 ∧ m < j ∧ L[m]? = some y ∧ Cm.finds L ((j : Int) + 1) x = decide (y.kind = 1)) := by
  constructor
  · intro h hk
    unfold Cm.finds
    rw [hk, decide_eq_false (show ¬ x.at_.n < (j : Int) + 1 by omega)]
    rfl
  · intro hk h
    have hn := (Cm.refK_own hk).2.2
    obtain ⟨m, hm⟩ : ∃ m : Nat, x.at_.n = (m : Int) + 1 := ⟨(x.at_.n - 1).toNat, by omega⟩
    have hml : m < L.length := by omega
    refine ⟨L[m], m, hm, by omega, List.getElem?_eq_getElem hml, ?_⟩
    unfold Cm.finds
    rw [hk, hm, show ((m : Int) + 1 - 1).toNat = m by omega, List.getElem?_eq_getElem hml, decide_eq_true (show (m : Int) + 1 < (j : Int) + 1 by omega)]
    rfl

/-- An operation of a list that reads. -/
theorem Rd.op_at {w : World} {B : Nat} {A : Option Addr} {L : List Cm.Op} (hd : ∀ s ∈ L, dimOp s) (h : Rd w B A (L.length * 37) (rows opCells L)) {i : Nat} {x : Cm.Op} (hx : L[i]? = some x) :
    ∃ ad, A = some ad ∧ ad.block < B ∧ ∀ j v, (opCells x)[j]? = some v → w.cell? ((ad.add (i * 37)).add j) = some v := by
  have hi : i < L.length := (List.getElem?_eq_some_iff.1 hx).1
  obtain ⟨ad, hA, hB, hc⟩ := h.2 (by omega)
  have hra : ∀ (L : List Cm.Op), (∀ s ∈ L, dimOp s) → ∀ (i j : Nat) (x : Cm.Op), L[i]? = some x → j < 37 → (rows opCells L)[i * 37 + j]? = (opCells x)[j]? := by
    intro L
    induction L with
    | nil => intro _ i j x hx; cases hx
    | cons y L ih =>
      intro hy i j x hx hj
      have hyl := opCells_length (hy y (by simp))
      cases i with
      | zero =>
        obtain rfl : y = x := by simpa using hx
        unfold rows
        rw [List.flatMap_cons, Nat.zero_mul, Nat.zero_add, List.getElem?_append_left (by rw [hyl]; exact hj)]
      | succ i =>
        have ih' := ih (fun s hs => hy s (by simp [hs])) i j x (by simpa using hx) hj
        unfold rows at ih' ⊢
        rw [List.flatMap_cons, List.getElem?_append_right (by rw [hyl]; omega), hyl, show (i + 1) * 37 + j - 37 = i * 37 + j by omega]
        exact ih'
  refine ⟨ad, hA, hB, fun j v hv => ?_⟩
  have hj : j < 37 := by
    have := (List.getElem?_eq_some_iff.1 hv).1
    rwa [opCells_length (hd x (List.mem_of_getElem? hx))] at this
  rw [add_add']
  exact hc _ _ (by rw [hra L hd i j x hx hj, hv])

theorem right_at {L : List Cm.Op} {j : Nat} {x : Cm.Op} (hx : L[j]? = some x) : Cm.right L ((j : Int) + 1) = if Cm.opMay x = false then 1 else if Cm.finds L ((j : Int) + 1) x = false then 5 else 0 := by
  have hj : j < L.length := (List.getElem?_eq_some_iff.1 hx).1
  unfold Cm.right
  rw [if_neg (by omega), show ((j : Int) + 1 - 1).toNat = j by omega, hx]
theorem right_out {L : List Cm.Op} {i : Int} (h : i < 1 ∨ (L.length : Int) < i) : Cm.right L i = 9 := by unfold Cm.right; rw [if_pos h]

set_option maxRecDepth 100000 in
set_option maxHeartbeats 8000000 in
theorem rright_any (L : List Cm.Op) (A : Option Addr) (c : Nat) (i : Int) (w : World) (hR : Rd w w.heap.size A (L.length * 37) (rows opCells L)) (hD : ∀ s ∈ L, dimOp s) (_hc : L.length ≤ c ∧ c ≤ 9223372036854775807) (hi : -9223372036854775808 ≤ i ∧ i ≤ 9223372036854775807) :
    Calls Tryd.prog 42 #[.slice A L.length c, .int .i64 i] w (Ret (.int .i64 (Cm.right L i : Int)) w) := by
  by_cases h1 : i < 1
  · have HO := Lib.hid (right_out (L := L) (.inl h1))
    have d1 : decide (i < 1) = true := decide_eq_true h1
    go_enter Tryd.func42, Tryd.ntmps42
    go_wp2_with fail
    go_ret
    exact ⟨by rw [HO.out]; rfl, Below.refl _ _⟩
  have d1 : decide (i < 1) = false := decide_eq_false h1
  by_cases h2 : (L.length : Int) < i
  · have HO := Lib.hid (right_out (L := L) (.inr h2))
    have d2 : decide ((L.length : Int) < i) = true := decide_eq_true h2
    go_enter Tryd.func42, Tryd.ntmps42
    go_wp2_with fail
    go_ret
    exact ⟨by rw [HO.out]; rfl, Below.refl _ _⟩
  obtain ⟨j, rfl⟩ : ∃ j : Nat, i = (j : Int) + 1 := ⟨(i - 1).toNat, by omega⟩
  have hj : j < L.length := by omega
  obtain ⟨x, hx⟩ : ∃ x, L[j]? = some x := ⟨_, List.getElem?_eq_getElem hj⟩
  have HRT := Lib.hid (right_at hx)
  obtain ⟨ad, rfl, hadB, hcx⟩ := hR.op_at hD hx
  have HR := Lib.hid hR
  have HDM := Lib.hid hD
  obtain ⟨hxl, hxk, hxn⟩ := hD x (List.mem_of_getElem? hx)
  have d2 : decide ((L.length : Int) < (j : Int) + 1) = false := decide_eq_false h2
  have hw1 : IntKind.i64.wrap ((j : Int) + 1 - 1) = (j : Int) := by rw [IntWalk.i64_in _ (by omega)]; omega
  have hjI : (j : Int) < (L.length : Int) := by omega
  obtain ⟨wa, hwa⟩ : ∃ y, y = w.alloc (.cells (opCells x).toArray 55) := ⟨_, rfl⟩
  have hB : Blk wa w.heap.size 55 (opCells x).toArray := by rw [hwa]; exact Blk.new w _ _
  have HAL := Lib.hid (show Below w.heap.size w wa by rw [hwa]; exact below_alloc w _)
  have HRG := Lib.hid (show wa.rangeAt w.heap.size 2 (refCells x.at_) from fun j v hv => by rw [hB.cell, List.getElem?_toArray, opCells_ref hv])
  have HLN := Lib.hid (show (Tryd.prog.info? 53).map (·.size) = some (refCells x.at_).length by rw [refCells_len hxl]; exact infoR34)
  have HLX := Lib.hid (show (Tryd.prog.info? 55).map (·.size) = some (opCells x).length by rw [opCells_length ⟨hxl, hxk, hxn⟩]; exact infoO37)
  have HCX := Lib.hid hcx
  have HRF := Lib.hid (rref_any x.at_ wa hxl hxn)
  unfold refV at HRF
  have HB := Lib.hid hB
  replace hwa := hwa.symm
  clear hcx hB
  have HX0 := Lib.hid (show (opCells x).toArray[0]? = some (.int .i64 x.kind) by rw [List.getElem?_toArray, opCells_0])
  have HX1 := Lib.hid (show (opCells x).toArray[1]? = some (.bool x.left) by rw [List.getElem?_toArray, opCells_1])
  have HX35 := Lib.hid (show (opCells x).toArray[35]? = some (.int .i64 x.at_.n) by rw [List.getElem?_toArray, opCells_35 hxl])
  have HX36 := Lib.hid (show (opCells x).toArray[36]? = some (.int .u8 (x.byte.toNat : Int)) by rw [List.getElem?_toArray, opCells_36 hxl])
  have HXS := Lib.hid (show (opCells x).toArray.size = 37 by rw [List.size_toArray, opCells_length ⟨hxl, hxk, hxn⟩])
  have HXI := Lib.hid (show (Tryd.prog.info? 55).map (·.size) = some (opCells x).toArray.size by rw [HXS.out]; exact infoO37)
  have HXA := Lib.hid (opCells_all x)
  have HFI := Lib.hid (finds_own (L := L) (j := j) (x := x) hj)
  obtain ⟨X, hX⟩ : ∃ X, X = (opCells x).toArray := ⟨_, rfl⟩
  have HCX2 := Lib.hid hX
  rw [← hX] at HX0 HX1 HX35 HX36 HXS HXI HXA HB hwa
  obtain ⟨kd, lf, r, by_⟩ := x
  obtain ⟨own, cm, n⟩ := r
  obtain ⟨r, hr⟩ : ∃ r, r = (⟨own, cm, n⟩ : Cm.Rf) := ⟨_, rfl⟩
  have hrn : r.n = n := by rw [hr]
  rw [← hr] at HRG HLN HRF HRT HFI HCX HLX HCX2
  simp only [] at HRG HLN HRF HRT HFI HX0 HX1 HX35 HX36 hxl hxk hxn
  rw [hrn] at HFI
  have HKC := Lib.hid (Cm.refK_cases r)
  have HOWN := Lib.hid (fun h => (Cm.refK_own (r := r) h).2.2)
  rw [hrn] at HOWN
  clear hr hX hrn
  rcases HKC.out with hk | hk | hk | hk
  · have HK := Lib.hid hk
    rw [hk] at HRF
    clear hk HKC HOWN
    by_cases h1 : kd = 1
    · subst h1
      cases lf with
      | true =>
        have hm : Cm.opMay ⟨1, true, r, by_⟩ = false := by unfold Cm.opMay; simp only []; rw [HK.out]; simp []
        rw [if_pos hm] at HRT
        clear hm
        clear HK HFI
        go_enter Tryd.func42, Tryd.ntmps42
        go_wp2_with (first | (refine at_lod 55 (.tmp 20) rfl ?_; go_must (refine wpList_load_any (by rfl) 55 (.tmp 20) rfl _ rfl _ _ HCX.out Tryd.underlying55 rfl HLX.out ?_); rw [← HCX2.out]) | (refine at_sto 55 (.tmp 5) (.tmp 21) rfl ?_; go_must (refine wpList_store_row rfl 55 (.tmp 5) (.tmp 21) rfl w.heap.size X rfl rfl 55 _ (heap_alloc_new w _) HXI.out (by rw [HXS.out]; rfl) HXA.out ?_); rw [World.setRow_alloc_new]) | (refine at_lod 53 (.tmp 22) rfl ?_; go_must (refine wpList_load_mid rfl 53 (.tmp 22) rfl w.heap.size 2 rfl _ _ HRG.out Tryd.underlying53 rfl HLN.out ?_)))
        refine HRF.out.mono ?_; rintro e w1 ⟨rfl, hb1⟩
        have hB1 := HB.out.later hb1
        have c0 := (hB1.cell 0).trans HX0.out
        have c1 := (hB1.cell 1).trans HX1.out
        have c35 := (hB1.cell 35).trans HX35.out
        have c36 := (hB1.cell 36).trans HX36.out
        have HB1 := Lib.hid (HAL.out.trans (hb1.mono HAL.out.size))
        clear hb1 hB1 hwa
        go_wp2_with fail
        go_ret
        exact ⟨by rw [HRT.out]; rfl, HB1.out⟩
      | false =>
        have hm : Cm.opMay ⟨1, false, r, by_⟩ = true := by unfold Cm.opMay; simp only []; rw [HK.out]; simp []
        rw [if_neg (by rw [hm]; decide)] at HRT
        clear hm
        rw [if_neg (by rw [show Cm.finds L ((j : Int) + 1) ⟨1, false, r, by_⟩ = true by unfold Cm.finds; simp only []; rw [HK.out]; rfl]; decide)] at HRT
        clear HK HFI
        go_enter Tryd.func42, Tryd.ntmps42
        go_wp2_with (first | (refine at_lod 55 (.tmp 20) rfl ?_; go_must (refine wpList_load_any (by rfl) 55 (.tmp 20) rfl _ rfl _ _ HCX.out Tryd.underlying55 rfl HLX.out ?_); rw [← HCX2.out]) | (refine at_sto 55 (.tmp 5) (.tmp 21) rfl ?_; go_must (refine wpList_store_row rfl 55 (.tmp 5) (.tmp 21) rfl w.heap.size X rfl rfl 55 _ (heap_alloc_new w _) HXI.out (by rw [HXS.out]; rfl) HXA.out ?_); rw [World.setRow_alloc_new]) | (refine at_lod 53 (.tmp 22) rfl ?_; go_must (refine wpList_load_mid rfl 53 (.tmp 22) rfl w.heap.size 2 rfl _ _ HRG.out Tryd.underlying53 rfl HLN.out ?_)))
        refine HRF.out.mono ?_; rintro e w1 ⟨rfl, hb1⟩
        have hB1 := HB.out.later hb1
        have c0 := (hB1.cell 0).trans HX0.out
        have c1 := (hB1.cell 1).trans HX1.out
        have c35 := (hB1.cell 35).trans HX35.out
        have c36 := (hB1.cell 36).trans HX36.out
        have HB1 := Lib.hid (HAL.out.trans (hb1.mono HAL.out.size))
        clear hb1 hB1 hwa
        go_wp2_with fail
        go_ret
        exact ⟨by rw [HRT.out]; rfl, HB1.out⟩
    · have e1 : (kd == 1) = false := by rw [beq_eq_false_iff_ne]; exact h1
      by_cases h2 : kd = 2
      · subst h2
        have hm : Cm.opMay ⟨2, lf, r, by_⟩ = false := by unfold Cm.opMay; simp only []; rw [HK.out]; simp []
        rw [if_pos hm] at HRT
        clear hm
        clear HK HFI
        go_enter Tryd.func42, Tryd.ntmps42
        go_wp2_with (first | (refine at_lod 55 (.tmp 20) rfl ?_; go_must (refine wpList_load_any (by rfl) 55 (.tmp 20) rfl _ rfl _ _ HCX.out Tryd.underlying55 rfl HLX.out ?_); rw [← HCX2.out]) | (refine at_sto 55 (.tmp 5) (.tmp 21) rfl ?_; go_must (refine wpList_store_row rfl 55 (.tmp 5) (.tmp 21) rfl w.heap.size X rfl rfl 55 _ (heap_alloc_new w _) HXI.out (by rw [HXS.out]; rfl) HXA.out ?_); rw [World.setRow_alloc_new]) | (refine at_lod 53 (.tmp 22) rfl ?_; go_must (refine wpList_load_mid rfl 53 (.tmp 22) rfl w.heap.size 2 rfl _ _ HRG.out Tryd.underlying53 rfl HLN.out ?_)))
        refine HRF.out.mono ?_; rintro e w1 ⟨rfl, hb1⟩
        have hB1 := HB.out.later hb1
        have c0 := (hB1.cell 0).trans HX0.out
        have c1 := (hB1.cell 1).trans HX1.out
        have c35 := (hB1.cell 35).trans HX35.out
        have c36 := (hB1.cell 36).trans HX36.out
        have HB1 := Lib.hid (HAL.out.trans (hb1.mono HAL.out.size))
        clear hb1 hB1 hwa
        go_wp2_with fail
        go_ret
        exact ⟨by rw [HRT.out]; rfl, HB1.out⟩
      · have e2 : (kd == 2) = false := by rw [beq_eq_false_iff_ne]; exact h2
        have hm : Cm.opMay ⟨kd, lf, r, by_⟩ = false := by unfold Cm.opMay; simp only []; rw [HK.out]; simp [h1, h2]
        rw [if_pos hm] at HRT
        clear hm
        clear HK HFI
        go_enter Tryd.func42, Tryd.ntmps42
        go_wp2_with (first | (refine at_lod 55 (.tmp 20) rfl ?_; go_must (refine wpList_load_any (by rfl) 55 (.tmp 20) rfl _ rfl _ _ HCX.out Tryd.underlying55 rfl HLX.out ?_); rw [← HCX2.out]) | (refine at_sto 55 (.tmp 5) (.tmp 21) rfl ?_; go_must (refine wpList_store_row rfl 55 (.tmp 5) (.tmp 21) rfl w.heap.size X rfl rfl 55 _ (heap_alloc_new w _) HXI.out (by rw [HXS.out]; rfl) HXA.out ?_); rw [World.setRow_alloc_new]) | (refine at_lod 53 (.tmp 22) rfl ?_; go_must (refine wpList_load_mid rfl 53 (.tmp 22) rfl w.heap.size 2 rfl _ _ HRG.out Tryd.underlying53 rfl HLN.out ?_)))
        refine HRF.out.mono ?_; rintro e w1 ⟨rfl, hb1⟩
        have hB1 := HB.out.later hb1
        have c0 := (hB1.cell 0).trans HX0.out
        have c1 := (hB1.cell 1).trans HX1.out
        have c35 := (hB1.cell 35).trans HX35.out
        have c36 := (hB1.cell 36).trans HX36.out
        have HB1 := Lib.hid (HAL.out.trans (hb1.mono HAL.out.size))
        clear hb1 hB1 hwa
        go_wp2_with fail
        go_ret
        exact ⟨by rw [HRT.out]; rfl, HB1.out⟩
  · have HK := Lib.hid hk
    rw [hk] at HRF
    have hn1 := HOWN.out hk
    clear hk HKC HOWN
    by_cases h1 : kd = 1
    · subst h1
      have hm : Cm.opMay ⟨1, lf, r, by_⟩ = true := by unfold Cm.opMay; simp only []; rw [HK.out]; simp []
      rw [if_neg (by rw [hm]; decide)] at HRT
      clear hm
      by_cases hni : (j : Int) + 1 ≤ n
      · have dn : decide ((j : Int) + 1 ≤ n) = true := decide_eq_true hni
        rw [if_pos (HFI.out.1 hni HK.out)] at HRT
        clear HK HFI hni
        go_enter Tryd.func42, Tryd.ntmps42
        go_wp2_with (first | (refine at_lod 55 (.tmp 20) rfl ?_; go_must (refine wpList_load_any (by rfl) 55 (.tmp 20) rfl _ rfl _ _ HCX.out Tryd.underlying55 rfl HLX.out ?_); rw [← HCX2.out]) | (refine at_sto 55 (.tmp 5) (.tmp 21) rfl ?_; go_must (refine wpList_store_row rfl 55 (.tmp 5) (.tmp 21) rfl w.heap.size X rfl rfl 55 _ (heap_alloc_new w _) HXI.out (by rw [HXS.out]; rfl) HXA.out ?_); rw [World.setRow_alloc_new]) | (refine at_lod 53 (.tmp 22) rfl ?_; go_must (refine wpList_load_mid rfl 53 (.tmp 22) rfl w.heap.size 2 rfl _ _ HRG.out Tryd.underlying53 rfl HLN.out ?_)))
        refine HRF.out.mono ?_; rintro e w1 ⟨rfl, hb1⟩
        have hB1 := HB.out.later hb1
        have c0 := (hB1.cell 0).trans HX0.out
        have c1 := (hB1.cell 1).trans HX1.out
        have c35 := (hB1.cell 35).trans HX35.out
        have c36 := (hB1.cell 36).trans HX36.out
        have HB1 := Lib.hid (HAL.out.trans (hb1.mono HAL.out.size))
        clear hb1 hB1 hwa
        go_wp2_with fail
        go_ret
        exact ⟨by rw [HRT.out]; rfl, HB1.out⟩
      · have dn : decide ((j : Int) + 1 ≤ n) = false := decide_eq_false hni
        obtain ⟨y, m, hm1, hmj, hy, hfy⟩ := HFI.out.2 HK.out (by omega)
        obtain ⟨ad', hA', hadB', hcy⟩ := HR.out.op_at HDM.out hy
        cases hA'
        subst hm1
        have HY := Lib.hid ((addr_zero (ad.add (m * 37)) ▸ hcy 0 _ (opCells_0 y) : w.cell? (ad.add (m * 37)) = some (.int .i64 y.kind)))
        have HYB := Lib.hid (show (ad.add (m * 37)).block < w.heap.size by rw [block_add]; exact hadB')
        have hw2 : IntKind.i64.wrap ((m : Int) + 1 - 1) = (m : Int) := by rw [IntWalk.i64_in _ (by omega)]; omega
        have hmI : (m : Int) < (L.length : Int) := by omega
        by_cases hky : y.kind = 1
        · have dy : (y.kind != 1) = false := by rw [hky]; rfl
          rw [if_neg (by rw [hfy, hky]; decide)] at HRT
          rw [hky] at HY
          clear HK HFI hni hfy hcy hy hky dy
          go_enter Tryd.func42, Tryd.ntmps42
          go_wp2_with (first | (refine at_lod 55 (.tmp 20) rfl ?_; go_must (refine wpList_load_any (by rfl) 55 (.tmp 20) rfl _ rfl _ _ HCX.out Tryd.underlying55 rfl HLX.out ?_); rw [← HCX2.out]) | (refine at_sto 55 (.tmp 5) (.tmp 21) rfl ?_; go_must (refine wpList_store_row rfl 55 (.tmp 5) (.tmp 21) rfl w.heap.size X rfl rfl 55 _ (heap_alloc_new w _) HXI.out (by rw [HXS.out]; rfl) HXA.out ?_); rw [World.setRow_alloc_new]) | (refine at_lod 53 (.tmp 22) rfl ?_; go_must (refine wpList_load_mid rfl 53 (.tmp 22) rfl w.heap.size 2 rfl _ _ HRG.out Tryd.underlying53 rfl HLN.out ?_)))
          refine HRF.out.mono ?_; rintro e w1 ⟨rfl, hb1⟩
          have hB1 := HB.out.later hb1
          have c0 := (hB1.cell 0).trans HX0.out
          have c1 := (hB1.cell 1).trans HX1.out
          have c35 := (hB1.cell 35).trans HX35.out
          have c36 := (hB1.cell 36).trans HX36.out
          have HB1 := Lib.hid (HAL.out.trans (hb1.mono HAL.out.size))
          have cy1 := (HB1.out.cell HYB.out).trans HY.out
          clear hb1 hB1 hwa
          go_wp2_with fail
          go_ret
          exact ⟨by rw [HRT.out]; rfl, HB1.out⟩
        · have dy : (y.kind != 1) = true := by rw [bne_iff_ne]; exact hky
          rw [if_pos (by rw [hfy]; exact decide_eq_false hky)] at HRT
          clear HK HFI hni hfy hcy hy
          go_enter Tryd.func42, Tryd.ntmps42
          go_wp2_with (first | (refine at_lod 55 (.tmp 20) rfl ?_; go_must (refine wpList_load_any (by rfl) 55 (.tmp 20) rfl _ rfl _ _ HCX.out Tryd.underlying55 rfl HLX.out ?_); rw [← HCX2.out]) | (refine at_sto 55 (.tmp 5) (.tmp 21) rfl ?_; go_must (refine wpList_store_row rfl 55 (.tmp 5) (.tmp 21) rfl w.heap.size X rfl rfl 55 _ (heap_alloc_new w _) HXI.out (by rw [HXS.out]; rfl) HXA.out ?_); rw [World.setRow_alloc_new]) | (refine at_lod 53 (.tmp 22) rfl ?_; go_must (refine wpList_load_mid rfl 53 (.tmp 22) rfl w.heap.size 2 rfl _ _ HRG.out Tryd.underlying53 rfl HLN.out ?_)))
          refine HRF.out.mono ?_; rintro e w1 ⟨rfl, hb1⟩
          have hB1 := HB.out.later hb1
          have c0 := (hB1.cell 0).trans HX0.out
          have c1 := (hB1.cell 1).trans HX1.out
          have c35 := (hB1.cell 35).trans HX35.out
          have c36 := (hB1.cell 36).trans HX36.out
          have HB1 := Lib.hid (HAL.out.trans (hb1.mono HAL.out.size))
          have cy1 := (HB1.out.cell HYB.out).trans HY.out
          clear hb1 hB1 hwa
          go_wp2_with fail
          go_ret
          exact ⟨by rw [HRT.out]; rfl, HB1.out⟩
    · have e1 : (kd == 1) = false := by rw [beq_eq_false_iff_ne]; exact h1
      by_cases h2 : kd = 2
      · subst h2
        cases lf with
        | true =>
          have hm : Cm.opMay ⟨2, true, r, by_⟩ = false := by unfold Cm.opMay; simp only []; rw [HK.out]; simp []
          rw [if_pos hm] at HRT
          clear hm
          clear HK HFI
          go_enter Tryd.func42, Tryd.ntmps42
          go_wp2_with (first | (refine at_lod 55 (.tmp 20) rfl ?_; go_must (refine wpList_load_any (by rfl) 55 (.tmp 20) rfl _ rfl _ _ HCX.out Tryd.underlying55 rfl HLX.out ?_); rw [← HCX2.out]) | (refine at_sto 55 (.tmp 5) (.tmp 21) rfl ?_; go_must (refine wpList_store_row rfl 55 (.tmp 5) (.tmp 21) rfl w.heap.size X rfl rfl 55 _ (heap_alloc_new w _) HXI.out (by rw [HXS.out]; rfl) HXA.out ?_); rw [World.setRow_alloc_new]) | (refine at_lod 53 (.tmp 22) rfl ?_; go_must (refine wpList_load_mid rfl 53 (.tmp 22) rfl w.heap.size 2 rfl _ _ HRG.out Tryd.underlying53 rfl HLN.out ?_)))
          refine HRF.out.mono ?_; rintro e w1 ⟨rfl, hb1⟩
          have hB1 := HB.out.later hb1
          have c0 := (hB1.cell 0).trans HX0.out
          have c1 := (hB1.cell 1).trans HX1.out
          have c35 := (hB1.cell 35).trans HX35.out
          have c36 := (hB1.cell 36).trans HX36.out
          have HB1 := Lib.hid (HAL.out.trans (hb1.mono HAL.out.size))
          clear hb1 hB1 hwa
          go_wp2_with fail
          go_ret
          exact ⟨by rw [HRT.out]; rfl, HB1.out⟩
        | false =>
          by_cases hb : by_ = 0
          · subst hb
            have hm : Cm.opMay ⟨2, false, r, 0⟩ = true := by unfold Cm.opMay; simp only []; rw [HK.out]; simp []
            rw [if_neg (by rw [hm]; decide)] at HRT
            clear hm
            by_cases hni : (j : Int) + 1 ≤ n
            · have dn : decide ((j : Int) + 1 ≤ n) = true := decide_eq_true hni
              rw [if_pos (HFI.out.1 hni HK.out)] at HRT
              clear HK HFI hni
              go_enter Tryd.func42, Tryd.ntmps42
              go_wp2_with (first | (refine at_lod 55 (.tmp 20) rfl ?_; go_must (refine wpList_load_any (by rfl) 55 (.tmp 20) rfl _ rfl _ _ HCX.out Tryd.underlying55 rfl HLX.out ?_); rw [← HCX2.out]) | (refine at_sto 55 (.tmp 5) (.tmp 21) rfl ?_; go_must (refine wpList_store_row rfl 55 (.tmp 5) (.tmp 21) rfl w.heap.size X rfl rfl 55 _ (heap_alloc_new w _) HXI.out (by rw [HXS.out]; rfl) HXA.out ?_); rw [World.setRow_alloc_new]) | (refine at_lod 53 (.tmp 22) rfl ?_; go_must (refine wpList_load_mid rfl 53 (.tmp 22) rfl w.heap.size 2 rfl _ _ HRG.out Tryd.underlying53 rfl HLN.out ?_)))
              refine HRF.out.mono ?_; rintro e w1 ⟨rfl, hb1⟩
              have hB1 := HB.out.later hb1
              have c0 := (hB1.cell 0).trans HX0.out
              have c1 := (hB1.cell 1).trans HX1.out
              have c35 := (hB1.cell 35).trans HX35.out
              have c36 := (hB1.cell 36).trans HX36.out
              have HB1 := Lib.hid (HAL.out.trans (hb1.mono HAL.out.size))
              clear hb1 hB1 hwa
              go_wp2_with fail
              go_ret
              exact ⟨by rw [HRT.out]; rfl, HB1.out⟩
            · have dn : decide ((j : Int) + 1 ≤ n) = false := decide_eq_false hni
              obtain ⟨y, m, hm1, hmj, hy, hfy⟩ := HFI.out.2 HK.out (by omega)
              obtain ⟨ad', hA', hadB', hcy⟩ := HR.out.op_at HDM.out hy
              cases hA'
              subst hm1
              have HY := Lib.hid ((addr_zero (ad.add (m * 37)) ▸ hcy 0 _ (opCells_0 y) : w.cell? (ad.add (m * 37)) = some (.int .i64 y.kind)))
              have HYB := Lib.hid (show (ad.add (m * 37)).block < w.heap.size by rw [block_add]; exact hadB')
              have hw2 : IntKind.i64.wrap ((m : Int) + 1 - 1) = (m : Int) := by rw [IntWalk.i64_in _ (by omega)]; omega
              have hmI : (m : Int) < (L.length : Int) := by omega
              by_cases hky : y.kind = 1
              · have dy : (y.kind != 1) = false := by rw [hky]; rfl
                rw [if_neg (by rw [hfy, hky]; decide)] at HRT
                rw [hky] at HY
                clear HK HFI hni hfy hcy hy hky dy
                go_enter Tryd.func42, Tryd.ntmps42
                go_wp2_with (first | (refine at_lod 55 (.tmp 20) rfl ?_; go_must (refine wpList_load_any (by rfl) 55 (.tmp 20) rfl _ rfl _ _ HCX.out Tryd.underlying55 rfl HLX.out ?_); rw [← HCX2.out]) | (refine at_sto 55 (.tmp 5) (.tmp 21) rfl ?_; go_must (refine wpList_store_row rfl 55 (.tmp 5) (.tmp 21) rfl w.heap.size X rfl rfl 55 _ (heap_alloc_new w _) HXI.out (by rw [HXS.out]; rfl) HXA.out ?_); rw [World.setRow_alloc_new]) | (refine at_lod 53 (.tmp 22) rfl ?_; go_must (refine wpList_load_mid rfl 53 (.tmp 22) rfl w.heap.size 2 rfl _ _ HRG.out Tryd.underlying53 rfl HLN.out ?_)))
                refine HRF.out.mono ?_; rintro e w1 ⟨rfl, hb1⟩
                have hB1 := HB.out.later hb1
                have c0 := (hB1.cell 0).trans HX0.out
                have c1 := (hB1.cell 1).trans HX1.out
                have c35 := (hB1.cell 35).trans HX35.out
                have c36 := (hB1.cell 36).trans HX36.out
                have HB1 := Lib.hid (HAL.out.trans (hb1.mono HAL.out.size))
                have cy1 := (HB1.out.cell HYB.out).trans HY.out
                clear hb1 hB1 hwa
                go_wp2_with fail
                go_ret
                exact ⟨by rw [HRT.out]; rfl, HB1.out⟩
              · have dy : (y.kind != 1) = true := by rw [bne_iff_ne]; exact hky
                rw [if_pos (by rw [hfy]; exact decide_eq_false hky)] at HRT
                clear HK HFI hni hfy hcy hy
                go_enter Tryd.func42, Tryd.ntmps42
                go_wp2_with (first | (refine at_lod 55 (.tmp 20) rfl ?_; go_must (refine wpList_load_any (by rfl) 55 (.tmp 20) rfl _ rfl _ _ HCX.out Tryd.underlying55 rfl HLX.out ?_); rw [← HCX2.out]) | (refine at_sto 55 (.tmp 5) (.tmp 21) rfl ?_; go_must (refine wpList_store_row rfl 55 (.tmp 5) (.tmp 21) rfl w.heap.size X rfl rfl 55 _ (heap_alloc_new w _) HXI.out (by rw [HXS.out]; rfl) HXA.out ?_); rw [World.setRow_alloc_new]) | (refine at_lod 53 (.tmp 22) rfl ?_; go_must (refine wpList_load_mid rfl 53 (.tmp 22) rfl w.heap.size 2 rfl _ _ HRG.out Tryd.underlying53 rfl HLN.out ?_)))
                refine HRF.out.mono ?_; rintro e w1 ⟨rfl, hb1⟩
                have hB1 := HB.out.later hb1
                have c0 := (hB1.cell 0).trans HX0.out
                have c1 := (hB1.cell 1).trans HX1.out
                have c35 := (hB1.cell 35).trans HX35.out
                have c36 := (hB1.cell 36).trans HX36.out
                have HB1 := Lib.hid (HAL.out.trans (hb1.mono HAL.out.size))
                have cy1 := (HB1.out.cell HYB.out).trans HY.out
                clear hb1 hB1 hwa
                go_wp2_with fail
                go_ret
                exact ⟨by rw [HRT.out]; rfl, HB1.out⟩
          · have eb : ((by_.toNat : Int) == 0) = false := by rw [beq_eq_false_iff_ne]; exact fun h => hb (UInt8.toNat_inj.1 (by simpa using h))
            have eb2 : ¬ by_.toNat = 0 := fun h => hb (UInt8.toNat_inj.1 (by simpa using h))
            have hm : Cm.opMay ⟨2, false, r, by_⟩ = false := by unfold Cm.opMay; simp only []; rw [HK.out]; simp [hb]
            rw [if_pos hm] at HRT
            clear hm
            clear HK HFI
            go_enter Tryd.func42, Tryd.ntmps42
            go_wp2_with (first | (refine at_lod 55 (.tmp 20) rfl ?_; go_must (refine wpList_load_any (by rfl) 55 (.tmp 20) rfl _ rfl _ _ HCX.out Tryd.underlying55 rfl HLX.out ?_); rw [← HCX2.out]) | (refine at_sto 55 (.tmp 5) (.tmp 21) rfl ?_; go_must (refine wpList_store_row rfl 55 (.tmp 5) (.tmp 21) rfl w.heap.size X rfl rfl 55 _ (heap_alloc_new w _) HXI.out (by rw [HXS.out]; rfl) HXA.out ?_); rw [World.setRow_alloc_new]) | (refine at_lod 53 (.tmp 22) rfl ?_; go_must (refine wpList_load_mid rfl 53 (.tmp 22) rfl w.heap.size 2 rfl _ _ HRG.out Tryd.underlying53 rfl HLN.out ?_)))
            refine HRF.out.mono ?_; rintro e w1 ⟨rfl, hb1⟩
            have hB1 := HB.out.later hb1
            have c0 := (hB1.cell 0).trans HX0.out
            have c1 := (hB1.cell 1).trans HX1.out
            have c35 := (hB1.cell 35).trans HX35.out
            have c36 := (hB1.cell 36).trans HX36.out
            have HB1 := Lib.hid (HAL.out.trans (hb1.mono HAL.out.size))
            clear hb1 hB1 hwa
            go_wp2_with fail
            go_ret
            exact ⟨by rw [HRT.out]; rfl, HB1.out⟩
      · have e2 : (kd == 2) = false := by rw [beq_eq_false_iff_ne]; exact h2
        have hm : Cm.opMay ⟨kd, lf, r, by_⟩ = false := by unfold Cm.opMay; simp only []; rw [HK.out]; simp [h1, h2]
        rw [if_pos hm] at HRT
        clear hm
        clear HK HFI
        go_enter Tryd.func42, Tryd.ntmps42
        go_wp2_with (first | (refine at_lod 55 (.tmp 20) rfl ?_; go_must (refine wpList_load_any (by rfl) 55 (.tmp 20) rfl _ rfl _ _ HCX.out Tryd.underlying55 rfl HLX.out ?_); rw [← HCX2.out]) | (refine at_sto 55 (.tmp 5) (.tmp 21) rfl ?_; go_must (refine wpList_store_row rfl 55 (.tmp 5) (.tmp 21) rfl w.heap.size X rfl rfl 55 _ (heap_alloc_new w _) HXI.out (by rw [HXS.out]; rfl) HXA.out ?_); rw [World.setRow_alloc_new]) | (refine at_lod 53 (.tmp 22) rfl ?_; go_must (refine wpList_load_mid rfl 53 (.tmp 22) rfl w.heap.size 2 rfl _ _ HRG.out Tryd.underlying53 rfl HLN.out ?_)))
        refine HRF.out.mono ?_; rintro e w1 ⟨rfl, hb1⟩
        have hB1 := HB.out.later hb1
        have c0 := (hB1.cell 0).trans HX0.out
        have c1 := (hB1.cell 1).trans HX1.out
        have c35 := (hB1.cell 35).trans HX35.out
        have c36 := (hB1.cell 36).trans HX36.out
        have HB1 := Lib.hid (HAL.out.trans (hb1.mono HAL.out.size))
        clear hb1 hB1 hwa
        go_wp2_with fail
        go_ret
        exact ⟨by rw [HRT.out]; rfl, HB1.out⟩
  · have HK := Lib.hid hk
    rw [hk] at HRF
    clear hk HKC HOWN
    by_cases h1 : kd = 1
    · subst h1
      have hm : Cm.opMay ⟨1, lf, r, by_⟩ = true := by unfold Cm.opMay; simp only []; rw [HK.out]; simp []
      rw [if_neg (by rw [hm]; decide)] at HRT
      clear hm
      rw [if_neg (by rw [show Cm.finds L ((j : Int) + 1) ⟨1, lf, r, by_⟩ = true by unfold Cm.finds; simp only []; rw [HK.out]; rfl]; decide)] at HRT
      clear HK HFI
      go_enter Tryd.func42, Tryd.ntmps42
      go_wp2_with (first | (refine at_lod 55 (.tmp 20) rfl ?_; go_must (refine wpList_load_any (by rfl) 55 (.tmp 20) rfl _ rfl _ _ HCX.out Tryd.underlying55 rfl HLX.out ?_); rw [← HCX2.out]) | (refine at_sto 55 (.tmp 5) (.tmp 21) rfl ?_; go_must (refine wpList_store_row rfl 55 (.tmp 5) (.tmp 21) rfl w.heap.size X rfl rfl 55 _ (heap_alloc_new w _) HXI.out (by rw [HXS.out]; rfl) HXA.out ?_); rw [World.setRow_alloc_new]) | (refine at_lod 53 (.tmp 22) rfl ?_; go_must (refine wpList_load_mid rfl 53 (.tmp 22) rfl w.heap.size 2 rfl _ _ HRG.out Tryd.underlying53 rfl HLN.out ?_)))
      refine HRF.out.mono ?_; rintro e w1 ⟨rfl, hb1⟩
      have hB1 := HB.out.later hb1
      have c0 := (hB1.cell 0).trans HX0.out
      have c1 := (hB1.cell 1).trans HX1.out
      have c35 := (hB1.cell 35).trans HX35.out
      have c36 := (hB1.cell 36).trans HX36.out
      have HB1 := Lib.hid (HAL.out.trans (hb1.mono HAL.out.size))
      clear hb1 hB1 hwa
      go_wp2_with fail
      go_ret
      exact ⟨by rw [HRT.out]; rfl, HB1.out⟩
    · have e1 : (kd == 1) = false := by rw [beq_eq_false_iff_ne]; exact h1
      by_cases h2 : kd = 2
      · subst h2
        cases lf with
        | true =>
          have hm : Cm.opMay ⟨2, true, r, by_⟩ = false := by unfold Cm.opMay; simp only []; rw [HK.out]; simp []
          rw [if_pos hm] at HRT
          clear hm
          clear HK HFI
          go_enter Tryd.func42, Tryd.ntmps42
          go_wp2_with (first | (refine at_lod 55 (.tmp 20) rfl ?_; go_must (refine wpList_load_any (by rfl) 55 (.tmp 20) rfl _ rfl _ _ HCX.out Tryd.underlying55 rfl HLX.out ?_); rw [← HCX2.out]) | (refine at_sto 55 (.tmp 5) (.tmp 21) rfl ?_; go_must (refine wpList_store_row rfl 55 (.tmp 5) (.tmp 21) rfl w.heap.size X rfl rfl 55 _ (heap_alloc_new w _) HXI.out (by rw [HXS.out]; rfl) HXA.out ?_); rw [World.setRow_alloc_new]) | (refine at_lod 53 (.tmp 22) rfl ?_; go_must (refine wpList_load_mid rfl 53 (.tmp 22) rfl w.heap.size 2 rfl _ _ HRG.out Tryd.underlying53 rfl HLN.out ?_)))
          refine HRF.out.mono ?_; rintro e w1 ⟨rfl, hb1⟩
          have hB1 := HB.out.later hb1
          have c0 := (hB1.cell 0).trans HX0.out
          have c1 := (hB1.cell 1).trans HX1.out
          have c35 := (hB1.cell 35).trans HX35.out
          have c36 := (hB1.cell 36).trans HX36.out
          have HB1 := Lib.hid (HAL.out.trans (hb1.mono HAL.out.size))
          clear hb1 hB1 hwa
          go_wp2_with fail
          go_ret
          exact ⟨by rw [HRT.out]; rfl, HB1.out⟩
        | false =>
          by_cases hb : by_ = 0
          · subst hb
            have hm : Cm.opMay ⟨2, false, r, 0⟩ = true := by unfold Cm.opMay; simp only []; rw [HK.out]; simp []
            rw [if_neg (by rw [hm]; decide)] at HRT
            clear hm
            rw [if_neg (by rw [show Cm.finds L ((j : Int) + 1) ⟨2, false, r, 0⟩ = true by unfold Cm.finds; simp only []; rw [HK.out]; rfl]; decide)] at HRT
            clear HK HFI
            go_enter Tryd.func42, Tryd.ntmps42
            go_wp2_with (first | (refine at_lod 55 (.tmp 20) rfl ?_; go_must (refine wpList_load_any (by rfl) 55 (.tmp 20) rfl _ rfl _ _ HCX.out Tryd.underlying55 rfl HLX.out ?_); rw [← HCX2.out]) | (refine at_sto 55 (.tmp 5) (.tmp 21) rfl ?_; go_must (refine wpList_store_row rfl 55 (.tmp 5) (.tmp 21) rfl w.heap.size X rfl rfl 55 _ (heap_alloc_new w _) HXI.out (by rw [HXS.out]; rfl) HXA.out ?_); rw [World.setRow_alloc_new]) | (refine at_lod 53 (.tmp 22) rfl ?_; go_must (refine wpList_load_mid rfl 53 (.tmp 22) rfl w.heap.size 2 rfl _ _ HRG.out Tryd.underlying53 rfl HLN.out ?_)))
            refine HRF.out.mono ?_; rintro e w1 ⟨rfl, hb1⟩
            have hB1 := HB.out.later hb1
            have c0 := (hB1.cell 0).trans HX0.out
            have c1 := (hB1.cell 1).trans HX1.out
            have c35 := (hB1.cell 35).trans HX35.out
            have c36 := (hB1.cell 36).trans HX36.out
            have HB1 := Lib.hid (HAL.out.trans (hb1.mono HAL.out.size))
            clear hb1 hB1 hwa
            go_wp2_with fail
            go_ret
            exact ⟨by rw [HRT.out]; rfl, HB1.out⟩
          · have eb : ((by_.toNat : Int) == 0) = false := by rw [beq_eq_false_iff_ne]; exact fun h => hb (UInt8.toNat_inj.1 (by simpa using h))
            have eb2 : ¬ by_.toNat = 0 := fun h => hb (UInt8.toNat_inj.1 (by simpa using h))
            have hm : Cm.opMay ⟨2, false, r, by_⟩ = false := by unfold Cm.opMay; simp only []; rw [HK.out]; simp [hb]
            rw [if_pos hm] at HRT
            clear hm
            clear HK HFI
            go_enter Tryd.func42, Tryd.ntmps42
            go_wp2_with (first | (refine at_lod 55 (.tmp 20) rfl ?_; go_must (refine wpList_load_any (by rfl) 55 (.tmp 20) rfl _ rfl _ _ HCX.out Tryd.underlying55 rfl HLX.out ?_); rw [← HCX2.out]) | (refine at_sto 55 (.tmp 5) (.tmp 21) rfl ?_; go_must (refine wpList_store_row rfl 55 (.tmp 5) (.tmp 21) rfl w.heap.size X rfl rfl 55 _ (heap_alloc_new w _) HXI.out (by rw [HXS.out]; rfl) HXA.out ?_); rw [World.setRow_alloc_new]) | (refine at_lod 53 (.tmp 22) rfl ?_; go_must (refine wpList_load_mid rfl 53 (.tmp 22) rfl w.heap.size 2 rfl _ _ HRG.out Tryd.underlying53 rfl HLN.out ?_)))
            refine HRF.out.mono ?_; rintro e w1 ⟨rfl, hb1⟩
            have hB1 := HB.out.later hb1
            have c0 := (hB1.cell 0).trans HX0.out
            have c1 := (hB1.cell 1).trans HX1.out
            have c35 := (hB1.cell 35).trans HX35.out
            have c36 := (hB1.cell 36).trans HX36.out
            have HB1 := Lib.hid (HAL.out.trans (hb1.mono HAL.out.size))
            clear hb1 hB1 hwa
            go_wp2_with fail
            go_ret
            exact ⟨by rw [HRT.out]; rfl, HB1.out⟩
      · have e2 : (kd == 2) = false := by rw [beq_eq_false_iff_ne]; exact h2
        have hm : Cm.opMay ⟨kd, lf, r, by_⟩ = false := by unfold Cm.opMay; simp only []; rw [HK.out]; simp [h1, h2]
        rw [if_pos hm] at HRT
        clear hm
        clear HK HFI
        go_enter Tryd.func42, Tryd.ntmps42
        go_wp2_with (first | (refine at_lod 55 (.tmp 20) rfl ?_; go_must (refine wpList_load_any (by rfl) 55 (.tmp 20) rfl _ rfl _ _ HCX.out Tryd.underlying55 rfl HLX.out ?_); rw [← HCX2.out]) | (refine at_sto 55 (.tmp 5) (.tmp 21) rfl ?_; go_must (refine wpList_store_row rfl 55 (.tmp 5) (.tmp 21) rfl w.heap.size X rfl rfl 55 _ (heap_alloc_new w _) HXI.out (by rw [HXS.out]; rfl) HXA.out ?_); rw [World.setRow_alloc_new]) | (refine at_lod 53 (.tmp 22) rfl ?_; go_must (refine wpList_load_mid rfl 53 (.tmp 22) rfl w.heap.size 2 rfl _ _ HRG.out Tryd.underlying53 rfl HLN.out ?_)))
        refine HRF.out.mono ?_; rintro e w1 ⟨rfl, hb1⟩
        have hB1 := HB.out.later hb1
        have c0 := (hB1.cell 0).trans HX0.out
        have c1 := (hB1.cell 1).trans HX1.out
        have c35 := (hB1.cell 35).trans HX35.out
        have c36 := (hB1.cell 36).trans HX36.out
        have HB1 := Lib.hid (HAL.out.trans (hb1.mono HAL.out.size))
        clear hb1 hB1 hwa
        go_wp2_with fail
        go_ret
        exact ⟨by rw [HRT.out]; rfl, HB1.out⟩
  · have HK := Lib.hid hk
    rw [hk] at HRF
    clear hk HKC HOWN
    by_cases h1 : kd = 1
    · subst h1
      have hm : Cm.opMay ⟨1, lf, r, by_⟩ = false := by unfold Cm.opMay; simp only []; rw [HK.out]; simp []
      rw [if_pos hm] at HRT
      clear hm
      clear HK HFI
      go_enter Tryd.func42, Tryd.ntmps42
      go_wp2_with (first | (refine at_lod 55 (.tmp 20) rfl ?_; go_must (refine wpList_load_any (by rfl) 55 (.tmp 20) rfl _ rfl _ _ HCX.out Tryd.underlying55 rfl HLX.out ?_); rw [← HCX2.out]) | (refine at_sto 55 (.tmp 5) (.tmp 21) rfl ?_; go_must (refine wpList_store_row rfl 55 (.tmp 5) (.tmp 21) rfl w.heap.size X rfl rfl 55 _ (heap_alloc_new w _) HXI.out (by rw [HXS.out]; rfl) HXA.out ?_); rw [World.setRow_alloc_new]) | (refine at_lod 53 (.tmp 22) rfl ?_; go_must (refine wpList_load_mid rfl 53 (.tmp 22) rfl w.heap.size 2 rfl _ _ HRG.out Tryd.underlying53 rfl HLN.out ?_)))
      refine HRF.out.mono ?_; rintro e w1 ⟨rfl, hb1⟩
      have hB1 := HB.out.later hb1
      have c0 := (hB1.cell 0).trans HX0.out
      have c1 := (hB1.cell 1).trans HX1.out
      have c35 := (hB1.cell 35).trans HX35.out
      have c36 := (hB1.cell 36).trans HX36.out
      have HB1 := Lib.hid (HAL.out.trans (hb1.mono HAL.out.size))
      clear hb1 hB1 hwa
      go_wp2_with fail
      go_ret
      exact ⟨by rw [HRT.out]; rfl, HB1.out⟩
    · have e1 : (kd == 1) = false := by rw [beq_eq_false_iff_ne]; exact h1
      by_cases h2 : kd = 2
      · subst h2
        cases lf with
        | true =>
          have hm : Cm.opMay ⟨2, true, r, by_⟩ = false := by unfold Cm.opMay; simp only []; rw [HK.out]; simp []
          rw [if_pos hm] at HRT
          clear hm
          clear HK HFI
          go_enter Tryd.func42, Tryd.ntmps42
          go_wp2_with (first | (refine at_lod 55 (.tmp 20) rfl ?_; go_must (refine wpList_load_any (by rfl) 55 (.tmp 20) rfl _ rfl _ _ HCX.out Tryd.underlying55 rfl HLX.out ?_); rw [← HCX2.out]) | (refine at_sto 55 (.tmp 5) (.tmp 21) rfl ?_; go_must (refine wpList_store_row rfl 55 (.tmp 5) (.tmp 21) rfl w.heap.size X rfl rfl 55 _ (heap_alloc_new w _) HXI.out (by rw [HXS.out]; rfl) HXA.out ?_); rw [World.setRow_alloc_new]) | (refine at_lod 53 (.tmp 22) rfl ?_; go_must (refine wpList_load_mid rfl 53 (.tmp 22) rfl w.heap.size 2 rfl _ _ HRG.out Tryd.underlying53 rfl HLN.out ?_)))
          refine HRF.out.mono ?_; rintro e w1 ⟨rfl, hb1⟩
          have hB1 := HB.out.later hb1
          have c0 := (hB1.cell 0).trans HX0.out
          have c1 := (hB1.cell 1).trans HX1.out
          have c35 := (hB1.cell 35).trans HX35.out
          have c36 := (hB1.cell 36).trans HX36.out
          have HB1 := Lib.hid (HAL.out.trans (hb1.mono HAL.out.size))
          clear hb1 hB1 hwa
          go_wp2_with fail
          go_ret
          exact ⟨by rw [HRT.out]; rfl, HB1.out⟩
        | false =>
          by_cases hb : by_ = 0
          · subst hb
            have hm : Cm.opMay ⟨2, false, r, 0⟩ = false := by unfold Cm.opMay; simp only []; rw [HK.out]; simp []
            rw [if_pos hm] at HRT
            clear hm
            clear HK HFI
            go_enter Tryd.func42, Tryd.ntmps42
            go_wp2_with (first | (refine at_lod 55 (.tmp 20) rfl ?_; go_must (refine wpList_load_any (by rfl) 55 (.tmp 20) rfl _ rfl _ _ HCX.out Tryd.underlying55 rfl HLX.out ?_); rw [← HCX2.out]) | (refine at_sto 55 (.tmp 5) (.tmp 21) rfl ?_; go_must (refine wpList_store_row rfl 55 (.tmp 5) (.tmp 21) rfl w.heap.size X rfl rfl 55 _ (heap_alloc_new w _) HXI.out (by rw [HXS.out]; rfl) HXA.out ?_); rw [World.setRow_alloc_new]) | (refine at_lod 53 (.tmp 22) rfl ?_; go_must (refine wpList_load_mid rfl 53 (.tmp 22) rfl w.heap.size 2 rfl _ _ HRG.out Tryd.underlying53 rfl HLN.out ?_)))
            refine HRF.out.mono ?_; rintro e w1 ⟨rfl, hb1⟩
            have hB1 := HB.out.later hb1
            have c0 := (hB1.cell 0).trans HX0.out
            have c1 := (hB1.cell 1).trans HX1.out
            have c35 := (hB1.cell 35).trans HX35.out
            have c36 := (hB1.cell 36).trans HX36.out
            have HB1 := Lib.hid (HAL.out.trans (hb1.mono HAL.out.size))
            clear hb1 hB1 hwa
            go_wp2_with fail
            go_ret
            exact ⟨by rw [HRT.out]; rfl, HB1.out⟩
          · have eb : ((by_.toNat : Int) == 0) = false := by rw [beq_eq_false_iff_ne]; exact fun h => hb (UInt8.toNat_inj.1 (by simpa using h))
            have eb2 : ¬ by_.toNat = 0 := fun h => hb (UInt8.toNat_inj.1 (by simpa using h))
            have hm : Cm.opMay ⟨2, false, r, by_⟩ = false := by unfold Cm.opMay; simp only []; rw [HK.out]; simp [hb]
            rw [if_pos hm] at HRT
            clear hm
            clear HK HFI
            go_enter Tryd.func42, Tryd.ntmps42
            go_wp2_with (first | (refine at_lod 55 (.tmp 20) rfl ?_; go_must (refine wpList_load_any (by rfl) 55 (.tmp 20) rfl _ rfl _ _ HCX.out Tryd.underlying55 rfl HLX.out ?_); rw [← HCX2.out]) | (refine at_sto 55 (.tmp 5) (.tmp 21) rfl ?_; go_must (refine wpList_store_row rfl 55 (.tmp 5) (.tmp 21) rfl w.heap.size X rfl rfl 55 _ (heap_alloc_new w _) HXI.out (by rw [HXS.out]; rfl) HXA.out ?_); rw [World.setRow_alloc_new]) | (refine at_lod 53 (.tmp 22) rfl ?_; go_must (refine wpList_load_mid rfl 53 (.tmp 22) rfl w.heap.size 2 rfl _ _ HRG.out Tryd.underlying53 rfl HLN.out ?_)))
            refine HRF.out.mono ?_; rintro e w1 ⟨rfl, hb1⟩
            have hB1 := HB.out.later hb1
            have c0 := (hB1.cell 0).trans HX0.out
            have c1 := (hB1.cell 1).trans HX1.out
            have c35 := (hB1.cell 35).trans HX35.out
            have c36 := (hB1.cell 36).trans HX36.out
            have HB1 := Lib.hid (HAL.out.trans (hb1.mono HAL.out.size))
            clear hb1 hB1 hwa
            go_wp2_with fail
            go_ret
            exact ⟨by rw [HRT.out]; rfl, HB1.out⟩
      · have e2 : (kd == 2) = false := by rw [beq_eq_false_iff_ne]; exact h2
        have hm : Cm.opMay ⟨kd, lf, r, by_⟩ = false := by unfold Cm.opMay; simp only []; rw [HK.out]; simp [h1, h2]
        rw [if_pos hm] at HRT
        clear hm
        clear HK HFI
        go_enter Tryd.func42, Tryd.ntmps42
        go_wp2_with (first | (refine at_lod 55 (.tmp 20) rfl ?_; go_must (refine wpList_load_any (by rfl) 55 (.tmp 20) rfl _ rfl _ _ HCX.out Tryd.underlying55 rfl HLX.out ?_); rw [← HCX2.out]) | (refine at_sto 55 (.tmp 5) (.tmp 21) rfl ?_; go_must (refine wpList_store_row rfl 55 (.tmp 5) (.tmp 21) rfl w.heap.size X rfl rfl 55 _ (heap_alloc_new w _) HXI.out (by rw [HXS.out]; rfl) HXA.out ?_); rw [World.setRow_alloc_new]) | (refine at_lod 53 (.tmp 22) rfl ?_; go_must (refine wpList_load_mid rfl 53 (.tmp 22) rfl w.heap.size 2 rfl _ _ HRG.out Tryd.underlying53 rfl HLN.out ?_)))
        refine HRF.out.mono ?_; rintro e w1 ⟨rfl, hb1⟩
        have hB1 := HB.out.later hb1
        have c0 := (hB1.cell 0).trans HX0.out
        have c1 := (hB1.cell 1).trans HX1.out
        have c35 := (hB1.cell 35).trans HX35.out
        have c36 := (hB1.cell 36).trans HX36.out
        have HB1 := Lib.hid (HAL.out.trans (hb1.mono HAL.out.size))
        clear hb1 hB1 hwa
        go_wp2_with fail
        go_ret
        exact ⟨by rw [HRT.out]; rfl, HB1.out⟩
end Go.Proofs.YtjgegggcbjecbaaDoor
