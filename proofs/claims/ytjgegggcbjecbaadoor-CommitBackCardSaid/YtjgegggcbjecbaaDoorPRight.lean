/- The program's finds and Right. -/
import Derived.Test.YtjgegggcbjecbaaDoorPMayB
namespace Go.Proofs.YtjgegggcbjecbaaDoor
open Go Go.RowKit

/-- An address at which a cell lies is plain. -/
theorem addr_plain {w : World} {a : Addr} {v : Value} (h : w.cell? a = some v) : ∃ g o, a = ⟨g, o, none⟩ := by
  obtain ⟨g, o, s⟩ := a
  cases s with
  | none => exact ⟨g, o, rfl⟩
  | some s =>
    unfold World.cell? at h
    split at h
    · simp at h
    · cases h

set_option maxRecDepth 100000 in
set_option maxHeartbeats 2000000 in
theorem finds_any (L : List Cm.Op) (A : Option Addr) (c j : Nat) (x : Cm.Op) (w : World) (hR : Rd w w.heap.size A (L.length * 37) (rows opCells L)) (hD : ∀ s ∈ L, dimOp s) (hl : L.length ≤ 9223372036854775807) (hx : L[j]? = some x) (hk : Cm.refK x.at_ ≠ 3) :
    Calls Tryd.prog 50 #[.slice A L.length c, .int .i64 ((j : Int) + 1)] w (Ret (.bool (Cm.finds L ((j : Int) + 1) x)) w) := by
  have hj : j < L.length := (List.getElem?_eq_some_iff.1 hx).1
  obtain ⟨ad, rfl, hadB, hcx⟩ := hR.op_at hD hx
  have HR := Lib.hid hR
  have HDM := Lib.hid hD
  obtain ⟨hxl, hxk, hxn⟩ := hD x (List.mem_of_getElem? hx)
  have hw1 : IntKind.i64.wrap ((j : Int) + 1 - 1) = (j : Int) := by rw [IntWalk.i64_in _ (by omega)]; omega
  have hjI : (j : Int) < (L.length : Int) := by omega
  obtain ⟨g, o, had⟩ := addr_plain (addr_zero (ad.add (j * 37)) ▸ hcx 0 _ (opCells_0 x) : w.cell? (ad.add (j * 37)) = some (.int .i64 x.kind))
  rw [had] at hcx
  have HCX := Lib.hid (show ∀ k v, (refCells x.at_)[k]? = some v → w.cell? ((⟨g, o + 2, none⟩ : Addr).add k) = some v from fun k v hv => by
    have h := hcx (2 + k) v (opCells_ref hv)
    rw [Addr.add_lit] at h ⊢
    rw [Nat.add_assoc]
    exact h)
  have HXS := Lib.hid (refA_size hxl)
  have HXA := Lib.hid (refCells_all x.at_)
  have HXL := Lib.hid (show (Tryd.prog.info? 53).map (·.size) = some (refCells x.at_).length by rw [refCells_len hxl]; exact infoR34)
  have HB0 := boxR_new x.at_ w hxl
  have HFI := Lib.hid (finds_own (L := L) (j := j) (x := x) hj)
  have HKO : Hid (x.at_.own = true → Cm.refK x.at_ = 1) := by
    intro h
    rcases Cm.refK_cases x.at_ with h1 | h1 | h1 | h1
    · have := (Cm.refK_root h1).1; rw [h] at this; cases this
    · exact h1
    · have := (Cm.refK_far h1).1; rw [h] at this; cases this
    · exact absurd h1 hk
  have HFN : Hid (x.at_.own = false → Cm.finds L ((j : Int) + 1) x = true) := by
    intro h
    unfold Cm.finds
    rw [decide_eq_true (show Cm.refK x.at_ ≠ 1 from fun e => by have := (Cm.refK_own e).1; rw [h] at this; cases this)]
    rfl
  obtain ⟨X, hX⟩ : ∃ X, X = (refCells x.at_).toArray := ⟨_, rfl⟩
  have HXE := Lib.hid hX
  rw [← hX] at HXS HXA HB0
  have HXI := Lib.hid (show (Tryd.prog.info? 53).map (·.size) = some X.size by rw [HXS.out]; exact infoR34)
  obtain ⟨wa, hwa⟩ : ∃ y, y = w.alloc (.cells X 53) := ⟨_, rfl⟩
  have HAL := Lib.hid (show Below w.heap.size w wa by rw [hwa]; exact below_alloc w _)
  rw [← hwa] at HB0
  obtain ⟨-, c0, c33, -⟩ := HB0
  have hone := (HFI.out.2)
  obtain ⟨kd, lf, ⟨own, cm, n⟩, by_⟩ := x
  simp only [] at c0 c33 HKO HFN HCX HXL hxn HXE
  obtain ⟨F, hF⟩ : ∃ F, F = Cm.finds L ((j : Int) + 1) ⟨kd, lf, ⟨own, cm, n⟩, by_⟩ := ⟨_, rfl⟩
  rw [← hF] at HFN HFI ⊢
  replace hwa := hwa.symm
  clear hX hk hxk hxl hx hD hR hcx hone hF
  cases own with
  | false =>
    have HN := Lib.hid (HFN.out rfl)
    clear HKO HFN HFI
    go_enter Tryd.func50, Tryd.ntmps50
    go_wp2_with (first | (refine at_lod 53 (.tmp 10) rfl ?_; go_must (refine wpList_load_any (by rfl) 53 (.tmp 10) rfl _ rfl _ _ HCX.out Tryd.underlying53 rfl HXL.out ?_); rw [← HXE.out]) | (refine at_sto 53 (.tmp 5) (.tmp 11) rfl ?_; go_must (refine wpList_store_row rfl 53 (.tmp 5) (.tmp 11) rfl w.heap.size X rfl rfl 53 _ (heap_alloc_new w _) HXI.out (by rw [HXS.out]; rfl) HXA.out ?_); rw [World.setRow_alloc_new]) | (refine at_lod 4 (.tmp 12) rfl ?_; go_wp2_with fail))
    go_ret
    exact ⟨by rw [HN.out]; rfl, HAL.out⟩
  | true =>
    have HK := Lib.hid (HKO.out rfl)
    have hn1 := (Cm.refK_own HK.out).2.2
    simp only [] at hn1
    clear HKO HFN
    by_cases hni : (j : Int) + 1 ≤ n
    · have dn : decide (n < (j : Int) + 1) = false := decide_eq_false (by omega)
      have HN := Lib.hid (HFI.out.1 hni HK.out)
      clear HFI hni
      go_enter Tryd.func50, Tryd.ntmps50
      go_wp2_with (first | (refine at_lod 53 (.tmp 10) rfl ?_; go_must (refine wpList_load_any (by rfl) 53 (.tmp 10) rfl _ rfl _ _ HCX.out Tryd.underlying53 rfl HXL.out ?_); rw [← HXE.out]) | (refine at_sto 53 (.tmp 5) (.tmp 11) rfl ?_; go_must (refine wpList_store_row rfl 53 (.tmp 5) (.tmp 11) rfl w.heap.size X rfl rfl 53 _ (heap_alloc_new w _) HXI.out (by rw [HXS.out]; rfl) HXA.out ?_); rw [World.setRow_alloc_new]) | (refine at_lod 4 (.tmp 12) rfl ?_; go_wp2_with fail))
      go_ret
      exact ⟨by rw [HN.out]; rfl, HAL.out⟩
    · have dn : decide (n < (j : Int) + 1) = true := decide_eq_true (by omega)
      obtain ⟨y, m, hm1, hmj, hy, hfy⟩ := HFI.out.2 HK.out (by simp only []; omega)
      obtain ⟨ad', hA', hadB', hcy⟩ := HR.out.op_at HDM.out hy
      cases hA'
      simp only [] at hm1
      subst hm1
      have HYB := Lib.hid (show (ad.add (m * 37)).block < w.heap.size by rw [block_add]; exact hadB')
      have hy0 := (addr_zero (ad.add (m * 37)) ▸ hcy 0 _ (opCells_0 y) : w.cell? (ad.add (m * 37)) = some (.int .i64 y.kind))
      obtain ⟨g2, o2, had2⟩ := addr_plain hy0
      have HY := (HAL.out.cell HYB.out).trans hy0
      rw [had2] at HY
      clear hy0 hcy
      have hw2 : IntKind.i64.wrap ((m : Int) + 1 - 1) = (m : Int) := by rw [IntWalk.i64_in _ (by omega)]; omega
      have hmI : (m : Int) < (L.length : Int) := by omega
      have HN := Lib.hid (show (y.kind == 1) = F by rw [hfy, Bool.eq_iff_iff, beq_iff_eq, decide_eq_true_iff])
      clear HFI hni hfy hy
      go_enter Tryd.func50, Tryd.ntmps50
      go_wp2_with (first | (refine at_lod 53 (.tmp 10) rfl ?_; go_must (refine wpList_load_any (by rfl) 53 (.tmp 10) rfl _ rfl _ _ HCX.out Tryd.underlying53 rfl HXL.out ?_); rw [← HXE.out]) | (refine at_sto 53 (.tmp 5) (.tmp 11) rfl ?_; go_must (refine wpList_store_row rfl 53 (.tmp 5) (.tmp 11) rfl w.heap.size X rfl rfl 53 _ (heap_alloc_new w _) HXI.out (by rw [HXS.out]; rfl) HXA.out ?_); rw [World.setRow_alloc_new]) | (refine at_lod 4 (.tmp 12) rfl ?_; go_wp2_with fail))
      go_ret
      exact ⟨by rw [← HN.out]; rfl, HAL.out⟩

set_option maxRecDepth 100000 in
set_option maxHeartbeats 8000000 in
theorem pright_any (L : List Cm.Op) (A : Option Addr) (c : Nat) (i : Int) (w : World) (hR : Rd w w.heap.size A (L.length * 37) (rows opCells L)) (hD : ∀ s ∈ L, dimOp s) (hl : L.length ≤ 9223372036854775807) (hi : -9223372036854775808 ≤ i ∧ i ≤ 9223372036854775807) :
    Calls Tryd.prog 27 #[.slice A L.length c, .int .i64 i] w (Ret (.int .i64 (Cm.right L i : Int)) w) := by
  by_cases h1 : i < 1
  · have HO := Lib.hid (right_out (L := L) (.inl h1))
    have d1 : decide (i < 1) = true := decide_eq_true h1
    go_enter Tryd.func27, Tryd.ntmps27
    go_wp2_with fail
    go_ret
    exact ⟨by rw [HO.out]; rfl, Below.refl _ _⟩
  have d1 : decide (i < 1) = false := decide_eq_false h1
  by_cases h2 : (L.length : Int) < i
  · have HO := Lib.hid (right_out (L := L) (.inr h2))
    have d2 : decide ((L.length : Int) < i) = true := decide_eq_true h2
    go_enter Tryd.func27, Tryd.ntmps27
    go_wp2_with fail
    go_ret
    exact ⟨by rw [HO.out]; rfl, Below.refl _ _⟩
  obtain ⟨j, rfl⟩ : ∃ j : Nat, i = (j : Int) + 1 := ⟨(i - 1).toNat, by omega⟩
  have hj : j < L.length := by omega
  obtain ⟨x, hx⟩ : ∃ x, L[j]? = some x := ⟨_, List.getElem?_eq_getElem hj⟩
  have HRT := Lib.hid (right_at hx)
  obtain ⟨ad, rfl, hadB, hcx⟩ := hR.op_at hD hx
  have HR := Lib.hid hR
  have HDM := Lib.hid hD
  have hxd := hD x (List.mem_of_getElem? hx)
  have d2 : decide ((L.length : Int) < (j : Int) + 1) = false := decide_eq_false h2
  have hw1 : IntKind.i64.wrap ((j : Int) + 1 - 1) = (j : Int) := by rw [IntWalk.i64_in _ (by omega)]; omega
  have hjI : (j : Int) < (L.length : Int) := by omega
  have HLX := Lib.hid (show (Tryd.prog.info? 55).map (·.size) = some (opCells x).length by rw [opCells_length hxd]; exact infoO37)
  have HCX := Lib.hid hcx
  have HMB := Lib.hid (mayBe_any x w hxd)
  have HFD := Lib.hid (fun (w1 : World) (hb : Below w.heap.size w w1) (hk : Cm.refK x.at_ ≠ 3) => finds_any L _ c j x w1 (hR.later hb) hD hl hx hk)
  have HMK : Hid (Cm.opMay x = true → Cm.refK x.at_ ≠ 3) := by
    intro h
    unfold Cm.opMay at h
    simp only [Bool.and_eq_true, decide_eq_true_eq] at h
    exact h.1
  unfold opV at HMB
  clear hcx hxd hx hR hD
  cases hm : Cm.opMay x with
  | false =>
    rw [hm] at HMB
    rw [if_pos hm] at HRT
    clear HMK hm HFD
    go_enter Tryd.func27, Tryd.ntmps27
    go_wp2_with (refine at_lod 55 (.tmp 16) rfl ?_; go_must (refine wpList_load_any (by rfl) 55 (.tmp 16) rfl _ rfl _ _ HCX.out Tryd.underlying55 rfl HLX.out ?_))
    refine HMB.out.mono ?_; rintro e w1 ⟨rfl, hb1⟩
    have HB1 := Lib.hid hb1
    clear hb1
    go_wp2_with fail
    go_ret
    exact ⟨by rw [HRT.out]; rfl, HB1.out⟩
  | true =>
    rw [hm] at HMB
    rw [if_neg (by rw [hm]; decide)] at HRT
    have HK3 := Lib.hid (HMK.out hm)
    clear HMK hm
    cases hf : Cm.finds L ((j : Int) + 1) x with
    | false =>
      rw [if_pos hf] at HRT
      rw [hf] at HFD
      clear hf
      go_enter Tryd.func27, Tryd.ntmps27
      go_wp2_with (refine at_lod 55 (.tmp 16) rfl ?_; go_must (refine wpList_load_any (by rfl) 55 (.tmp 16) rfl _ rfl _ _ HCX.out Tryd.underlying55 rfl HLX.out ?_))
      refine HMB.out.mono ?_; rintro e w1 ⟨rfl, hb1⟩
      have HB1 := Lib.hid hb1
      clear hb1
      go_wp2_with fail
      refine (HFD.out w1 HB1.out HK3.out).mono ?_; rintro e w2 ⟨rfl, hb2⟩
      have HB2 := Lib.hid (HB1.out.trans (hb2.mono HB1.out.size))
      clear hb2
      go_wp2_with fail
      go_ret
      exact ⟨by rw [HRT.out]; rfl, HB2.out⟩
    | true =>
      rw [if_neg (by rw [hf]; decide)] at HRT
      rw [hf] at HFD
      clear hf
      go_enter Tryd.func27, Tryd.ntmps27
      go_wp2_with (refine at_lod 55 (.tmp 16) rfl ?_; go_must (refine wpList_load_any (by rfl) 55 (.tmp 16) rfl _ rfl _ _ HCX.out Tryd.underlying55 rfl HLX.out ?_))
      refine HMB.out.mono ?_; rintro e w1 ⟨rfl, hb1⟩
      have HB1 := Lib.hid hb1
      clear hb1
      go_wp2_with fail
      refine (HFD.out w1 HB1.out HK3.out).mono ?_; rintro e w2 ⟨rfl, hb2⟩
      have HB2 := Lib.hid (HB1.out.trans (hb2.mono HB1.out.size))
      clear hb2
      go_wp2_with fail
      go_ret
      exact ⟨by rw [HRT.out]; rfl, HB2.out⟩
end Go.Proofs.YtjgegggcbjecbaaDoor
