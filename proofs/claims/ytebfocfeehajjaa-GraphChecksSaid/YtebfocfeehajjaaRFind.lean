/- The document's Find and In. -/
import Derived.Test.YtebfocfeehajjaaPRead
import Derived.Test.YtebfocfeehajjaaRSameD
namespace Go.Proofs.Ytebfocfeehajjaa
open Go Go.RowKit

/-- A digest's place, or -1. -/
def fndI (ids : List (List UInt8)) (d : List UInt8) : Int := if d ∈ ids then (ids.idxOf d : Int) else -1
theorem idxOf_at {ids : List (List UInt8)} {k : Nat} {d : List UInt8} (h : ids[k]? = some d) (hn : d ∉ ids.take k) : ids.idxOf d = k := by
  have e : ids = ids.take k ++ ids.drop k := (List.take_append_drop k ids).symm
  have hk := (List.getElem?_eq_some_iff.1 h).1
  have hd : (ids.drop k).idxOf d = 0 := by
    rw [List.drop_eq_getElem_cons hk, (List.getElem?_eq_some_iff.1 h).2, List.idxOf_cons_self]
  have := List.idxOf_append (l₁ := ids.take k) (l₂ := ids.drop k) (a := d)
  rw [← e, if_neg hn, hd, List.length_take] at this
  omega
theorem fndI_at {ids : List (List UInt8)} {k : Nat} {d : List UInt8} (h : ids[k]? = some d) (hn : d ∉ ids.take k) : fndI ids d = (k : Int) := by
  unfold fndI; rw [if_pos (List.mem_of_getElem? h), idxOf_at h hn]
theorem fndI_none {ids : List (List UInt8)} {d : List UInt8} (hn : d ∉ ids) : fndI ids d = -1 := if_neg hn
theorem fndI_neg {ids : List (List UInt8)} {d : List UInt8} : fndI ids d < 0 ↔ d ∉ ids := by
  unfold fndI
  by_cases h : d ∈ ids
  · rw [if_pos h]
    exact ⟨fun h2 => by omega, fun h2 => absurd h h2⟩
  · rw [if_neg h]
    exact ⟨fun _ => h, fun _ => by omega⟩

set_option maxRecDepth 100000 in
set_option maxHeartbeats 4000000 in
theorem rfind_any (ll : List (Nod × Option Addr × Nat)) (A : Option Addr) (c : Nat) (d : List UInt8) (BB : Nat) (w : World) (hid : ∀ t ∈ ll, t.1.id.length = 32) (hR : Rd w BB A (ll.length * 33) (rows nC ll)) (hB : BB ≤ w.heap.size) (hl : ll.length * 56 ≤ 140737488351232) (hd : d.length = 32) :
    Calls Try.prog 32 #[.slice A ll.length c, .agg (bv d).toArray] w fun e w' => e = .returned (.int .i64 (fndI (Gr.idsOf (nsOf ll)) d)) ∧ Below w.heap.size w w' := by
  have H := Lib.hid hR
  have HBB := Lib.hid hB
  have HID := Lib.hid hid
  have HDL := Lib.hid hd
  obtain ⟨wa, hwa⟩ : ∃ y, y = w.alloc (.cells (bv d).toArray 47) := ⟨_, rfl⟩
  have hba : Below w.heap.size w wa := by rw [hwa]; exact below_alloc w _
  have HX := Lib.hid (show Blk wa w.heap.size 47 (bv d).toArray by rw [hwa]; exact Blk.new w _ _)
  have HBA := Lib.hid hba
  have HLD := Lib.hid (show (Try.prog.info? 47).map (·.size) = some (bv d).length by rw [bv_length, hd]; exact infoD32)
  have HIDS := Lib.hid (show ∀ (k : Nat) (t : Nod × Option Addr × Nat), ll[k]? = some t → (Gr.idsOf (nsOf ll))[k]? = some t.1.id from fun k t ht => by unfold Gr.idsOf nsOf; rw [List.getElem?_map, List.getElem?_map, ht]; rfl)
  have HLEN := Lib.hid (show (Gr.idsOf (nsOf ll)).length = ll.length by unfold Gr.idsOf nsOf; rw [List.length_map, List.length_map])
  replace hwa := hwa.symm
  clear hid hR hB hba hd
  go_enter Try.func32, Try.ntmps32
  go_wp2_with (rw [hwa])
  go_loopw [5] (fun iv wr => ∃ k : Nat, iv = .int .i64 (k : Int) ∧ k ≤ ll.length ∧ d ∉ (Gr.idsOf (nsOf ll)).take k ∧ Below wa.heap.size wa wr) (fun iv _ => ll.length - (intOf iv).toNat)
  case atStart => exact ⟨0, rfl, Nat.zero_le _, by simp, Below.refl _ _⟩
  case round =>
    obtain ⟨k, rfl, hk, hn, hbl⟩ := hrel
    have HN := Lib.hid hn
    have HW := Lib.hid hbl
    clear hn hbl
    by_cases hlt : k < ll.length
    · have hltI : (k : Int) < (ll.length : Int) := by omega
      obtain ⟨t, ht⟩ : ∃ t, ll[k]? = some t := ⟨_, List.getElem?_eq_getElem hlt⟩
      have hlx := HID.out t (List.mem_of_getElem? ht)
      obtain ⟨ad, hA, hbx, hca⟩ := H.out.elem (by decide) (fun s hs => ndC_length (HID.out s hs)) ht
      subst hA
      have HCA := Lib.hid (fun u : Grw wr => fun j v (hv : (bv t.1.id)[j]? = some v) => grw_cells (w := w) (HBA.out.trans ((HW.out.trans (u.prop.mono HW.out.size)).mono HBA.out.size)) (ad := ad.add (k * 33)) (by rw [block_add]; have := HBB.out; omega) hca j v (ndC_id hv))
      have HCX := Lib.hid (fun u : Grw wr => blk_cells (HX.out.later (HW.out.trans (u.prop.mono HW.out.size))))
      have HLA := Lib.hid (show (Try.prog.info? 47).map (·.size) = some (bv t.1.id).length by rw [bv_length, hlx]; exact infoD32)
      have heq := fun w => run_equal_dig hlx HDL.out w
      have HT := Lib.hid (HIDS.out k t ht)
      clear ht hca hlx hbx
      go_wp2_with fail
      refine wp_region_grow (by kernel_rfl) (by kernel_rfl) ?_
      go_big_quiet_step (fail)
      go_big_quiet_step (fail)
      go_big_quiet_step (fail)
      go_big_quiet_step (fail)
      refine quiet_load_any (by rfl) 47 (.tmp 15) rfl (ad.add (k * 33)) rfl (bv t.1.id) HCA.out _ Try.underlying47 rfl HLA.out ?_; go_simp
      refine quiet_load_any (by rfl) 47 (.tmp 3) rfl ⟨w.heap.size, 0, none⟩ rfl (bv d) HCX.out _ Try.underlying47 rfl HLD.out ?_; go_simp
      go_big_quiet_step (fail)
      refine wpQuiet_nil ?_
      first | (intro _ hw'; obtain ⟨u, hw''⟩ := hw'; subst hw'') | intro u
      have HWu := Lib.hid (HW.out.trans (u.prop.mono HW.out.size))
      by_cases hxy : t.1.id = d
      · have hd : decide (t.1.id = d) = true := decide_eq_true hxy
        have HF := Lib.hid (fndI_at (hxy ▸ HT.out) HN.out)
        rw [hd] at heq ⊢
        clear hd hxy
        go_wp2_with fail
        go_ret
        exact ⟨by rw [HF.out]; rfl, HBA.out.trans (HWu.out.mono HBA.out.size)⟩
      · have hd : decide (t.1.id = d) = false := decide_eq_false hxy
        have HXY := Lib.hid hxy
        rw [hd] at heq ⊢
        clear hd hxy
        go_wp2_with fail
        go_roundw
        case rel =>
          refine ⟨k + 1, by go_num, by omega, ?_, HWu.out⟩
          rw [take_snoc HT.out, List.mem_append, List.mem_singleton]
          rintro (h | h)
          · exact HN.out h
          · exact HXY.out h.symm
        case measure => simp [intOf] <;> omega
    · have hltI : ¬ (k : Int) < (ll.length : Int) := by omega
      obtain rfl : k = ll.length := by omega
      go_wp2_with fail
      go_ret
      refine ⟨?_, HBA.out.trans (HW.out.mono HBA.out.size)⟩
      have h := HN.out
      rw [List.take_of_length_le (by rw [HLEN.out]; exact Nat.le_refl _)] at h
      rw [fndI_none h]; rfl

set_option maxRecDepth 100000 in
set_option maxHeartbeats 4000000 in
theorem rin_any (L : List (List UInt8)) (A : Option Addr) (c : Nat) (d : List UInt8) (BB : Nat) (w : World) (hD : ∀ s ∈ L, s.length = 32) (hR : Rd w BB A (L.length * 32) (rows bv L)) (hB : BB ≤ w.heap.size) (hl : L.length * 32 ≤ 140737488351232) (hd : d.length = 32) :
    Calls Try.prog 33 #[.slice A L.length c, .agg (bv d).toArray] w fun e w' => e = .returned (.bool (decide (d ∈ L))) ∧ Below w.heap.size w w' := by
  have H := Lib.hid hR
  have HBB := Lib.hid hB
  have HID := Lib.hid hD
  have HDL := Lib.hid hd
  obtain ⟨wa, hwa⟩ : ∃ y, y = w.alloc (.cells (bv d).toArray 47) := ⟨_, rfl⟩
  have hba : Below w.heap.size w wa := by rw [hwa]; exact below_alloc w _
  have HX := Lib.hid (show Blk wa w.heap.size 47 (bv d).toArray by rw [hwa]; exact Blk.new w _ _)
  have HBA := Lib.hid hba
  have HLD := Lib.hid (show (Try.prog.info? 47).map (·.size) = some (bv d).length by rw [bv_length, hd]; exact infoD32)
  replace hwa := hwa.symm
  clear hD hR hB hba hd
  go_enter Try.func33, Try.ntmps33
  go_wp2_with (rw [hwa])
  go_loopw [5] (fun iv wr => ∃ k : Nat, iv = .int .i64 (k : Int) ∧ k ≤ L.length ∧ d ∉ L.take k ∧ Below wa.heap.size wa wr) (fun iv _ => L.length - (intOf iv).toNat)
  case atStart => exact ⟨0, rfl, Nat.zero_le _, by simp, Below.refl _ _⟩
  case round =>
    obtain ⟨k, rfl, hk, hn, hbl⟩ := hrel
    have HN := Lib.hid hn
    have HW := Lib.hid hbl
    clear hn hbl
    by_cases hlt : k < L.length
    · have hltI : (k : Int) < (L.length : Int) := by omega
      obtain ⟨t, ht⟩ : ∃ t, L[k]? = some t := ⟨_, List.getElem?_eq_getElem hlt⟩
      have hlx := HID.out t (List.mem_of_getElem? ht)
      obtain ⟨ad, hA, hbx, hca⟩ := H.out.elem (by decide) (fun s hs => by rw [bv_length]; exact HID.out s hs) ht
      subst hA
      have HCA := Lib.hid (fun u : Grw wr => grw_cells (w := w) (HBA.out.trans ((HW.out.trans (u.prop.mono HW.out.size)).mono HBA.out.size)) (ad := ad.add (k * 32)) (by rw [block_add]; have := HBB.out; omega) hca)
      have HCX := Lib.hid (fun u : Grw wr => blk_cells (HX.out.later (HW.out.trans (u.prop.mono HW.out.size))))
      have HLA := Lib.hid (show (Try.prog.info? 47).map (·.size) = some (bv t).length by rw [bv_length, hlx]; exact infoD32)
      have heq := fun w => run_equal_dig hlx HDL.out w
      have HT := Lib.hid ht
      clear ht hca hlx hbx
      go_wp2_with fail
      refine wp_region_grow (by kernel_rfl) (by kernel_rfl) ?_
      go_big_quiet_step (fail)
      go_big_quiet_step (fail)
      go_big_quiet_step (fail)
      refine quiet_load_any (by rfl) 47 (.tmp 14) rfl (ad.add (k * 32)) rfl (bv t) HCA.out _ Try.underlying47 rfl HLA.out ?_; go_simp
      refine quiet_load_any (by rfl) 47 (.tmp 3) rfl ⟨w.heap.size, 0, none⟩ rfl (bv d) HCX.out _ Try.underlying47 rfl HLD.out ?_; go_simp
      go_big_quiet_step (fail)
      refine wpQuiet_nil ?_
      first | (intro _ hw'; obtain ⟨u, hw''⟩ := hw'; subst hw'') | intro u
      have HWu := Lib.hid (HW.out.trans (u.prop.mono HW.out.size))
      by_cases hxy : t = d
      · have hd : decide (t = d) = true := decide_eq_true hxy
        have HF := Lib.hid (show d ∈ L from hxy ▸ List.mem_of_getElem? HT.out)
        rw [hd] at heq ⊢
        clear hd hxy
        go_wp2_with fail
        go_ret
        exact ⟨by rw [decide_eq_true HF.out]; rfl, HBA.out.trans (HWu.out.mono HBA.out.size)⟩
      · have hd : decide (t = d) = false := decide_eq_false hxy
        have HXY := Lib.hid hxy
        rw [hd] at heq ⊢
        clear hd hxy
        go_wp2_with fail
        go_roundw
        case rel =>
          refine ⟨k + 1, by go_num, by omega, ?_, HWu.out⟩
          rw [take_snoc HT.out, List.mem_append, List.mem_singleton]
          rintro (h | h)
          · exact HN.out h
          · exact HXY.out h.symm
        case measure => simp [intOf] <;> omega
    · have hltI : ¬ (k : Int) < (L.length : Int) := by omega
      obtain rfl : k = L.length := by omega
      go_wp2_with fail
      go_ret
      have h := HN.out
      rw [List.take_of_length_le (Nat.le_refl _)] at h
      exact ⟨by rw [decide_eq_false h]; rfl, HBA.out.trans (HW.out.mono HBA.out.size)⟩
end Go.Proofs.Ytebfocfeehajjaa
