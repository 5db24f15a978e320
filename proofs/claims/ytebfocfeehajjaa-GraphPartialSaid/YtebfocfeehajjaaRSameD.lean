/- The document's Same of two rows of digests. -/
import Derived.Test.YtebfocfeehajjaaRowG
namespace Go.Proofs.Ytebfocfeehajjaa
open Go Go.RowKit

set_option maxRecDepth 100000 in
set_option maxHeartbeats 2000000 in
theorem rsame_digs (A A' : Option Addr) (c c' : Nat) (L L' : List (List UInt8)) (B B' : Nat) (w : World) (h : Rd w B A (L.length * 32) (rows bv L)) (hB : B ≤ w.heap.size) (h' : Rd w B' A' (L'.length * 32) (rows bv L')) (hB' : B' ≤ w.heap.size) (hl : L.length ≤ 4611686018427387904) (hD : ∀ s ∈ L, s.length = 32) (hD' : ∀ s ∈ L', s.length = 32) :
    Calls Try.prog 21 #[.slice A L.length c, .slice A' L'.length c'] w (Ret (.bool (decide (L = L'))) w) := by
  have H := Lib.hid h
  have H' := Lib.hid h'
  have HBB := Lib.hid (And.intro hB hB')
  have HD := Lib.hid hD
  have HD' := Lib.hid hD'
  clear h h' hD hD' hB hB'
  by_cases hn : L.length = L'.length
  · have hb : ((L.length : Int) != (L'.length : Int)) = false := by simp [hn]
    have hN := Lib.hid hn
    have HN2 := Lib.hid (Nat.le_of_eq hn.symm)
    clear hn
    go_enter Try.func21, Try.ntmps21
    go_wp2_with fail
    go_loopw [5] (fun i wr => ∃ k : Nat, k ≤ L.length ∧ i = .int .i64 (k : Int) ∧ L.take k = L'.take k ∧ Below w.heap.size w wr) (fun i _ => L.length - (intOf i).toNat)
    case atStart => exact ⟨0, Nat.zero_le _, rfl, rfl, Below.refl _ _⟩
    case round =>
      obtain ⟨k, hk, rfl, ht, hbl⟩ := hrel
      have HT := Lib.hid ht
      have HW := Lib.hid hbl
      clear ht hbl
      by_cases hlt : k < L.length
      · have hltI : (k : Int) < (L.length : Int) := by omega
        have hlt' : k < L'.length := by rw [← hN.out]; exact hlt
        have hltI' : (k : Int) < (L'.length : Int) := by omega
        obtain ⟨x, hx⟩ : ∃ x, L[k]? = some x := ⟨_, List.getElem?_eq_getElem hlt⟩
        obtain ⟨y, hy⟩ : ∃ y, L'[k]? = some y := ⟨_, List.getElem?_eq_getElem hlt'⟩
        have hlx := HD.out x (List.mem_of_getElem? hx)
        have hly := HD'.out y (List.mem_of_getElem? hy)
        obtain ⟨ad, hA, hbx, hca⟩ := H.out.elem (by decide) (fun s hs => by rw [bv_length]; exact HD.out s hs) hx
        obtain ⟨ad', hA', hby, hcb⟩ := H'.out.elem (by decide) (fun s hs => by rw [bv_length]; exact HD'.out s hs) hy
        subst hA
        subst hA'
        have HCA := Lib.hid (fun u : Grw wr => grw_cells (HW.out.trans (u.prop.mono HW.out.size)) (ad := ad.add (k * 32)) (by rw [block_add]; have := HBB.out.1; omega) hca)
        have HCB := Lib.hid (fun u : Grw wr => grw_cells (HW.out.trans (u.prop.mono HW.out.size)) (ad := ad'.add (k * 32)) (by rw [block_add]; have := HBB.out.2; omega) hcb)
        have HLA := Lib.hid (show (Try.prog.info? 47).map (·.size) = some (bv x).length by rw [bv_length, hlx]; exact infoD32)
        have HLB := Lib.hid (show (Try.prog.info? 47).map (·.size) = some (bv y).length by rw [bv_length, hly]; exact infoD32)
        have heq := fun w => run_equal_dig hlx hly w
        have HX := Lib.hid hx
        have HY := Lib.hid hy
        clear hx hy hca hcb hlx hly hbx hby
        go_wp2_with fail
        refine wp_region_grow (by kernel_rfl) (by kernel_rfl) ?_
        go_big_quiet_step (fail)
        go_big_quiet_step (fail)
        go_big_quiet_step (fail)
        refine quiet_load_any (by rfl) 47 (.tmp 19) rfl (ad.add (k * 32)) rfl (bv x) HCA.out _ Try.underlying47 rfl HLA.out ?_; go_simp
        go_big_quiet_step (fail)
        go_big_quiet_step (fail)
        go_big_quiet_step (fail)
        refine quiet_load_any (by rfl) 47 (.tmp 23) rfl (ad'.add (k * 32)) rfl (bv y) HCB.out _ Try.underlying47 rfl HLB.out ?_; go_simp
        go_big_quiet_step (fail)
        refine wpQuiet_nil ?_
        first | (intro _ hw'; obtain ⟨u, hw''⟩ := hw'; subst hw'') | intro u
        have HWu := Lib.hid (HW.out.trans (u.prop.mono HW.out.size))
        by_cases hxy : x = y
        · have hd : decide (x = y) = true := decide_eq_true hxy
          have HXY := Lib.hid hxy
          rw [hd] at heq ⊢
          clear hd hxy
          go_wp2_with fail
          go_roundw
          case rel => exact ⟨k + 1, by omega, by go_num, take_more HX.out HY.out HT.out HXY.out, HWu.out⟩
          case measure => simp [intOf]; omega
        · have hd : decide (x = y) = false := decide_eq_false hxy
          have HXY := Lib.hid hxy
          rw [hd] at heq ⊢
          clear hd hxy
          go_wp2_with fail
          go_ret
          exact ⟨ret_bool (decide_eq_false (fun hL => HXY.out (Option.some.inj (HX.out.symm.trans (by rw [hL]; exact HY.out))))).symm, HWu.out⟩
      · have hltI : ¬ (k : Int) < (L.length : Int) := by omega
        go_wp2_with fail
        go_ret
        refine ⟨ret_bool (decide_eq_true ?_).symm, HW.out⟩
        have h1 := HT.out
        have h2 := HN2.out
        rwa [List.take_of_length_le (by omega), List.take_of_length_le (by omega)] at h1
  · have hb : ((L.length : Int) != (L'.length : Int)) = true := by rw [bne_iff_ne]; omega
    have hN := Lib.hid hn
    clear hn
    go_enter Try.func21, Try.ntmps21
    go_wp2_with fail
    go_ret
    exact ⟨ret_bool (decide_eq_false (fun hL => hN.out (by rw [hL]))).symm, Below.refl _ _⟩
end Go.Proofs.Ytebfocfeehajjaa
