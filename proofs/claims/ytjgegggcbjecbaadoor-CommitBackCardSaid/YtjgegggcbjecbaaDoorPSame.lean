/- The program's Same of two commits. -/
import Derived.Test.YtjgegggcbjecbaaDoorOpEq
import Derived.Test.YtjgegggcbjecbaaDoorByts
namespace Go.Proofs.YtjgegggcbjecbaaDoor
open Go Go.RowKit

set_option maxRecDepth 100000 in
set_option maxHeartbeats 2000000 in
theorem eq_digs (A A' : Option Addr) (c c' : Nat) (L L' : List (List UInt8)) (B B' : Nat) (w : World) (h : Rd w B A (L.length * 32) (rows bv L)) (hB : B ≤ w.heap.size) (h' : Rd w B' A' (L'.length * 32) (rows bv L')) (hB' : B' ≤ w.heap.size) (hl : L.length ≤ 4611686018427387904) (hD : ∀ s ∈ L, s.length = 32) (hD' : ∀ s ∈ L', s.length = 32) :
    Calls Tryd.prog 32 #[.slice A L.length c, .slice A' L'.length c'] w (Ret (.bool (decide (L = L'))) w) := by
  have H := Lib.hid h
  have H' := Lib.hid h'
  have HBB := Lib.hid (And.intro hB hB')
  have HD := Lib.hid hD
  have HD' := Lib.hid hD'
  clear h h' hD hD' hB hB'
  by_cases hn : L.length = L'.length
  · have hb : ((L.length : Int) != (L'.length : Int)) = false := by simp [hn]
    have hN := Lib.hid hn
    have HN2 := Lib.hid (Nat.le_of_eq hn.symm)
    clear hn
    go_enter Tryd.func32, Tryd.ntmps32
    go_wp2_with fail
    go_loopw [13] (fun i wr => ∃ k : Nat, k ≤ L.length ∧ i = .int .i64 (k : Int) ∧ L.take k = L'.take k ∧ Below w.heap.size w wr) (fun i _ => L.length - (intOf i).toNat)
    case atStart => exact ⟨0, Nat.zero_le _, rfl, rfl, Below.refl _ _⟩
    case round =>
      obtain ⟨k, hk, rfl, ht, hbl⟩ := hrel
      have HT := Lib.hid ht
      have HW := Lib.hid hbl
      clear ht hbl
      by_cases hlt : k < L.length
      · have hltI : (k : Int) < (L.length : Int) := by omega
        have hlt' : k < L'.length := by rw [← hN.out]; exact hlt
        have hltI' : (k : Int) < (L'.length : Int) := by omega
        obtain ⟨x, hx⟩ : ∃ x, L[k]? = some x := ⟨_, List.getElem?_eq_getElem hlt⟩
        obtain ⟨y, hy⟩ : ∃ y, L'[k]? = some y := ⟨_, List.getElem?_eq_getElem hlt'⟩
        have hlx := HD.out x (List.mem_of_getElem? hx)
        have hly := HD'.out y (List.mem_of_getElem? hy)
        obtain ⟨ad, hA, hbx, hca⟩ := H.out.elem (by decide) (fun s hs => by rw [bv_length]; exact HD.out s hs) hx
        obtain ⟨ad', hA', hby, hcb⟩ := H'.out.elem (by decide) (fun s hs => by rw [bv_length]; exact HD'.out s hs) hy
        subst hA
        subst hA'
        have HCA := Lib.hid (fun u : Grw wr => grw_cells (HW.out.trans (u.prop.mono HW.out.size)) (ad := ad.add (k * 32)) (by rw [block_add]; have := HBB.out.1; omega) hca)
        have HCB := Lib.hid (fun u : Grw wr => grw_cells (HW.out.trans (u.prop.mono HW.out.size)) (ad := ad'.add (k * 32)) (by rw [block_add]; have := HBB.out.2; omega) hcb)
        have HLA := Lib.hid (show (Tryd.prog.info? 34).map (·.size) = some (bv x).length by rw [bv_length, hlx]; exact infoD32)
        have HLB := Lib.hid (show (Tryd.prog.info? 34).map (·.size) = some (bv y).length by rw [bv_length, hly]; exact infoD32)
        have heq := fun w => run_equal_dig hlx hly w
        have HX := Lib.hid hx
        have HY := Lib.hid hy
        clear hx hy hca hcb hlx hly hbx hby
        go_wp2_with fail
        refine wp_region_grow (by kernel_rfl) (by kernel_rfl) ?_
        go_big_quiet_step (fail)
        go_big_quiet_step (fail)
        go_big_quiet_step (fail)
        refine quiet_load_any (by rfl) 34 (.tmp 18) rfl (ad.add (k * 32)) rfl (bv x) HCA.out _ Tryd.underlying34 rfl HLA.out ?_; go_simp
        go_big_quiet_step (fail)
        go_big_quiet_step (fail)
        go_big_quiet_step (fail)
        refine quiet_load_any (by rfl) 34 (.tmp 22) rfl (ad'.add (k * 32)) rfl (bv y) HCB.out _ Tryd.underlying34 rfl HLB.out ?_; go_simp
        go_big_quiet_step (fail)
        refine wpQuiet_nil ?_
        first | (intro _ hw'; obtain ⟨u, hw''⟩ := hw'; subst hw'') | intro u
        have HWu := Lib.hid (HW.out.trans (u.prop.mono HW.out.size))
        by_cases hxy : x = y
        · have hd : decide (x = y) = true := decide_eq_true hxy
          have HXY := Lib.hid hxy
          rw [hd] at heq ⊢
          clear hd hxy
          go_wp2_with fail
          go_roundw
          case rel => exact ⟨k + 1, by omega, by go_num, take_more HX.out HY.out HT.out HXY.out, HWu.out⟩
          case measure => simp [intOf]; omega
        · have hd : decide (x = y) = false := decide_eq_false hxy
          have HXY := Lib.hid hxy
          rw [hd] at heq ⊢
          clear hd hxy
          go_wp2_with fail
          go_ret
          exact ⟨ret_bool (decide_eq_false (fun hL => HXY.out (Option.some.inj (HX.out.symm.trans (by rw [hL]; exact HY.out))))).symm, HWu.out⟩
      · have hltI : ¬ (k : Int) < (L.length : Int) := by omega
        go_wp2_with fail
        go_ret
        refine ⟨ret_bool (decide_eq_true ?_).symm, HW.out⟩
        have h1 := HT.out
        have h2 := HN2.out
        rwa [List.take_of_length_le (by omega), List.take_of_length_le (by omega)] at h1
  · have hb : ((L.length : Int) != (L'.length : Int)) = true := by rw [bne_iff_ne]; omega
    have hN := Lib.hid hn
    clear hn
    go_enter Tryd.func32, Tryd.ntmps32
    go_wp2_with fail
    go_ret
    exact ⟨ret_bool (decide_eq_false (fun hL => hN.out (by rw [hL]))).symm, Below.refl _ _⟩
set_option maxRecDepth 100000 in
set_option maxHeartbeats 2000000 in
theorem eq_ops (A A' : Option Addr) (c c' : Nat) (L L' : List Cm.Op) (B B' : Nat) (w : World) (h : Rd w B A (L.length * 37) (rows opCells L)) (hB : B ≤ w.heap.size) (h' : Rd w B' A' (L'.length * 37) (rows opCells L')) (hB' : B' ≤ w.heap.size) (hl : L.length ≤ 4611686018427387904) (hD : ∀ s ∈ L, dimOp s) (hD' : ∀ s ∈ L', dimOp s) :
    Calls Tryd.prog 33 #[.slice A L.length c, .slice A' L'.length c'] w (Ret (.bool (decide (L = L'))) w) := by
  have H := Lib.hid h
  have H' := Lib.hid h'
  have HBB := Lib.hid (And.intro hB hB')
  have HD := Lib.hid hD
  have HD' := Lib.hid hD'
  clear h h' hD hD' hB hB'
  by_cases hn : L.length = L'.length
  · have hb : ((L.length : Int) != (L'.length : Int)) = false := by simp [hn]
    have hN := Lib.hid hn
    have HN2 := Lib.hid (Nat.le_of_eq hn.symm)
    clear hn
    go_enter Tryd.func33, Tryd.ntmps33
    go_wp2_with fail
    go_loopw [13] (fun i wr => ∃ k : Nat, k ≤ L.length ∧ i = .int .i64 (k : Int) ∧ L.take k = L'.take k ∧ Below w.heap.size w wr) (fun i _ => L.length - (intOf i).toNat)
    case atStart => exact ⟨0, Nat.zero_le _, rfl, rfl, Below.refl _ _⟩
    case round =>
      obtain ⟨k, hk, rfl, ht, hbl⟩ := hrel
      have HT := Lib.hid ht
      have HW := Lib.hid hbl
      clear ht hbl
      by_cases hlt : k < L.length
      · have hltI : (k : Int) < (L.length : Int) := by omega
        have hlt' : k < L'.length := by rw [← hN.out]; exact hlt
        have hltI' : (k : Int) < (L'.length : Int) := by omega
        obtain ⟨x, hx⟩ : ∃ x, L[k]? = some x := ⟨_, List.getElem?_eq_getElem hlt⟩
        obtain ⟨y, hy⟩ : ∃ y, L'[k]? = some y := ⟨_, List.getElem?_eq_getElem hlt'⟩
        have hlx := HD.out x (List.mem_of_getElem? hx)
        have hly := HD'.out y (List.mem_of_getElem? hy)
        obtain ⟨ad, hA, hbx, hca⟩ := H.out.elem (by decide) (fun s hs => opCells_length (HD.out s hs)) hx
        obtain ⟨ad', hA', hby, hcb⟩ := H'.out.elem (by decide) (fun s hs => opCells_length (HD'.out s hs)) hy
        subst hA
        subst hA'
        have HCA := Lib.hid (fun u : Grw wr => grw_cells (HW.out.trans (u.prop.mono HW.out.size)) (ad := ad.add (k * 37)) (by rw [block_add]; have := HBB.out.1; omega) hca)
        have HCB := Lib.hid (fun u : Grw wr => grw_cells (HW.out.trans (u.prop.mono HW.out.size)) (ad := ad'.add (k * 37)) (by rw [block_add]; have := HBB.out.2; omega) hcb)
        have HLA := Lib.hid (show (Tryd.prog.info? 55).map (·.size) = some (opCells x).length by rw [opCells_length hlx]; exact infoO37)
        have HLB := Lib.hid (show (Tryd.prog.info? 55).map (·.size) = some (opCells y).length by rw [opCells_length hly]; exact infoO37)
        have heq := fun w => run_equal_op x y hlx hly w
        have HX := Lib.hid hx
        have HY := Lib.hid hy
        clear hx hy hca hcb hlx hly hbx hby
        go_wp2_with fail
        refine wp_region_grow (by kernel_rfl) (by kernel_rfl) ?_
        go_big_quiet_step (fail)
        go_big_quiet_step (fail)
        go_big_quiet_step (fail)
        refine quiet_load_any (by rfl) 55 (.tmp 18) rfl (ad.add (k * 37)) rfl (opCells x) HCA.out _ Tryd.underlying55 rfl HLA.out ?_; go_simp
        go_big_quiet_step (fail)
        go_big_quiet_step (fail)
        go_big_quiet_step (fail)
        refine quiet_load_any (by rfl) 55 (.tmp 22) rfl (ad'.add (k * 37)) rfl (opCells y) HCB.out _ Tryd.underlying55 rfl HLB.out ?_; go_simp
        go_big_quiet_step (fail)
        refine wpQuiet_nil ?_
        first | (intro _ hw'; obtain ⟨u, hw''⟩ := hw'; subst hw'') | intro u
        have HWu := Lib.hid (HW.out.trans (u.prop.mono HW.out.size))
        by_cases hxy : x = y
        · have hd : decide (x = y) = true := decide_eq_true hxy
          have HXY := Lib.hid hxy
          rw [hd] at heq ⊢
          clear hd hxy
          go_wp2_with fail
          go_roundw
          case rel => exact ⟨k + 1, by omega, by go_num, take_more HX.out HY.out HT.out HXY.out, HWu.out⟩
          case measure => simp [intOf]; omega
        · have hd : decide (x = y) = false := decide_eq_false hxy
          have HXY := Lib.hid hxy
          rw [hd] at heq ⊢
          clear hd hxy
          go_wp2_with fail
          go_ret
          exact ⟨ret_bool (decide_eq_false (fun hL => HXY.out (Option.some.inj (HX.out.symm.trans (by rw [hL]; exact HY.out))))).symm, HWu.out⟩
      · have hltI : ¬ (k : Int) < (L.length : Int) := by omega
        go_wp2_with fail
        go_ret
        refine ⟨ret_bool (decide_eq_true ?_).symm, HW.out⟩
        have h1 := HT.out
        have h2 := HN2.out
        rwa [List.take_of_length_le (by omega), List.take_of_length_le (by omega)] at h1
  · have hb : ((L.length : Int) != (L'.length : Int)) = true := by rw [bne_iff_ne]; omega
    have hN := Lib.hid hn
    clear hn
    go_enter Tryd.func33, Tryd.ntmps33
    go_wp2_with fail
    go_ret
    exact ⟨ret_bool (decide_eq_false (fun hL => hN.out (by rw [hL]))).symm, Below.refl _ _⟩

theorem sB_ne {a b : List UInt8} (h : ¬ a = b) : ((sB a).toList == (sB b).toList) = false := by
  rw [beq_eq_false_iff_ne, ByteArray.toList_eq, ByteArray.toList_eq]
  exact fun e => h (by simpa [sB] using e)
theorem sB_ne' {a b : List UInt8} (h : a = b) : ((sB a).toList == (sB b).toList) = true := by rw [h, beq_self_eq_true]

set_option maxRecDepth 100000 in
set_option maxHeartbeats 4000000 in
theorem psame_any (m m' : Cm.Cm) (v v' : Value) (A B A' B' : Option Addr) (c d c' d' : Nat) (w : World) (hI : InCm w v A c B d m) (hI' : InCm w v' A' c' B' d' m') (hpl : m.parents.length ≤ 4611686018427387904) (hol : m.ops.length ≤ 4611686018427387904) :
    Calls Tryd.prog 14 #[v, v'] w (Ret (.bool (decide (m = m'))) w) := by
  obtain ⟨rfl, hcc, hcd, hRp, hRo, hDp, hDo⟩ := hI
  obtain ⟨rfl, hcc', hcd', hRp', hRo', hDp', hDo'⟩ := hI'
  have HRp := Lib.hid hRp
  have HRo := Lib.hid hRo
  have HDp := Lib.hid hDp
  have HDo := Lib.hid hDo
  have HRp' := Lib.hid hRp'
  have HRo' := Lib.hid hRo'
  have HDp' := Lib.hid hDp'
  have HDo' := Lib.hid hDo'
  have HPL := Lib.hid hpl
  have HOL := Lib.hid hol
  clear hcc hcd hRp hRo hDp hDo hcc' hcd' hRp' hRo' hDp' hDo' hpl hol
  obtain ⟨wa, hwa⟩ : ∃ y, y = w.alloc (.cells #[.slice A m.parents.length c, .string (sB m.author), .string (sB m.note), .slice B m.ops.length d] 25) := ⟨_, rfl⟩
  have HXa := Lib.hid (show BoxC m A c B d w.heap.size wa from ⟨by rw [hwa]; exact Blk.new w _ _⟩)
  have HBa := Lib.hid (show Below w.heap.size w wa by rw [hwa]; exact below_alloc w _)
  obtain ⟨wb, hwb⟩ : ∃ y, y = wa.alloc (.cells #[.slice A' m'.parents.length c', .string (sB m'.author), .string (sB m'.note), .slice B' m'.ops.length d'] 25) := ⟨_, rfl⟩
  have HX := Lib.hid (show BoxC m A c B d w.heap.size wb by rw [hwb]; exact HXa.out.later (below_alloc wa _))
  have HX' := Lib.hid (show BoxC m' A' c' B' d' (w.heap.size + 1) wb by
    rw [hwb, show w.heap.size + 1 = wa.heap.size by rw [hwa]; simp]; exact ⟨Blk.new wa _ _⟩)
  have HB := Lib.hid (show Below w.heap.size w wb by rw [hwb]; exact HBa.out.trans ((below_alloc wa _).mono HBa.out.size))
  obtain ⟨x0, x1, x2, x3⟩ := HX.out.cells
  obtain ⟨y0, y1, y2, y3⟩ := HX'.out.cells
  have s1 : wa.heap.size = w.heap.size + 1 := by rw [hwa]; simp
  replace hwa := hwa.symm
  replace hwb := hwb.symm
  clear HXa HBa
  have HS := Lib.hid (eq_digs A A' c c' m.parents m'.parents _ _ wb (HRp.out.later HB.out) (Nat.le_refl _) (HRp'.out.later HB.out) (Nat.le_refl _) HPL.out HDp.out HDp'.out)
  go_enter Tryd.func14, Tryd.ntmps14
  go_wp2_with fail
  refine HS.out.mono ?_; rintro e w1 ⟨rfl, hb1⟩
  have HX1 := Lib.hid (HX.out.later hb1)
  have HX1' := Lib.hid (show BoxC m' A' c' B' d' (w.heap.size + 1) w1 from ⟨HX'.out.blk.later hb1⟩)
  have HB1 := Lib.hid (HB.out.trans (hb1.mono HB.out.size))
  clear x0 x1 x2 x3 y0 y1 y2 y3 HX HX' HB HS hb1 hwa hwb s1
  obtain ⟨x0, x1, x2, x3⟩ := HX1.out.cells
  obtain ⟨y0, y1, y2, y3⟩ := HX1'.out.cells
  by_cases hp : m.parents = m'.parents
  · have ep : decide (m.parents = m'.parents) = true := decide_eq_true hp
    rw [ep]
    have HP := Lib.hid hp
    clear hp ep
    by_cases ha : m.author = m'.author
    · have ea := sB_ne' ha
      have HA := Lib.hid ha
      clear ha
      by_cases hn : m.note = m'.note
      · have en := sB_ne' hn
        have HN := Lib.hid hn
        clear hn
        have HO := Lib.hid (eq_ops B B' d d' m.ops m'.ops _ _ w1 (HRo.out.later HB1.out) (Nat.le_refl _) (HRo'.out.later HB1.out) (Nat.le_refl _) HOL.out HDo.out HDo'.out)
        go_wp2_with fail
        refine HO.out.mono ?_; rintro e w2 ⟨rfl, hb2⟩
        have HB2 := Lib.hid (HB1.out.trans (hb2.mono HB1.out.size))
        have HD := Lib.hid (show decide (m.ops = m'.ops) = decide (m = m') by
          obtain ⟨p1, a1, n1, o1⟩ := m
          obtain ⟨p2, a2, n2, o2⟩ := m'
          have q1 := HP.out
          have q2 := HA.out
          have q3 := HN.out
          simp only [] at q1 q2 q3
          subst q1; subst q2; subst q3
          simp)
        clear hb2
        go_wp2_with fail
        go_ret
        exact ⟨ret_bool HD.out, HB2.out⟩
      · have en := sB_ne hn
        have HNE := Lib.hid hn
        clear hn
        go_wp2_with fail
        go_ret
        exact ⟨ret_bool (decide_eq_false (fun hL => HNE.out (by rw [hL]))).symm, HB1.out⟩
    · have ea := sB_ne ha
      have HNE := Lib.hid ha
      clear ha
      go_wp2_with fail
      go_ret
      exact ⟨ret_bool (decide_eq_false (fun hL => HNE.out (by rw [hL]))).symm, HB1.out⟩
  · have ep : decide (m.parents = m'.parents) = false := decide_eq_false hp
    rw [ep]
    have HNE := Lib.hid hp
    clear hp ep
    go_wp2_with fail
    go_ret
    exact ⟨ret_bool (decide_eq_false (fun hL => HNE.out (by rw [hL]))).symm, HB1.out⟩
end Go.Proofs.YtjgegggcbjecbaaDoor
