/- The document's Same of two rows of digests. · The document's Same of two commits. -/
import Derived.Test.YtjgegggcbjecbaaDoorByts
import Derived.Test.YtjgegggcbjecbaaDoorPSame
import Derived.Test.YtjgegggcbjecbaaDoorOpEq
import Derived.Test.YtjgegggcbjecbaaDoorRMay
namespace Go.Proofs.YtjgegggcbjecbaaDoor
open Go Go.RowKit

set_option maxRecDepth 100000 in
set_option maxHeartbeats 2000000 in
theorem rsame_digs (A A' : Option Addr) (c c' : Nat) (L L' : List (List UInt8)) (B B' : Nat) (w : World) (h : Rd w B A (L.length * 32) (rows bv L)) (hB : B ≤ w.heap.size) (h' : Rd w B' A' (L'.length * 32) (rows bv L')) (hB' : B' ≤ w.heap.size) (hl : L.length ≤ 4611686018427387904) (hD : ∀ s ∈ L, s.length = 32) (hD' : ∀ s ∈ L', s.length = 32) :
    Calls Tryd.prog 23 #[.slice A L.length c, .slice A' L'.length c'] w (Ret (.bool (decide (L = L'))) w) := by
  have H := Lib.hid h
  have H' := Lib.hid h'
  have HBB := Lib.hid (And.intro hB hB')
  have HD := Lib.hid hD
  have HD' := Lib.hid hD'
  clear h h' hD hD' hB hB'
  by_cases hn : L.length = L'.length
  · have hb : ((L.length : Int) != (L'.length : Int)) = false := by simp [hn]
    have hN := Lib.hid hn
    have HN2 := Lib.hid (Nat.le_of_eq hn.symm)
    clear hn
    go_enter Tryd.func23, Tryd.ntmps23
    go_wp2_with fail
    go_loopw [5] (fun i wr => ∃ k : Nat, k ≤ L.length ∧ i = .int .i64 (k : Int) ∧ L.take k = L'.take k ∧ Below w.heap.size w wr) (fun i _ => L.length - (intOf i).toNat)
    case atStart => exact ⟨0, Nat.zero_le _, rfl, rfl, Below.refl _ _⟩
    case round =>
      obtain ⟨k, hk, rfl, ht, hbl⟩ := hrel
      have HT := Lib.hid ht
      have HW := Lib.hid hbl
      clear ht hbl
      by_cases hlt : k < L.length
      · have hltI : (k : Int) < (L.length : Int) := by omega
        have hlt' : k < L'.length := by rw [← hN.out]; exact hlt
        have hltI' : (k : Int) < (L'.length : Int) := by omega
        obtain ⟨x, hx⟩ : ∃ x, L[k]? = some x := ⟨_, List.getElem?_eq_getElem hlt⟩
        obtain ⟨y, hy⟩ : ∃ y, L'[k]? = some y := ⟨_, List.getElem?_eq_getElem hlt'⟩
        have hlx := HD.out x (List.mem_of_getElem? hx)
        have hly := HD'.out y (List.mem_of_getElem? hy)
        obtain ⟨ad, hA, hbx, hca⟩ := H.out.elem (by decide) (fun s hs => by rw [bv_length]; exact HD.out s hs) hx
        obtain ⟨ad', hA', hby, hcb⟩ := H'.out.elem (by decide) (fun s hs => by rw [bv_length]; exact HD'.out s hs) hy
        subst hA
        subst hA'
        have HCA := Lib.hid (fun u : Grw wr => grw_cells (HW.out.trans (u.prop.mono HW.out.size)) (ad := ad.add (k * 32)) (by rw [block_add]; have := HBB.out.1; omega) hca)
        have HCB := Lib.hid (fun u : Grw wr => grw_cells (HW.out.trans (u.prop.mono HW.out.size)) (ad := ad'.add (k * 32)) (by rw [block_add]; have := HBB.out.2; omega) hcb)
        have HLA := Lib.hid (show (Tryd.prog.info? 34).map (·.size) = some (bv x).length by rw [bv_length, hlx]; exact infoD32)
        have HLB := Lib.hid (show (Tryd.prog.info? 34).map (·.size) = some (bv y).length by rw [bv_length, hly]; exact infoD32)
        have heq := fun w => run_equal_dig hlx hly w
        have HX := Lib.hid hx
        have HY := Lib.hid hy
        clear hx hy hca hcb hlx hly hbx hby
        go_wp2_with fail
        refine wp_region_grow (by kernel_rfl) (by kernel_rfl) ?_
        go_big_quiet_step (fail)
        go_big_quiet_step (fail)
        go_big_quiet_step (fail)
        refine quiet_load_any (by rfl) 34 (.tmp 19) rfl (ad.add (k * 32)) rfl (bv x) HCA.out _ Tryd.underlying34 rfl HLA.out ?_; go_simp
        go_big_quiet_step (fail)
        go_big_quiet_step (fail)
        go_big_quiet_step (fail)
        refine quiet_load_any (by rfl) 34 (.tmp 23) rfl (ad'.add (k * 32)) rfl (bv y) HCB.out _ Tryd.underlying34 rfl HLB.out ?_; go_simp
        go_big_quiet_step (fail)
        refine wpQuiet_nil ?_
        first | (intro _ hw'; obtain ⟨u, hw''⟩ := hw'; subst hw'') | intro u
        have HWu := Lib.hid (HW.out.trans (u.prop.mono HW.out.size))
        by_cases hxy : x = y
        · have hd : decide (x = y) = true := decide_eq_true hxy
          have HXY := Lib.hid hxy
          rw [hd] at heq ⊢
          clear hd hxy
          go_wp2_with fail
          go_roundw
          case rel => exact ⟨k + 1, by omega, by go_num, take_more HX.out HY.out HT.out HXY.out, HWu.out⟩
          case measure => simp [intOf]; omega
        · have hd : decide (x = y) = false := decide_eq_false hxy
          have HXY := Lib.hid hxy
          rw [hd] at heq ⊢
          clear hd hxy
          go_wp2_with fail
          go_ret
          exact ⟨ret_bool (decide_eq_false (fun hL => HXY.out (Option.some.inj (HX.out.symm.trans (by rw [hL]; exact HY.out))))).symm, HWu.out⟩
      · have hltI : ¬ (k : Int) < (L.length : Int) := by omega
        go_wp2_with fail
        go_ret
        refine ⟨ret_bool (decide_eq_true ?_).symm, HW.out⟩
        have h1 := HT.out
        have h2 := HN2.out
        rwa [List.take_of_length_le (by omega), List.take_of_length_le (by omega)] at h1
  · have hb : ((L.length : Int) != (L'.length : Int)) = true := by rw [bne_iff_ne]; omega
    have hN := Lib.hid hn
    clear hn
    go_enter Tryd.func23, Tryd.ntmps23
    go_wp2_with fail
    go_ret
    exact ⟨ret_bool (decide_eq_false (fun hL => hN.out (by rw [hL]))).symm, Below.refl _ _⟩
end Go.Proofs.YtjgegggcbjecbaaDoor

namespace Go.Proofs.YtjgegggcbjecbaaDoor
open Go Go.RowKit

set_option maxRecDepth 100000 in
set_option maxHeartbeats 4000000 in
theorem rsame_any (m m' : Cm.Cm) (v v' : Value) (A B A' B' : Option Addr) (c d c' d' : Nat) (w : World) (hI : InCm w v A c B d m) (hI' : InCm w v' A' c' B' d' m') (hpl : m.parents.length ≤ 4611686018427387904) (hol : m.ops.length ≤ 4611686018427387904) :
    Calls Tryd.prog 10 #[v, v'] w (Ret (.bool (decide (m = m'))) w) := by
  obtain ⟨rfl, hcc, hcd, hRp, hRo, hDp, hDo⟩ := hI
  obtain ⟨rfl, hcc', hcd', hRp', hRo', hDp', hDo'⟩ := hI'
  have HRp := Lib.hid hRp
  have HRo := Lib.hid hRo
  have HDp := Lib.hid hDp
  have HDo := Lib.hid hDo
  have HRp' := Lib.hid hRp'
  have HRo' := Lib.hid hRo'
  have HDp' := Lib.hid hDp'
  have HDo' := Lib.hid hDo'
  have HPL := Lib.hid hpl
  clear hcc hcd hRp hRo hDp hDo hcc' hcd' hRp' hRo' hDp' hDo' hpl
  obtain ⟨wa, hwa⟩ : ∃ y, y = w.alloc (.cells #[.slice A m.parents.length c, .string (sB m.author), .string (sB m.note), .slice B m.ops.length d] 25) := ⟨_, rfl⟩
  have HXa := Lib.hid (show BoxC m A c B d w.heap.size wa from ⟨by rw [hwa]; exact Blk.new w _ _⟩)
  have HBa := Lib.hid (show Below w.heap.size w wa by rw [hwa]; exact below_alloc w _)
  obtain ⟨wb, hwb⟩ : ∃ y, y = wa.alloc (.cells #[.slice A' m'.parents.length c', .string (sB m'.author), .string (sB m'.note), .slice B' m'.ops.length d'] 25) := ⟨_, rfl⟩
  have HX := Lib.hid (show BoxC m A c B d w.heap.size wb by rw [hwb]; exact HXa.out.later (below_alloc wa _))
  have HX' := Lib.hid (show BoxC m' A' c' B' d' (w.heap.size + 1) wb by
    rw [hwb, show w.heap.size + 1 = wa.heap.size by rw [hwa]; simp]; exact ⟨Blk.new wa _ _⟩)
  have HB := Lib.hid (show Below w.heap.size w wb by rw [hwb]; exact HBa.out.trans ((below_alloc wa _).mono HBa.out.size))
  obtain ⟨x0, x1, x2, x3⟩ := HX.out.cells
  obtain ⟨y0, y1, y2, y3⟩ := HX'.out.cells
  have s1 : wa.heap.size = w.heap.size + 1 := by rw [hwa]; simp
  replace hwa := hwa.symm
  replace hwb := hwb.symm
  clear HXa HBa
  have HS := Lib.hid (rsame_digs A A' c c' m.parents m'.parents _ _ wb (HRp.out.later HB.out) (Nat.le_refl _) (HRp'.out.later HB.out) (Nat.le_refl _) HPL.out HDp.out HDp'.out)
  go_enter Tryd.func10, Tryd.ntmps10
  go_wp2_with fail
  refine HS.out.mono ?_; rintro e w1 ⟨rfl, hb1⟩
  have HX1 := Lib.hid (HX.out.later hb1)
  have HX1' := Lib.hid (show BoxC m' A' c' B' d' (w.heap.size + 1) w1 from ⟨HX'.out.blk.later hb1⟩)
  have HB1 := Lib.hid (HB.out.trans (hb1.mono HB.out.size))
  clear x0 x1 x2 x3 y0 y1 y2 y3 HX HX' HB HS hb1 hwa hwb s1
  obtain ⟨x0, x1, x2, x3⟩ := HX1.out.cells
  obtain ⟨y0, y1, y2, y3⟩ := HX1'.out.cells
  by_cases hp : m.parents = m'.parents
  · have ep : decide (m.parents = m'.parents) = true := decide_eq_true hp
    rw [ep]
    have HP := Lib.hid hp
    clear hp ep
    by_cases ha : m.author = m'.author
    · have ea := sB_ne' ha
      have HA := Lib.hid ha
      clear ha
      by_cases hn : m.note = m'.note
      · have en := sB_ne' hn
        have HN := Lib.hid hn
        clear hn
        by_cases hl : m.ops.length = m'.ops.length
        · have el : ((m.ops.length : Int) != (m'.ops.length : Int)) = false := by simp [hl]
          have HL := Lib.hid hl
          clear hl
          go_wp2_with fail
          clear x0 x1 x2 x3 y0 y1 y2 y3 ea en el
          go_loopw [5] (fun iv wr => ∃ k : Nat, k ≤ m.ops.length ∧ iv = .int .i64 (k : Int) ∧ Hid (m.ops.take k = m'.ops.take k) ∧ BoxC m A c B d w.heap.size wr ∧ BoxC m' A' c' B' d' (w.heap.size + 1) wr ∧ Below w.heap.size w wr) (fun iv _ => m.ops.length - (intOf iv).toNat)
          case atStart => exact ⟨0, Nat.zero_le _, rfl, rfl, HX1.out, HX1'.out, HB1.out⟩
          clear HX1 HX1' HB1
          case round =>
            obtain ⟨k, hk, rfl, HT, hX, hX', hB⟩ := hrel
            have HX := Lib.hid hX
            have HX' := Lib.hid hX'
            have HB := Lib.hid hB
            obtain ⟨x0, x1, x2, x3⟩ := hX.cells
            obtain ⟨y0, y1, y2, y3⟩ := hX'.cells
            clear hX hX' hB x0 x1 x2 y0 y1 y2
            by_cases hlt : k < m.ops.length
            · have hltI : (k : Int) < (m.ops.length : Int) := by omega
              have hlt' : k < m'.ops.length := by rw [← HL.out]; exact hlt
              have hltI' : (k : Int) < (m'.ops.length : Int) := by omega
              obtain ⟨x, hx⟩ : ∃ x, m.ops[k]? = some x := ⟨_, List.getElem?_eq_getElem hlt⟩
              obtain ⟨y, hy⟩ : ∃ y, m'.ops[k]? = some y := ⟨_, List.getElem?_eq_getElem hlt'⟩
              have hlx := HDo.out x (List.mem_of_getElem? hx)
              have hly := HDo'.out y (List.mem_of_getElem? hy)
              obtain ⟨ad, hA, hbx, hca⟩ := (HRo.out.later HB.out).elem (by decide) (fun s hs => opCells_length (HDo.out s hs)) hx
              obtain ⟨ad', hA', hby, hcb⟩ := (HRo'.out.later HB.out).elem (by decide) (fun s hs => opCells_length (HDo'.out s hs)) hy
              subst hA
              subst hA'
              have HCA := Lib.hid (fun u : Grw wr => grw_cells u.prop (ad := ad.add (k * 37)) (by rw [block_add]; exact hbx) hca)
              have HCB := Lib.hid (fun u : Grw wr => grw_cells u.prop (ad := ad'.add (k * 37)) (by rw [block_add]; exact hby) hcb)
              have HLA := Lib.hid (show (Tryd.prog.info? 55).map (·.size) = some (opCells x).length by rw [opCells_length hlx]; exact infoO37)
              have HLB := Lib.hid (show (Tryd.prog.info? 55).map (·.size) = some (opCells y).length by rw [opCells_length hly]; exact infoO37)
              have heq := fun w => run_equal_op x y hlx hly w
              have HOX := Lib.hid hx
              have HOY := Lib.hid hy
              have hg3 := fun u : Grw wr => (u.prop.cell (p := ⟨w.heap.size, 3, none⟩) HX.out.blk.lt).trans x3
              have hh3 := fun u : Grw wr => (u.prop.cell (p := ⟨w.heap.size + 1, 3, none⟩) HX'.out.blk.lt).trans y3
              obtain ⟨X, hXX⟩ : ∃ X, X = (opCells x).toArray := ⟨_, rfl⟩
              obtain ⟨Y, hYY⟩ : ∃ Y, Y = (opCells y).toArray := ⟨_, rfl⟩
              have HXX := Lib.hid hXX
              have HYY := Lib.hid hYY
              rw [← hXX, ← hYY] at heq
              clear hx hy hca hcb hlx hly hbx hby hXX hYY
              go_wp2_with fail
              refine wp_region_grow (by kernel_rfl) (by kernel_rfl) ?_
              go_big_quiet_step (fail)
              go_big_quiet_step (fail)
              go_big_quiet_step (fail)
              go_big_quiet_step (fail)
              refine quiet_load_any (by rfl) 55 (.tmp 45) rfl (ad.add (k * 37)) rfl (opCells x) HCA.out _ Tryd.underlying55 rfl HLA.out ?_; rw [← HXX.out]; go_simp
              go_big_quiet_step (fail)
              go_big_quiet_step (fail)
              go_big_quiet_step (fail)
              go_big_quiet_step (fail)
              refine quiet_load_any (by rfl) 55 (.tmp 50) rfl (ad'.add (k * 37)) rfl (opCells y) HCB.out _ Tryd.underlying55 rfl HLB.out ?_; rw [← HYY.out]; go_simp
              go_big_quiet_step (fail)
              refine wpQuiet_nil ?_
              first | (intro _ hw'; obtain ⟨u, hw''⟩ := hw'; subst hw'') | intro u
              have HXu := Lib.hid (HX.out.later u.prop)
              have HXu' := Lib.hid (BoxC.mk (HX'.out.blk.later u.prop))
              have HBu := Lib.hid (HB.out.trans (u.prop.mono HB.out.size))
              clear hg3 hh3 x3 y3
              by_cases hxy : x = y
              · have hd : decide (x = y) = true := decide_eq_true hxy
                have HXY := Lib.hid hxy
                rw [hd] at heq ⊢
                clear hd hxy
                go_wp2_with fail
                go_roundw
                case rel => exact ⟨k + 1, by omega, by go_num, take_more HOX.out HOY.out HT.out HXY.out, HXu.out, HXu'.out, HBu.out⟩
                case measure => simp [intOf]; omega
              · have hd : decide (x = y) = false := decide_eq_false hxy
                have HXY := Lib.hid hxy
                rw [hd] at heq ⊢
                clear hd hxy
                go_wp2_with fail
                go_ret
                exact ⟨ret_bool (decide_eq_false (fun hL => HXY.out (Option.some.inj (HOX.out.symm.trans (by rw [hL]; exact HOY.out))))).symm, HBu.out⟩
            · have hltI : ¬ (k : Int) < (m.ops.length : Int) := by omega
              go_wp2_with fail
              go_ret
              refine ⟨ret_bool (decide_eq_true ?_).symm, HB.out⟩
              have h1 := HT.out
              have h2 := HL.out
              rw [List.take_of_length_le (by omega), List.take_of_length_le (by omega)] at h1
              obtain ⟨p1, a1, n1, o1⟩ := m
              obtain ⟨p2, a2, n2, o2⟩ := m'
              have q1 := HP.out
              have q2 := HA.out
              have q3 := HN.out
              simp only [] at h1 q1 q2 q3
              rw [h1, q1, q2, q3]
        · have el : ((m.ops.length : Int) != (m'.ops.length : Int)) = true := by rw [bne_iff_ne]; omega
          have HNE := Lib.hid hl
          clear hl
          go_wp2_with fail
          go_ret
          exact ⟨ret_bool (decide_eq_false (fun hL => HNE.out (by rw [hL]))).symm, HB1.out⟩
      · have en := sB_ne hn
        have HNE := Lib.hid hn
        clear hn
        go_wp2_with fail
        go_ret
        exact ⟨ret_bool (decide_eq_false (fun hL => HNE.out (by rw [hL]))).symm, HB1.out⟩
    · have ea := sB_ne ha
      have HNE := Lib.hid ha
      clear ha
      go_wp2_with fail
      go_ret
      exact ⟨ret_bool (decide_eq_false (fun hL => HNE.out (by rw [hL]))).symm, HB1.out⟩
  · have ep : decide (m.parents = m'.parents) = false := decide_eq_false hp
    rw [ep]
    have HNE := Lib.hid hp
    clear hp ep
    go_wp2_with fail
    go_ret
    exact ⟨ret_bool (decide_eq_false (fun hL => HNE.out (by rw [hL]))).symm, HB1.out⟩
end Go.Proofs.YtjgegggcbjecbaaDoor
