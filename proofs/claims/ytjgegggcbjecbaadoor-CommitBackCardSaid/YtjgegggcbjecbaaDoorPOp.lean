/- The program's reader: op. -/
import Derived.Test.YtjgegggcbjecbaaDoorPOpR
import Derived.Test.YtjgegggcbjecbaaDoorPMayB
namespace Go.Proofs.YtjgegggcbjecbaaDoor
open Go Go.RowKit

theorem opP_is (b : List UInt8) (p : Nat) : Cm.opP b p = match anyP b p with
    | .error e => .error e
    | .ok z => if 11 < z.1 then .error 7 else match refR z.1 b z.2 with
      | .error e => .error e
      | .ok r => match (if z.1 % 2 = 0 then Pa.digP 1 else Pa.noneP []) b r.2 with
        | .error e => .error e
        | .ok y => .ok ((z.1, (r.1.commit, (r.1.n.toNat, y.1))), y.2) := by
  unfold Cm.opP
  cases h1 : anyP b p with
  | error e => exact Pa.bind_err (by rw [numP_any, h1])
  | ok z =>
    obtain ⟨n, q⟩ := z
    simp only []
    by_cases hn : 11 < n
    · rw [if_pos hn]; exact Pa.bind_err (by rw [numP_any, h1]; simp only []; rw [if_pos hn])
    · rw [if_neg hn]
      have hN : Pa.numP 11 7 b p = .ok (n, q) := by rw [numP_any, h1]; simp only []; rw [if_neg hn]
      unfold refR
      cases h2 : (if n / 4 = 2 then Pa.digP 32 else Pa.noneP Cm.zero32) b q with
      | error e => exact Pa.bind_err2 hN (Pa.bind_err h2)
      | ok d =>
        obtain ⟨d, q2⟩ := d
        simp only []
        cases h3 : (if 0 < n / 4 then Pa.posP 7 else Pa.noneP 0) b q2 with
        | error e => exact Pa.bind_err2 hN (Pa.bind_err2 h2 (Pa.bind_err h3))
        | ok k =>
          obtain ⟨k, q3⟩ := k
          simp only []
          cases h4 : (if n % 2 = 0 then Pa.digP 1 else Pa.noneP []) b q3 with
          | error e => exact Pa.bind_err2 hN (Pa.bind_err2 h2 (Pa.bind_err2 h3 h4))
          | ok y => obtain ⟨y, q4⟩ := y; exact Pa.bind_ok hN (Pa.bind_ok h2 (Pa.bind_ok h3 h4))
theorem refR_is {n p q : Nat} {b : List UInt8} {r : Cm.Rf} (h : refR n b p = .ok (r, q)) : ∃ (d : List UInt8) (k : Nat), r = ⟨decide (n / 4 = 1), d, (k : Int)⟩ ∧ d.length = 32 := by
  unfold refR at h
  split at h
  · cases h
  · rename_i d hd
    split at h
    · cases h
    · rename_i k hk
      simp only [Except.ok.injEq, Prod.mk.injEq] at h
      refine ⟨d.1, k.1, h.1.symm, ?_⟩
      split at hd
      · exact digP_ok (q := d.2) hd
      · unfold Pa.noneP at hd
        simp only [Except.ok.injEq] at hd
        rw [← hd]; rfl
set_option maxRecDepth 100000 in
theorem build_ref (lf o : Bool) (c : List UInt8) (n : Int) (hc : c.length = 32) : Tryd.prog.built 55 [(0, .int .i64 1), (1, .bool lf), (2, .agg (refCells ⟨o, c, n⟩).toArray)] = some (opCells ⟨1, lf, ⟨o, c, n⟩, 0⟩).toArray := by
  match c, hc with
  | [x0, x1, x2, x3, x4, x5, x6, x7, x8, x9, x10, x11, x12, x13, x14, x15, x16, x17, x18, x19, x20, x21, x22, x23, x24, x25, x26, x27, x28, x29, x30, x31], _ => show _ = _; kernel_rfl
theorem op_kind (k k' : Int) (l : Bool) (r : Cm.Rf) (y : UInt8) : (opCells ⟨k, l, r, y⟩).toArray.setIfInBounds 0 (.int .i64 k') = (opCells ⟨k', l, r, y⟩).toArray := by
  rw [List.setIfInBounds_toArray]; rfl

/-- What stands while an operation is read. -/
structure OpS (B g : Nat) (A : Option Addr) (c : Nat) (b : List UInt8) (p : Nat) (w wr : World) : Prop where
  rdr : RdrB B g A c b p wr
  res : Blk wr w.heap.size 55 (opCells op0).toArray
  gb : w.grownBy wr (some g)
  hg : g < w.heap.size
theorem OpS.read {B g c p q : Nat} {A : Option Addr} {b : List UInt8} {w wr w' : World} (h : OpS B g A c b p w wr) (hg : wr.grownBy w' (some g)) (hx : RdrB B g A c b q w') : OpS B g A c b q w w' :=
  ⟨hx, h.res.grown hg (fun e => by have := Option.some.inj e; have := h.hg; omega), gb_trans h.gb hg, h.hg⟩
theorem OpS.alloc {B g c p : Nat} {A : Option Addr} {b : List UInt8} {w wr : World} (h : OpS B g A c b p w wr) (o : Obj) : OpS B g A c b p w (wr.alloc o) :=
  ⟨h.rdr.later (below_alloc wr o), h.res.alloc o, gb_trans h.gb (gb_below (below_alloc wr o)), h.hg⟩
theorem OpS.far {B g c p G i : Nat} {A : Option Addr} {b : List UInt8} {w wr : World} {v : Value} (h : OpS B g A c b p w wr) (hG : w.heap.size < G) : OpS B g A c b p w (wr.setCell ⟨G, i, none⟩ v) :=
  ⟨h.rdr.farSet (Nat.lt_trans h.hg hG), h.res.far (p := ⟨G, i, none⟩) (by simp; omega) v, gb_far h.gb (Nat.le_of_lt hG), h.hg⟩
theorem OpS.done {B g c p : Nat} {A : Option Addr} {b : List UInt8} {w wr : World} (h : OpS B g A c b p w wr) (z : Cm.RawOp) : RdO B g A c b (.ok (z, p)) (fun z => opV (Cm.toOp z)) w (.returned (.agg (opCells (Cm.toOp z)).toArray)) (wr.setRow w.heap.size (opCells (Cm.toOp z)).toArray) :=
  ⟨gb_farRow h.gb (Nat.le_refl _), rfl, h.rdr.farRow h.hg⟩

set_option maxRecDepth 100000 in
set_option maxHeartbeats 4000000 in
theorem rop_read (B g c p : Nat) (A : Option Addr) (b : List UInt8) (w : World) (h : RdrB B g A c b p w) (hc : b.length ≤ c) (hm : c ≤ 9223372036854775807) :
    Calls Tryd.prog 54 #[.pointer (some ⟨g, 0, none⟩)] w (RdO B g A c b (Cm.opP b p) (fun z => opV (Cm.toOp z)) w) := by
  have hpn : ∀ (v : Value) (w : World), (Instr.panic (.iface 28 v)).run Tryd.prog w = .halt (.panic (.iface 28 v)) w := fun _ _ => rfl
  have hzl := op0_lit 0 false
  obtain ⟨Z, hZ⟩ : ∃ Z, Z = (opCells op0).toArray := ⟨_, rfl⟩
  have HZE := Lib.hid hZ
  have hzl2 := (show Z = _ from hZ.trans hzl).symm
  obtain ⟨w1, hw1⟩ : ∃ y, y = w.alloc (.cells Z 55) := ⟨_, rfl⟩
  have hb1 : Below w.heap.size w w1 := by rw [hw1]; exact below_alloc w _
  have H1 := Lib.hid (show OpS B g A c b p w w1 from ⟨h.later hb1, by rw [hw1, ← hZ]; exact Blk.new w _ _, gb_below hb1, h.blk.lt⟩)
  have HR := Lib.hid (opP_is b p)
  have HZS := Lib.hid (show Z.size = 37 by rw [hZ]; exact opA_size rfl)
  obtain ⟨R, hR⟩ : ∃ R, R = Cm.opP b p := ⟨_, rfl⟩
  rw [← hR] at HR ⊢
  have C := Lib.hid (number_any B g c p A b w1 H1.out.rdr hc hm)
  replace hw1 := hw1.symm
  clear hzl hZ hb1 h hR
  cases hr : anyP b p with
  | error er =>
    rw [hr] at C HR
    simp only [] at HR
    clear hr
    go_enter Tryd.func54, Tryd.ntmps54
    go_wp2_with fail
    refine C.out.mono ?_; rintro e w5 ⟨hg, he⟩
    simp only [] at he
    unfold thr at he
    subst he
    have HG := Lib.hid (gb_trans H1.out.gb hg)
    clear hg
    go_wp2_with fail
    exact ⟨rfl, HG.out, by rw [HR.out]; rfl⟩
  | ok z =>
    obtain ⟨n, q⟩ := z
    rw [hr] at C HR
    obtain ⟨hn63, -⟩ := anyP_lim hr
    simp only [] at HR
    clear hr
    by_cases hn : 11 < n
    · have hd : decide ((11 : Int) < (n : Int)) = true := decide_eq_true (by omega)
      have hd2 : decide (11 < n) = true := decide_eq_true hn
      rw [if_pos hn] at HR
      clear hn
      go_enter Tryd.func54, Tryd.ntmps54
      go_wp2_with fail
      refine C.out.mono ?_; rintro e w5 ⟨hg, rfl, hx⟩
      have HG := Lib.hid (gb_trans H1.out.gb hg)
      clear hg hx
      go_wp2_with fail
      exact ⟨rfl, HG.out, by rw [HR.out]; rfl⟩
    have hd : decide ((11 : Int) < (n : Int)) = false := decide_eq_false (by omega)
    have hd2 : decide (11 < n) = false := decide_eq_false hn
    rw [if_neg hn] at HR
    have hn11 : n ≤ 11 := by omega
    have h2 := and2 hn11
    have h1 := and1 hn11
    have CR := Lib.hid (fun (w2 : World) (h : RdrB B g A c b q w2) => rref_read B g c q n A b w2 h hn11 hc hm)
    obtain ⟨lf, hlf⟩ : ∃ l, l = decide (n / 2 % 2 = 1) := ⟨_, rfl⟩
    have HLF := Lib.hid hlf
    have e2 : ((if n / 2 % 2 = 1 then (2 : Int) else 0) != 0) = lf := by rw [hlf]; split <;> simp_all
    obtain ⟨m2, hm2⟩ : ∃ v : Int, v = (if n / 2 % 2 = 1 then (2 : Int) else 0) := ⟨_, rfl⟩
    rw [← hm2] at h2 e2
    clear hn hlf hm2
    cases hrf : refR n b q with
    | error er =>
      rw [hrf] at HR CR
      simp only [] at HR
      clear hrf
      go_enter Tryd.func54, Tryd.ntmps54
      go_wp2_with fail
      refine C.out.mono ?_; rintro e w2 ⟨hg, rfl, hx⟩
      have H2 := Lib.hid (H1.out.read hg hx)
      clear hg hx hw1
      go_wp2_with fail
      refine (CR.out w2 H2.out.rdr).mono ?_; rintro e w5 ⟨hg, he⟩
      simp only [] at he
      unfold thr at he
      subst he
      have HG := Lib.hid (gb_trans H2.out.gb hg)
      clear hg
      go_wp2_with fail
      exact ⟨rfl, HG.out, by rw [HR.out]; rfl⟩
    | ok z =>
      obtain ⟨r, q2⟩ := z
      rw [hrf] at HR CR
      obtain ⟨d, k, hrr, hdl⟩ := refR_is hrf
      subst hrr
      simp only [Int.toNat_natCast] at HR
      have HBR := Lib.hid (build_ref lf (decide (n / 4 = 1)) d (k : Int) hdl)
      have HXS := Lib.hid (show (opCells ⟨1, lf, ⟨decide (n / 4 = 1), d, (k : Int)⟩, 0⟩).toArray.size = 37 from opA_size hdl)
      have HDL := Lib.hid hdl
      obtain ⟨ow, how⟩ : ∃ o, o = decide (n / 4 = 1) := ⟨_, rfl⟩
      have HOW := Lib.hid how
      rw [← how] at HBR HXS CR
      obtain ⟨X, hX⟩ : ∃ X, X = (opCells ⟨1, lf, ⟨ow, d, (k : Int)⟩, 0⟩).toArray := ⟨_, rfl⟩
      have HXE := Lib.hid hX
      rw [← hX] at HBR HXS
      have HXI := Lib.hid (show (Tryd.prog.info? 55).map (·.size) = some X.size by rw [HXS.out]; exact infoO37)
      have HXA := Lib.hid (show X.all (·.oneCell') = true by rw [hX]; exact opCells_all _)
      clear hrf hdl how hX
      go_enter Tryd.func54, Tryd.ntmps54
      go_wp2_with fail
      refine C.out.mono ?_; rintro e w2 ⟨hg, rfl, hx⟩
      have H2 := Lib.hid (H1.out.read hg hx)
      clear hg hx hw1
      go_wp2_with fail
      refine (CR.out w2 H2.out.rdr).mono ?_; rintro e w3 ⟨hg, rfl, hx⟩
      have H3 := Lib.hid (H2.out.read hg hx)
      clear hg hx
      have H4 := Lib.hid (H3.out.alloc (.cells X 55))
      have HX4 := Lib.hid (Blk.new w3 55 X)
      have hgs : w.heap.size < w3.heap.size := H3.out.res.lt
      have HGS := Lib.hid hgs
      obtain ⟨w4, hw4⟩ : ∃ y, y = w3.alloc (.cells X 55) := ⟨_, rfl⟩
      rw [← hw4] at H4 HX4
      obtain ⟨G, hG⟩ : ∃ y, y = w3.heap.size := ⟨_, rfl⟩
      have HGE := Lib.hid hG
      rw [← hG] at HX4 HGS
      replace hw4 := hw4.symm
      unfold refV
      have c0 : w4.cell? ⟨G, 0, none⟩ = some (.int .i64 1) := by rw [HX4.out.cell, HXE.out, List.getElem?_toArray]; rfl
      have f0 := HX4.out.frozen 0
      have CS := Lib.hid (single_any B g c q2 A b w4 H4.out.rdr hc hm)
      clear hgs hG
      have hpar : n % 2 = 0 ∨ n % 2 = 1 := by omega
      rcases hpar with hpar | hpar
      · have e1 : (if n % 2 = 1 then (1 : Int) else 0) = 0 := by rw [if_neg (by omega)]
        rw [e1] at h1
        rw [if_pos hpar] at HR
        have HPAR := Lib.hid hpar
        clear e1 hpar
        go_wp2_with (first | (refine at_dst 16 rfl ?_; go_must (refine wpList_build_as rfl 55 _ rfl [(0, .int .i64 1), (1, .bool lf), (2, .agg (refCells ⟨ow, d, (k : Int)⟩).toArray)] rfl X HBR.out ?_)) | (refine at_sto 55 (.tmp 4) (.tmp 16) rfl ?_; go_must (refine wpList_store_row rfl 55 (.tmp 4) (.tmp 16) rfl w3.heap.size X rfl rfl 55 _ (heap_alloc_new w3 _) HXI.out (by rw [HXS.out]; exact HZS.out) HXA.out ?_); rw [World.setRow_alloc_new, hw4, ← HGE.out]))
        cases hs : Pa.digP 1 b q2 with
        | error er =>
          rw [hs] at CS HR
          simp only [] at HR
          clear hs
          refine CS.out.mono ?_; rintro e w5 ⟨hg, he⟩
          simp only [] at he
          unfold thr at he
          subst he
          have HG := Lib.hid (gb_trans H4.out.gb hg)
          clear hg
          go_wp2_with fail
          exact ⟨rfl, HG.out, by rw [HR.out]; rfl⟩
        | ok z =>
          obtain ⟨y, q3⟩ := z
          rw [hs] at CS HR
          simp only [] at HR
          clear hs
          obtain ⟨yb, hyb⟩ : ∃ x, x = y.headD 0 := ⟨_, rfl⟩
          have HYB := Lib.hid hyb
          refine CS.out.mono ?_; rintro e w5 ⟨hg, he, hx⟩
          simp only [← hyb] at he
          subst he
          have H5 := Lib.hid (H4.out.read hg hx)
          have HX5 := Lib.hid (HX4.out.grown hg (fun e => by have h1 := Option.some.inj e; have h2 := H1.out.hg; have h3 := HGS.out; omega))
          have c36 : w5.cell? ⟨G, 36, none⟩ = some (.int .u8 0) := by rw [HX5.out.cell, HXE.out, List.getElem?_toArray]; exact opCells_36 HDL.out
          have f36 := HX5.out.frozen 36
          have H6 := Lib.hid (H5.out.far (i := 36) (v := .int .u8 (yb.toNat : Int)) HGS.out)
          have HX6 := Lib.hid (HX5.out.set_ 36 (.int .u8 (yb.toNat : Int)))
          obtain ⟨w6, hw6⟩ : ∃ x, x = w5.setCell ⟨G, 36, none⟩ (.int .u8 (yb.toNat : Int)) := ⟨_, rfl⟩
          rw [← hw6] at H6 HX6
          replace hw6 := hw6.symm
          clear hg hx hyb
          have HTO := Lib.hid (show Cm.toOp (n, (d, (k, y))) = ⟨1, lf, ⟨ow, d, (k : Int)⟩, yb⟩ by unfold Cm.toOp; simp only []; rw [HPAR.out, ← HLF.out, ← HOW.out, ← HYB.out]; rfl)
          obtain ⟨Y, hY⟩ : ∃ Y, Y = (opCells ⟨1, lf, ⟨ow, d, (k : Int)⟩, yb⟩).toArray := ⟨_, rfl⟩
          have HYT := Lib.hid (show Y = (opCells (Cm.toOp (n, (d, (k, y))))).toArray by rw [hY, HTO.out])
          have HYS := Lib.hid (show Y.size = 37 by rw [hY]; exact opA_size HDL.out)
          have HYI := Lib.hid (show (Tryd.prog.info? 55).map (·.size) = some Y.size by rw [HYS.out]; exact infoO37)
          have HYA := Lib.hid (show Y.all (·.oneCell') = true by rw [hY]; exact opCells_all _)
          have HY6 := Lib.hid (show Blk w6 G 55 Y by have h := HX6.out; rw [HXE.out, op_byte _ _ _ _ _ _ _ HDL.out, ← hY] at h; exact h)
          have HZ6 := Lib.hid (show Blk w6 w.heap.size 55 Z by rw [HZE.out]; exact H6.out.res)
          clear hY
          go_wp2_with (first | (refine at_lod 55 (.tmp 4) rfl ?_; go_must (refine wpList_load_row rfl 55 (.tmp 4) rfl G rfl _ Y (0, 0) _ HY6.out Tryd.underlying55 rfl HYI.out ?_)) | (refine at_sto 55 (.tmp 2) (.tmp 24) rfl ?_; go_must (refine wpList_store_row rfl 55 (.tmp 2) (.tmp 24) rfl w.heap.size Y rfl rfl _ Z HZ6.out HYI.out (by rw [HYS.out]; exact HZS.out) HYA.out ?_); go_wp2_with fail))
          exact bodyPost_ret (v := .agg Y) (results_row_only rfl _ _ w.heap.size _ _ _ _ rfl (HZ6.out.row _) Tryd.underlying55 rfl HYI.out) rfl (by rw [HR.out, HYT.out]; exact H6.out.done _)
      · have e1 : (if n % 2 = 1 then (1 : Int) else 0) = 1 := by rw [if_pos hpar]
        rw [e1] at h1
        rw [if_neg (by omega)] at HR
        have HPAR := Lib.hid hpar
        have HR := Lib.hid (show R = .ok ((n, (d, (k, ([] : List UInt8)))), q2) from HR.out)
        have H6 := Lib.hid (H4.out.far (i := 0) (v := .int .i64 2) HGS.out)
        have HX6 := Lib.hid (HX4.out.set_ 0 (.int .i64 2))
        obtain ⟨w6, hw6⟩ : ∃ x, x = w4.setCell ⟨G, 0, none⟩ (.int .i64 2) := ⟨_, rfl⟩
        rw [← hw6] at H6 HX6
        replace hw6 := hw6.symm
        clear e1 hpar CS
        have HTO := Lib.hid (show Cm.toOp (n, (d, (k, ([] : List UInt8)))) = ⟨2, lf, ⟨ow, d, (k : Int)⟩, 0⟩ by unfold Cm.toOp; simp only []; rw [HPAR.out, ← HLF.out, ← HOW.out]; rfl)
        obtain ⟨Y, hY⟩ : ∃ Y, Y = (opCells ⟨2, lf, ⟨ow, d, (k : Int)⟩, 0⟩).toArray := ⟨_, rfl⟩
        have HYT := Lib.hid (show Y = (opCells (Cm.toOp (n, (d, (k, ([] : List UInt8)))))).toArray by rw [hY, HTO.out])
        have HYS := Lib.hid (show Y.size = 37 by rw [hY]; exact opA_size HDL.out)
        have HYI := Lib.hid (show (Tryd.prog.info? 55).map (·.size) = some Y.size by rw [HYS.out]; exact infoO37)
        have HYA := Lib.hid (show Y.all (·.oneCell') = true by rw [hY]; exact opCells_all _)
        have HY6 := Lib.hid (show Blk w6 G 55 Y by have h := HX6.out; rw [HXE.out, op_kind, ← hY] at h; exact h)
        have HZ6 := Lib.hid (show Blk w6 w.heap.size 55 Z by rw [HZE.out]; exact H6.out.res)
        clear hY
        go_wp2_with (first | (refine at_dst 16 rfl ?_; go_must (refine wpList_build_as rfl 55 _ rfl [(0, .int .i64 1), (1, .bool lf), (2, .agg (refCells ⟨ow, d, (k : Int)⟩).toArray)] rfl X HBR.out ?_)) | (refine at_sto 55 (.tmp 4) (.tmp 16) rfl ?_; go_must (refine wpList_store_row rfl 55 (.tmp 4) (.tmp 16) rfl w3.heap.size X rfl rfl 55 _ (heap_alloc_new w3 _) HXI.out (by rw [HXS.out]; exact HZS.out) HXA.out ?_); rw [World.setRow_alloc_new, hw4, ← HGE.out]) | (refine at_lod 55 (.tmp 4) rfl ?_; go_must (refine wpList_load_row rfl 55 (.tmp 4) rfl G rfl _ Y (0, 0) _ HY6.out Tryd.underlying55 rfl HYI.out ?_)) | (refine at_sto 55 (.tmp 2) (.tmp 24) rfl ?_; go_must (refine wpList_store_row rfl 55 (.tmp 2) (.tmp 24) rfl w.heap.size Y rfl rfl _ Z HZ6.out HYI.out (by rw [HYS.out]; exact HZS.out) HYA.out ?_); go_wp2_with fail))
        exact bodyPost_ret (v := .agg Y) (results_row_only rfl _ _ w.heap.size _ _ _ _ rfl (HZ6.out.row _) Tryd.underlying55 rfl HYI.out) rfl (by rw [HR.out, HYT.out]; exact H6.out.done _)
end Go.Proofs.YtjgegggcbjecbaaDoor
