/- The program's add: a node behind the others, or why it may not be. -/
import Derived.Test.YtebfocfeehajjaaGX
namespace Go.Proofs.Ytebfocfeehajjaa
open Go Go.RowKit

abbrev Nod := Gr.Nd (List UInt8)
/-- What is wrong with a node behind those. -/
def wrongN (ah : List (List UInt8)) (x : Nod) : Nat :=
  if 8 < x.ps.length then 4 else if Cm.rises Tx.less x.ps = false then 7 else if x.id ∈ ah then 6 else if ∀ p ∈ x.ps, p ∈ ah then 0 else 5
def ndC (x : Nod) (A : Option Addr) (c : Nat) : List Value := bv x.id ++ [.slice A x.ps.length c]
theorem ndC_length {x : Nod} {A : Option Addr} {c : Nat} (h : x.id.length = 32) : (ndC x A c).length = 33 := by unfold ndC; rw [List.length_append, bv_length, h]; rfl
theorem ndC_one (x : Nod) (A : Option Addr) (c : Nat) : ∀ u ∈ ndC x A c, u.oneCell' = true := by
  intro u hu
  unfold ndC at hu
  rcases List.mem_append.1 hu with h | h
  · exact bv_one _ u h
  · rw [List.mem_singleton.1 h]; rfl
theorem ndC_id {x : Nod} {A : Option Addr} {c : Nat} {j : Nat} {v : Value} (hv : (bv x.id)[j]? = some v) : (ndC x A c)[j]? = some v := by
  unfold ndC; rw [List.getElem?_append_left (List.getElem?_eq_some_iff.1 hv).1, hv]
theorem ndC_ps {x : Nod} {A : Option Addr} {c : Nat} (h : x.id.length = 32) : (ndC x A c)[32]? = some (.slice A x.ps.length c) := by
  unfold ndC; rw [List.getElem?_append_right (by rw [bv_length, h]; exact Nat.le_refl _), bv_length, h]; rfl
theorem infoNode : (Try.prog.info? 50).map (·.size) = some 33 := by kernel_rfl

theorem add_zero0 (b j : Nat) : (⟨b, 0, none⟩ : Addr).add j = ⟨b, j, none⟩ := by rw [Addr.add_lit, Nat.zero_add]
theorem blk_at {w : World} {g : Nat} {t : TypeId} {X : List Value} (h : Blk w g t X.toArray) {j : Nat} {v : Value} (hv : X[j]? = some v) : w.cell? ⟨g, j, none⟩ = some v := by
  rw [h.cell j, List.getElem?_toArray, hv]
/-- A value of many cells read in a still region. -/
theorem still_load_any {P : Program} {ops : Array Oper} {w : World} {Q : Act → Prop} {rest : List Oper} {op : Oper} {a : Act} (hw : Region.wanted op (yielded ops a.tmps) = true) (ty : TypeId) (x : Operand) (ho : op.op = .load ty x)
    (ad : Addr) (hx : a.eval x = .pointer (some ad)) (cs : List Value) (d : TypeDesc) (hc : ∀ j v, cs[j]? = some v → w.cell? (ad.add j) = some v)
    (hu : P.underlying ty = some d) (hd : d.isRow = true) (hi : (P.info? ty).map (·.size) = some cs.length)
    (h : wpStill P ops w Q rest (a.put op.dst (.agg cs.toArray))) : wpStill P ops w Q (op :: rest) a := by
  rw [wpStill, if_pos hw]
  unfold Oper.still execOp
  simp only [ho, hx, Instr.loadAt, Instr.sureAddr, Sem.run_bind, Sem.run_pure, Result.andThen_ok, run_loadVar_any w ad ty cs d hc hu hd hi]
  exact ⟨rfl, h⟩

def AddO (base gb db mb : Nat) (ids : List (List UInt8)) (ns : List (List Nat)) (bs : List Bool) (x : Nod) (w : World) (e : Ending) (w' : World) : Prop :=
  e = .returned (.int .i64 (wrongN ids x : Int)) ∧ ((wrongN ids x ≠ 0 ∧ Below w.heap.size w w') ∨
    (wrongN ids x = 0 ∧ Below base w w' ∧ ∃ A c B d V, GM base gb db mb A c B d V (ids ++ [x.id]) (ns ++ [x.ps.map ids.idxOf]) bs w'))

set_option maxRecDepth 100000 in
set_option maxHeartbeats 4000000 in
theorem padd_any (base gb db mb : Nat) (A : Option Addr) (c : Nat) (B : Option Addr) (d : Nat) (V : List Value) (ids : List (List UInt8)) (ns : List (List Nat)) (bs : List Bool) (x : Nod) (A0 : Option Addr) (c0 : Nat) (w : World) (hG : GM base gb db mb A c B d V ids ns bs w) (hid : x.id.length = 32) (hD : ∀ p ∈ x.ps, p.length = 32)
    (hR : Rd w w.heap.size A0 (x.ps.length * 32) (rows bv x.ps)) (hl : x.ps.length * 32 ≤ 140737488351232) (hn : ids.length < 200) :
    Calls Try.prog 49 #[.pointer (some ⟨gb, 0, none⟩), .agg (ndC x A0 c0).toArray] w (AddO base gb db mb ids ns bs x w) := by
  have HD := Lib.hid hD
  have HID := Lib.hid hid
  have HBase := Lib.hid hG.geo
  have hbl : base ≤ w.heap.size := by have := hG.geo; have := hG.lt; omega
  obtain ⟨wa, hwa⟩ : ∃ y, y = w.alloc (.cells (ndC x A0 c0).toArray 50) := ⟨_, rfl⟩
  have HB := Lib.hid (show Below w.heap.size w wa by rw [hwa]; exact below_alloc w _)
  have HX := Lib.hid (show Blk wa w.heap.size 50 (ndC x A0 c0).toArray by rw [hwa]; exact Blk.new w _ _)
  have HG := Lib.hid (hG.below HB.out)
  have HR := Lib.hid (hR.later HB.out)
  have x32 : wa.cell? ⟨w.heap.size, 32, none⟩ = some (.slice A0 x.ps.length c0) := (HX.out.cell 32).trans (by rw [List.getElem?_toArray]; exact ndC_ps hid)
  have HW := Lib.hid (show wrongN ids x = if 8 < x.ps.length then 4 else if Cm.rises Tx.less x.ps = false then 7 else if x.id ∈ ids then 6 else if ∀ p ∈ x.ps, p ∈ ids then 0 else 5 from rfl)
  replace hwa := hwa.symm
  clear hD hid hR hG
  by_cases h8 : 8 < x.ps.length
  · have d8 : decide ((8 : Int) < (x.ps.length : Int)) = true := decide_eq_true (by omega)
    have d8' : decide (8 < x.ps.length) = true := decide_eq_true h8
    rw [if_pos h8] at HW
    clear h8
    go_enter Try.func49, Try.ntmps49
    go_wp2_with fail
    go_ret
    exact ⟨by rw [HW.out]; rfl, .inl ⟨by rw [HW.out]; decide, HB.out⟩⟩
  have d8 : decide ((8 : Int) < (x.ps.length : Int)) = false := decide_eq_false (by omega)
  have d8' : decide (8 < x.ps.length) = false := decide_eq_false h8
  rw [if_neg h8] at HW
  have HRS := Lib.hid (rise_any x.ps A0 c0 wa HR.out HD.out (by omega))
  go_enter Try.func49, Try.ntmps49
  go_wp2_with fail
  refine HRS.out.mono ?_; rintro e w1 ⟨rfl, hb1⟩
  have HB1 := Lib.hid (HB.out.trans (hb1.mono HB.out.size))
  have HX1 := Lib.hid (HX.out.later hb1)
  have HG1 := Lib.hid (HG.out.below hb1)
  have HR1 := Lib.hid (HR.out.later hb1)
  have x32 : w1.cell? ⟨w.heap.size, 32, none⟩ = some (.slice A0 x.ps.length c0) := (HX1.out.cell 32).trans (by rw [List.getElem?_toArray]; exact ndC_ps HID.out)
  clear hb1 HRS hwa HB HX HG HR
  by_cases hri : Cm.rises Tx.less x.ps = true
  · rw [hri]
    rw [if_neg (by rw [hri]; decide)] at HW
    clear hri
    have HXI := Lib.hid (fun u : Grw w1 => fun j v (hv : (bv x.id)[j]? = some v) => blk_cells (HX1.out.grw u) j v (ndC_id hv))
    have g2 : ∀ u : Grw w1, u.val.cell? ⟨gb, 2, none⟩ = some (.map (some mb)) := fun u => ((HG1.out.cells.later u.prop).cell 2).trans rfl
    obtain ⟨nn, -, hlook⟩ := HG1.out.map.look HID.out
    have hlk : ∀ u : Grw w1, (Instr.lookup 76 (.map (some mb)) (.agg (bv x.id).toArray) true).run Try.prog u.val = .ok (.tuple #[.int .i64 nn, .bool (decide (x.id ∈ ids))]) u.val := fun u => hlook _ u.prop
    have HLA := Lib.hid (show (Try.prog.info? 47).map (·.size) = some (bv x.id).length by rw [bv_length, HID.out]; exact infoD32)
    clear hlook
    go_wp2_with fail
    by_cases hin : x.id ∈ ids
    · have hd : decide (x.id ∈ ids) = true := decide_eq_true hin
      rw [hd] at hlk
      rw [if_pos hin] at HW
      clear hd hin
      refine wp_region_grow (by kernel_rfl) (by kernel_rfl) ?_
      go_big_quiet_step (fail)
      go_big_quiet_step (fail)
      go_big_quiet_step (fail)
      go_big_quiet_step (fail)
      go_big_quiet_step (fail)
      refine quiet_load_any (by rfl) 47 (.tmp 22) rfl ⟨w.heap.size, 0, none⟩ rfl (bv x.id) HXI.out _ Try.underlying47 rfl HLA.out ?_; go_simp
      go_big_quiet_step (fail)
      go_big_quiet_step (fail)
      go_big_quiet_step (fail)
      go_big_quiet_step (fail)
      go_big_quiet_step (fail)
      go_big_quiet_step (fail)
      refine wpQuiet_nil ?_
      first | (intro _ hw'; obtain ⟨u, hw''⟩ := hw'; subst hw'') | intro u
      go_wp2_with fail
      go_ret
      exact ⟨by rw [HW.out]; rfl, .inl ⟨by rw [HW.out]; decide, HB1.out.trans (u.prop.mono HB1.out.size)⟩⟩
    · have hd : decide (x.id ∈ ids) = false := decide_eq_false hin
      have HIN := Lib.hid hin
      rw [hd] at hlk
      rw [if_neg hin] at HW
      clear hd hin
      refine wp_region_grow (by kernel_rfl) (by kernel_rfl) ?_
      go_big_quiet_step (fail)
      go_big_quiet_step (fail)
      go_big_quiet_step (fail)
      go_big_quiet_step (fail)
      go_big_quiet_step (fail)
      refine quiet_load_any (by rfl) 47 (.tmp 22) rfl ⟨w.heap.size, 0, none⟩ rfl (bv x.id) HXI.out _ Try.underlying47 rfl HLA.out ?_; go_simp
      go_big_quiet_step (fail)
      go_big_quiet_step (fail)
      go_big_quiet_step (fail)
      go_big_quiet_step (fail)
      go_big_quiet_step (fail)
      go_big_quiet_step (fail)
      refine wpQuiet_nil ?_
      first | (intro _ hw'; obtain ⟨u, hw''⟩ := hw'; subst hw'') | intro u
      obtain ⟨w2, hw2⟩ : ∃ y, y = u.val := ⟨_, rfl⟩
      have HB2 := Lib.hid (show Below w.heap.size w w2 by rw [hw2]; exact HB1.out.trans (u.prop.mono HB1.out.size))
      have HX2 := Lib.hid (show Blk w2 w.heap.size 50 (ndC x A0 c0).toArray by rw [hw2]; exact HX1.out.grw u)
      have HG2 := Lib.hid (show GM base gb db mb A c B d V ids ns bs w2 by rw [hw2]; exact HG1.out.below u.prop)
      have HR2 := Lib.hid (show Rd w2 w2.heap.size A0 (x.ps.length * 32) (rows bv x.ps) by rw [hw2]; exact HR1.out.later u.prop)
      rw [← hw2]
      clear hw2 HB1 HX1 HG1 HR1 x32 g2 hlk HXI
      have x32 : w2.cell? ⟨w.heap.size, 32, none⟩ = some (.slice A0 x.ps.length c0) := (HX2.out.cell 32).trans (by rw [List.getElem?_toArray]; exact ndC_ps HID.out)
      have HF := Lib.hid (pfind_any gb mb _ _ _ ids x.ps A0 c0 w2.heap.size w2 HG2.out.cells HG2.out.map HR2.out (Nat.le_refl _) hl HD.out)
      go_wp2_with fail
      refine HF.out.mono ?_; rintro e w3 ⟨hb3, ⟨A3, c3, hall, rfl, ho3⟩ | ⟨hall, rfl⟩⟩
      · rw [if_pos hall] at HW
        have HB3 := Lib.hid (HB2.out.trans (hb3.mono HB2.out.size))
        have HX3 := Lib.hid (HX2.out.later hb3)
        have HO3 := Lib.hid ho3
        obtain ⟨hVl, hgx⟩ := HG2.out.gx
        have HVL := Lib.hid hVl
        have HPL := Lib.hid HG2.out.plen
        have HDG := Lib.hid HG2.out.dig
        have HG3 := Lib.hid (hgx.below hb3)
        have hlt3 : w2.heap.size ≤ w3.heap.size := hb3.size
        have HGD := Lib.hid (HG3.out.below (Below.refl w3.heap.size w3).drew)
        obtain ⟨w4, hput, hm4, hg4⟩ := HGD.out.map.put (d := x.id) HID.out HIN.out (by omega)
        have HG4 := Lib.hid (HGD.out.mapped hg4 hm4)
        have HO4 := Lib.hid (show w4.ownsRow w2.heap.size 3 1 (.slice A3 x.ps.length c3) x.ps.length (nv (x.ps.map ids.idxOf)) from ho3.kept (w := w3.drew) hg4 (.inr (HGD.out.map.ne_own (w := w3.drew) ho3)))
        have HX4 := Lib.hid (show Blk w4 w.heap.size 50 (ndC x A0 c0).toArray from HX3.out.drew.grown hg4 (fun e => HGD.out.map.ne HX3.out.drew (Option.some.inj e)))
        have HS4 := Lib.hid (show w3.heap.size ≤ w4.heap.size from hg4.size)
        have HBB4 := Lib.hid (show Below base w w4 from ((HB3.out.drew).mono hbl).grown hg4 (Nat.le_trans hbl HB3.out.size) (fun q hq => by cases hq; exact HBase.out.2.2))
        have HXD := Lib.hid (fun j v (hv : (bv x.id)[j]? = some v) => blk_cells HX3.out.drew j v (ndC_id hv))
        have g2 : w3.drew.cell? ⟨gb, 2, none⟩ = some (.map (some mb)) := (HGD.out.cells.cell 2).trans rfl
        have g0 : w3.drew.cell? ⟨gb, 0, none⟩ = some (.slice A ids.length c) := (HGD.out.cells.cell 0).trans rfl
        clear hb3 hall x32 ho3 hgx hm4 hg4 hVl
        go_wp2_with fail
        refine still_tail 11 (by kernel_rfl) (by kernel_rfl) ?_
        simp only [List.take_succ_cons, List.take_zero, List.drop_succ_cons, List.drop_zero]
        generalize World.drew w3 = wd at *
        with_reducible refine wpStill_step (fun K hK => ?_); go_simp; refine hK _ ?_; clear hK K
        with_reducible refine wpStill_step (fun K hK => ?_); go_simp; refine hK _ ?_; clear hK K
        with_reducible refine wpStill_step (fun K hK => ?_); go_simp; refine hK _ ?_; clear hK K
        with_reducible refine wpStill_step (fun K hK => ?_); go_simp; refine hK _ ?_; clear hK K
        with_reducible refine wpStill_step (fun K hK => ?_); go_simp; refine hK _ ?_; clear hK K
        refine still_load_any (by rfl) 47 (.tmp 41) rfl ⟨w.heap.size, 0, none⟩ rfl (bv x.id) _ HXD.out Try.underlying47 rfl HLA.out ?_; go_simp
        with_reducible refine wpStill_step (fun K hK => ?_); go_simp; refine hK _ ?_; clear hK K
        with_reducible refine wpStill_step (fun K hK => ?_); go_simp; refine hK _ ?_; clear hK K
        with_reducible refine wpStill_step (fun K hK => ?_); go_simp; refine hK _ ?_; clear hK K
        with_reducible refine wpStill_step (fun K hK => ?_); go_simp; refine hK _ ?_; clear hK K
        with_reducible refine wpStill_step (fun K hK => ?_); go_simp; refine hK _ ?_; clear hK K
        refine wpStill_nil ?_
        clear g0 g2 HXD HGD
        go_wp2_with fail
        obtain ⟨we, hwe⟩ : ∃ y, y = World.drew w4 := ⟨_, rfl⟩
        have HGE := Lib.hid (show GX base gb db mb _ _ _ _ _ _ _ _ we by rw [hwe]; exact HG4.out.below (Below.refl w4.heap.size w4).drew)
        have HXE := Lib.hid (show Blk we w.heap.size 50 (ndC x A0 c0).toArray by rw [hwe]; exact HX4.out.drew)
        have HOE := Lib.hid (show we.ownsRow w2.heap.size 3 1 (.slice A3 x.ps.length c3) x.ps.length (nv (x.ps.map ids.idxOf)) by rw [hwe]; exact HO4.out)
        have HBE := Lib.hid (show Below base w we by rw [hwe]; exact HBB4.out.drew)
        have HSE := Lib.hid (show w3.heap.size ≤ we.heap.size by rw [hwe]; exact HS4.out)
        have HSd := Lib.hid (show we.cell? ⟨gb, 0, none⟩ = some (.slice A ids.length c) ∧ ∀ j v, (bv x.id)[j]? = some v → we.cell? ⟨w.heap.size, j, none⟩ = some v from ⟨(HGE.out.cells.cell 0).trans rfl, fun j v hv => blk_at HXE.out (ndC_id hv)⟩)
        obtain ⟨iD, hiD, hzD0, hzD1, hzD2⟩ := info_parts infoDg
        have HDS := Lib.hid (show (bv x.id).toArray.size = 32 by rw [bv_size]; exact HID.out)
        clear HG4 HX4 HO4 HBB4 HS4
        refine wp_region_any (by kernel_rfl) ?_
        change wpAny _ _ _ _ _ _ _ (World.drew _)
        rw [← hwe]
        clear hwe
        refine wpAny_of_zed (S := fun x' => x'.cell? ⟨gb, 0, none⟩ = some (.slice A ids.length c) ∧ ∀ j v, (bv x.id)[j]? = some v → x'.cell? ⟨w.heap.size, j, none⟩ = some v) (z := 11) _ _ _ _ ?_
        refine zed_take (i := 0) (v := ?_) rfl (by kernel_rfl) (by kernel_rfl) (by kernel_rfl) (by kernel_rfl) (fun _ _ _ h => h) (Or.inl ⟨by rfl, ?_⟩) (HSd.out) ?_
        rotate_left
        · intro wq hS
          have hS' := hS
          try simp only [] at hS'
          go_simp; try with_reducible rfl
        change wpAnyZ _ _ _ _ _ _ _ _ (Act.put _ _ _) _
        refine zed_take (i := 1) (v := ?_) rfl (by kernel_rfl) (by kernel_rfl) (by kernel_rfl) (by kernel_rfl) (fun _ _ _ h => h) (Or.inl ⟨by rfl, ?_⟩) (HSd.out) ?_
        rotate_left
        · intro wq hS
          have hS' := hS
          try simp only [] at hS'
          go_simp; try with_reducible rfl
        change wpAnyZ _ _ _ _ _ _ _ _ (Act.put _ _ _) _
        refine zed_take (i := 2) (v := ?_) rfl (by kernel_rfl) (by kernel_rfl) (by kernel_rfl) (by kernel_rfl) (fun _ _ _ h => h) (Or.inl ⟨by rfl, ?_⟩) (HSd.out) ?_
        rotate_left
        · intro wq hS
          have hS' := hS
          try simp only [] at hS'
          go_simp; try with_reducible rfl
        change wpAnyZ _ _ _ _ _ _ _ _ (Act.put _ _ _) _
        refine zed_take (i := 3) (v := ?_) rfl (by kernel_rfl) (by kernel_rfl) (by kernel_rfl) (by kernel_rfl) (fun _ _ _ h => h) (Or.inl ⟨by rfl, ?_⟩) (HSd.out) ?_
        rotate_left
        · intro wq hS
          have hS' := hS
          try simp only [] at hS'
          go_simp; try with_reducible rfl
        change wpAnyZ _ _ _ _ _ _ _ _ (Act.put _ _ _) _
        refine zed_take (i := 4) (v := ?_) rfl (by kernel_rfl) (by kernel_rfl) (by kernel_rfl) (by kernel_rfl) (fun _ _ _ h => h) (Or.inl ⟨by rfl, ?_⟩) (HSd.out) ?_
        rotate_left
        · intro wq hS
          have hS' := hS
          try simp only [] at hS'
          go_simp; try with_reducible rfl
        change wpAnyZ _ _ _ _ _ _ _ _ (Act.put _ _ _) _
        refine zed_take (i := 5) (v := ?_) rfl (by kernel_rfl) (by kernel_rfl) (by kernel_rfl) (by kernel_rfl) (fun _ _ _ h => h) (Or.inl ⟨by rfl, ?_⟩) (HSd.out) ?_
        rotate_left
        · intro wq hS
          have hS' := hS
          try simp only [] at hS'
          go_simp; try with_reducible rfl
        change wpAnyZ _ _ _ _ _ _ _ _ (Act.put _ _ _) _
        go_simp
        refine zed_load (i := 6) rfl (by kernel_rfl) (by kernel_rfl) (by kernel_rfl) (by kernel_rfl) 47 (.tmp 53) rfl ⟨w.heap.size, 0, none⟩ (bv x.id) rfl (fun w' h j v hv => by rw [add_zero0]; exact h.2 j v hv) Try.underlying47 rfl HLA.out rfl (fun _ _ _ h => h) HSd.out ?_
        go_simp
        refine zed_op 7 (by kernel_rfl) rfl rfl (fun K hK => op_one_slice 30 47 (.tmp 54) rfl iD _ (bv x.id).toArray rfl Try.underlying30 hiD hzD0 (by rw [hzD1, HDS.out]) (by rw [HDS.out]; decide) (by rw [HDS.out]; decide) (hK _ _ (fun _ => ?hS7) ?_))
        case hS7 => exact ⟨(HGE.out.cells.alloc (.cells (bv x.id).toArray 47)).cell 0 |>.trans rfl, fun j v hv => blk_at (HXE.out.alloc _) (ndC_id hv)⟩
        clear hK K
        go_simp
        have HGF := Lib.hid (HGE.out.below (below_alloc we (.cells (bv x.id).toArray 47)))
        have HXF := Lib.hid (HXE.out.alloc (.cells (bv x.id).toArray 47))
        have HOF := Lib.hid (HOE.out.alloc (.cells (bv x.id).toArray 47))
        have HBF := Lib.hid (show Below base w (we.alloc (.cells (bv x.id).toArray 47)) from HBE.out.alloc (Nat.le_trans hbl HBE.out.size) _)
        have HBA := Lib.hid (show base ≤ (we.alloc (.cells (bv x.id).toArray 47)).heap.size by have := HBE.out.size; simp; omega)
        refine zed_op 8 (by kernel_rfl) rfl rfl (fun K hK => ?_)
        refine op_appK _ 32 (.tmp 52) (.tmp 55) 30 30 rfl base 47 iD _ 32 Try.underlying30 hiD hzD0 hzD1 hzD2 rfl (.slice A ids.length c) ids.length (rows bv ids) rfl HGF.out.own (.slice (some ⟨we.heap.size, 0, none⟩) 1 1) 1 (bv x.id) rfl (new_srcK 32 Try.underlying30 we (bv x.id) 1 1 47 (0, 0) (by rw [bv_length, HID.out]) (bv_one x.id)) (by unfold maxLen; omega) (by omega) HBA.out ?_
        intro v5 w5 ho5 hg5 _
        obtain ⟨A5, c5, hv5, -, -, -⟩ := own_form ho5
        subst hv5
        have hlen : ids.length + 1 = (ids ++ [x.id]).length := by simp
        have HG5 := Lib.hid (HGF.out.more hg5 (vI' := .slice A5 (ids.length + 1) c5) (ids' := ids ++ [x.id]) (by rw [← hlen, rows_append, rows_one]; exact ho5))
        have HX5 := Lib.hid (HXF.out.grown hg5 (fun e => row_own_ne HGF.out.own HXF.out (by decide) e.symm))
        have HO5 := Lib.hid (HOF.out.kept hg5 (rows_apart HOF.out HGF.out.own (by decide)))
        have HB5 := Lib.hid (HBF.out.grown hg5 HBA.out (fun q hq => (HGF.out.own.lt q hq).1))
        clear hlen
        refine hK _ _ (fun _ => ⟨(HG5.out.cells.cell 0).trans rfl, fun j v hv => blk_at HX5.out (ndC_id hv)⟩) ?_; clear hK K ho5 hg5
        go_simp
        refine zed_op 9 (by kernel_rfl) rfl rfl (fun K hK => ?_)
        go_simp
        refine hK _ _ (fun _ => ⟨(HG5.out.cells.cell 0).trans rfl, fun j v hv => blk_at HX5.out (ndC_id hv)⟩) ?_; clear hK K
        go_simp
        refine zed_op 10 (by kernel_rfl) rfl rfl (fun K hK => ?_)
        go_simp
        refine hK _ _ (fun _ => ⟨(HG5.out.cells.cell 0).trans rfl, fun j v hv => blk_at HX5.out (ndC_id hv)⟩) ?_; clear hK K
        go_simp
        refine zed_op 11 (by kernel_rfl) rfl rfl (fun K hK => wp_store_blk 30 (.tmp 58) (.tmp 56) rfl gb 0 (.slice A5 (ids.length + 1) c5) rfl rfl 78 _ HG5.out.cells (by simp) rfl (by kernel_rfl) (fun w6 hA6 hg6 => hK _ _ (fun h => absurd rfl h) ?_))
        clear hK K
        have HG6 := Lib.hid (HG5.out.stored hg6 hA6)
        have HO6 := Lib.hid (HO5.out.kept hg6 (.inr (row_own_ne HO5.out HG5.out.cells (by decide))))
        have HB6 := Lib.hid (HB5.out.grown hg6 (Nat.le_trans hbl HB5.out.size) (fun q hq => by cases hq; exact HBase.out.1))
        clear hA6 hg6
        refine ⟨by kernel_rfl, ?_⟩
        obtain ⟨iS, hiS, hzS0, hzS1, hzS2⟩ := info_parts infoS
        have h1 : w6.cell? ⟨gb, 1, none⟩ = some (.slice B ids.length d) := (HG6.out.cells.cell 1).trans rfl
        have HP6 := Lib.hid (show (w6.alloc (.cells #[.slice A3 x.ps.length c3] 64)).ownsRow base 64 1 (.slice B ids.length d) ids.length V by have h := HG6.out.pown; rw [HVL.out] at h; exact h.alloc _)
        have HB6a := Lib.hid (show base ≤ (w6.alloc (.cells #[.slice A3 x.ps.length c3] 64)).heap.size by have := HB6.out.size; simp; omega)
        go_wp2_with (first
          | (refine at_dst 66 rfl ?_; go_must (refine wp_appK _ 1 rfl (.tmp 63) (.tmp 65) 60 60 rfl base 64 iS _ 24 Try.underlying60 hiS hzS0 hzS1 hzS2 rfl (.slice B ids.length d) ids.length V rfl HP6.out (.slice (some ⟨w6.heap.size, 0, none⟩) 1 1) 1 [.slice A3 x.ps.length c3] rfl (new_srcK 1 Try.underlying60 w6 [.slice A3 x.ps.length c3] 1 1 64 (0, 0) rfl (by simp [Value.oneCell'])) (by unfold maxLen; omega) (by omega) HB6a.out ?_); intro v7 w7 ho7 hg7 _; obtain ⟨B7, d7, hv7, -, -, -⟩ := own_form ho7; subst hv7; have HG7 := Lib.hid ((HG6.out.below (below_alloc w6 (.cells #[.slice A3 x.ps.length c3] 64))).morePs hg7 (A := A3) (c := c3) (L := x.ps.map ids.idxOf) (by have h := own_base HO6.out (Nat.le_trans hbl HB2.out.size); rw [List.length_map]; exact h.alloc _) (by rw [HPL.out, HVL.out]) (by have h := ho7; rw [List.length_append, List.length_map, HVL.out]; exact h)); have HB7 := Lib.hid ((HB6.out.alloc (Nat.le_trans hbl HB6.out.size) (.cells #[.slice A3 x.ps.length c3] 64)).grown hg7 HB6a.out (fun q hq => (HP6.out.lt q hq).1)); clear ho7 hg7 h1)
          | (refine at_sto 60 (.tmp 68) (.tmp 66) rfl ?_; go_must (refine wpList_store_b rfl 60 (.tmp 68) (.tmp 66) rfl gb 1 (.slice B7 (ids.length + 1) d7) rfl rfl 78 _ HG7.out.cells (by simp) rfl (by kernel_rfl) ?_); intro w8 hA8 hg8; have HG8 := Lib.hid (HG7.out.stored hg8 hA8); have HB8 := Lib.hid (HB7.out.grown hg8 (Nat.le_trans hbl HB7.out.size) (fun q hq => by cases hq; exact HBase.out.1)); clear hA8 hg8))
        go_ret
        have hli : (ids ++ [x.id]).length = ids.length + 1 := by simp
        refine ⟨by rw [HW.out]; rfl, .inr ⟨HW.out, HB8.out, A5, c5, B7, d7, V ++ [.slice A3 x.ps.length c3], ?_⟩⟩
        have h8' := HG8.out
        rw [List.length_map] at h8'
        refine ⟨?_, ?_, ?_, ?_, ?_, h8'.prow, h8'.due, h8'.map, h8'.geo⟩
        · rw [hli]; exact h8'.cells
        · have h := h8'.own; rw [hli] at h ⊢; exact h
        · intro s hs
          rw [List.mem_append, List.mem_singleton] at hs
          rcases hs with hs | rfl
          · exact HDG.out s hs
          · exact HID.out
        · have h := h8'.pown; rw [List.length_append, HVL.out] at h; rw [hli]; exact h
        · rw [hli, List.length_append, HPL.out]; rfl
      · rw [if_neg hall] at HW
        have HB3 := Lib.hid (HB2.out.trans (hb3.mono HB2.out.size))
        clear hb3 hall x32
        go_wp2_with fail
        go_ret
        exact ⟨by rw [HW.out]; rfl, .inl ⟨by rw [HW.out]; decide, HB3.out⟩⟩
  · have hrf : Cm.rises Tx.less x.ps = false := by simpa using hri
    rw [hrf]
    rw [if_pos hrf] at HW
    clear hri hrf
    go_wp2_with fail
    go_ret
    exact ⟨by rw [HW.out]; rfl, .inl ⟨by rw [HW.out]; decide, HB1.out⟩⟩
end Go.Proofs.Ytebfocfeehajjaa
