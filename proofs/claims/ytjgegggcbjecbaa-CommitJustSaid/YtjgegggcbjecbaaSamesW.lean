/- CommitSames: whether two commits are the same is told as the document says, whichever is told first. No conditions but the row's own. -/
import Derived.Test.YtjgegggcbjecbaaMaysW
import Derived.Test.YtjgegggcbjecbaaRSame
import Derived.Test.YtjgegggcbjecbaaLOwn
namespace Go.Proofs.Ytjgegggcbjecbaa
open Go Go.RowKit

section
variable {P : Program} {md : Region.Mode} {ops : Array Oper} {S : World → Prop} {Q : Exit → Act → World → Prop}
/-- A load of many cells, taken first. -/
theorem held_load {i : Nat} {oi : Oper} {fuel : Nat} {listed : Array Bool} {a : Act} {w : World} (hi : ops[i]? = some oi) (hs : Region.noSelect ops = true) (hf : Region.free md ops listed i = true) (hr : (Region.ready md ops listed).contains i = true)
    (ty : TypeId) (x : Operand) (ho : oi.op = .load ty x) (ad : Addr) (cs : List Value) (hx : a.eval x = .pointer (some ad)) (hc : ∀ w, S w → ∀ j v, cs[j]? = some v → w.cell? (ad.add j) = some v) {d : TypeDesc} (hu : P.underlying ty = some d) (hd : d.isRow = true) (hz : (P.info? ty).map (·.size) = some cs.length)
    (hw : Region.wanted oi (yielded ops a.tmps) = true) (hQ : ∀ c a w, Q (.panic c) (a.put oi.dst (.agg cs.toArray)) w → Q (.panic c) a w) (hS : S w)
    (h : wpAnyH P md ops Q S fuel (listed.setIfInBounds i true) (a.put oi.dst (.agg cs.toArray)) w) : wpAnyH P md ops Q S (fuel + 1) listed a w :=
  wpAnyH_take hi hs hf hr hQ (Or.inl ⟨hw, fun w hS => by
    unfold execOp
    simp only [ho, hx, Instr.loadAt, Instr.sureAddr, Sem.run_bind, Sem.run_pure, Result.andThen_ok, run_loadVar_any w ad ty cs d (hc w hS) hu hd hz]⟩) hS h
end

set_option maxRecDepth 100000 in
set_option maxHeartbeats 4000000 in
theorem commitSames_walk (m m' : Cm.Cm) (v v' : Value) (A B A' B' : Option Addr) (c d c' d' : Nat) (w : World) (hI : InCm w v A c B d m) (hI' : InCm w v' A' c' B' d' m') (hm : CmLim m) (hm' : CmLim m') :
    Calls Try.prog 8 #[v, v'] w (Ret (.bool true) w) := by
  obtain ⟨l1, l2, l3, l4⟩ := hm
  obtain ⟨l1', l2', l3', l4'⟩ := hm'
  have ⟨hv, _⟩ := hI
  have ⟨hv', _⟩ := hI'
  obtain ⟨X, hX⟩ : ∃ X, X = cmX m A c B d := ⟨_, rfl⟩
  obtain ⟨Y, hY⟩ : ∃ Y, Y = cmX m' A' c' B' d' := ⟨_, rfl⟩
  have ev : v = .agg X.toArray := by rw [hX]; exact hv
  have ev' : v' = .agg Y.toArray := by rw [hY]; exact hv'
  have HXI := Lib.hid (show (Try.prog.info? 31).map (·.size) = some X.length by rw [hX]; exact cmX_info)
  have HYI := Lib.hid (show (Try.prog.info? 31).map (·.size) = some Y.length by rw [hY]; exact cmX_info)
  clear hv hX hv' hY
  subst ev
  subst ev'
  obtain ⟨wa, hwa⟩ : ∃ y, y = w.alloc (.cells X.toArray 31) := ⟨_, rfl⟩
  obtain ⟨wb, hwb⟩ : ∃ y, y = wa.alloc (.cells Y.toArray 31) := ⟨_, rfl⟩
  have hsa : wa.heap.size = w.heap.size + 1 := by rw [hwa]; simp
  have HBX := Lib.hid (show Blk wb w.heap.size 31 X.toArray by rw [hwb, hwa]; exact (Blk.new w _ _).alloc _)
  have HBY := Lib.hid (show Blk wb (w.heap.size + 1) 31 Y.toArray by rw [hwb, ← hsa]; exact Blk.new wa _ _)
  have HBW := Lib.hid (show Below w.heap.size w wb by rw [hwb, hwa]; exact (below_alloc w _).alloc (by simp) _)
  have HCX := Lib.hid (fun u : Grw wb => blk_cells (HBX.out.grw u))
  have HCY := Lib.hid (fun u : Grw wb => blk_cells (HBY.out.grw u))
  have HIX := Lib.hid (fun u : Grw wb => hI.later (HBW.out.trans (u.prop.mono HBW.out.size)))
  have HIY := Lib.hid (fun u : Grw wb => hI'.later (HBW.out.trans (u.prop.mono HBW.out.size)))
  obtain ⟨b, hb⟩ : ∃ b, b = decide (m = m') := ⟨_, rfl⟩
  have hb' : b = decide (m' = m) := by rw [hb]; exact decide_eq_decide.2 ⟨Eq.symm, Eq.symm⟩
  have C1 := Lib.hid (fun u : Grw wb => psame_any m m' _ _ A B A' B' c d c' d' u.val (HIX.out u) (HIY.out u) (by omega) (by omega))
  have C2 := Lib.hid (fun u : Grw wb => rsame_any m m' _ _ A B A' B' c d c' d' u.val (HIX.out u) (HIY.out u) (by omega) (by omega))
  have C3 := Lib.hid (fun u : Grw wb => psame_any m' m _ _ A' B' A B c' d' c d u.val (HIY.out u) (HIX.out u) (by omega) (by omega))
  have C4 := Lib.hid (fun u : Grw wb => lown_any m _ A B c d u.val (HIX.out u) l1 l2)
  have C5 := Lib.hid (fun (u : Grw wb) (v2 : Value) (A2 B2 : Option Addr) (c2 d2 : Nat) (h : InCm u.val v2 A2 c2 B2 d2 m) => psame_any m m _ v2 A B A2 B2 c d c2 d2 u.val (HIX.out u) h (by omega) (by omega))
  rw [← hb] at C1 C2
  rw [← hb'] at C3
  rw [decide_eq_true rfl] at C5
  have k1 : (b == b) = true := beq_self_eq_true b
  rw [hwa] at hwb
  replace hwb := hwb.symm
  clear hI hI' hb hb' hwa HBX HBY hsa
  go_enter Try.func8, Try.ntmps8
  go_wp2_with fail
  refine wp_region_any (by kernel_rfl) ?_
  change wpAny _ _ _ _ _ _ _ (World.drew _)
  refine wpAny_of_held (S := (fun x : World => Below wb.heap.size wb x)) _ _ _ _ ?_
  refine held_load (i := 0) rfl (by kernel_rfl) (by kernel_rfl) (by kernel_rfl) 31 (.tmp 2) rfl ⟨w.heap.size, 0, none⟩ X rfl (fun w h => HCX.out ⟨w, h⟩) Try.underlying31 rfl HXI.out (by rfl) (fun _ _ _ h => h) (Below.refl _ _).drew ?_
  change wpAnyH _ _ _ _ _ _ _ (Act.put _ _ _) _
  refine held_load (i := 1) rfl (by kernel_rfl) (by kernel_rfl) (by kernel_rfl) 31 (.tmp 3) rfl ⟨w.heap.size + 1, 0, none⟩ Y rfl (fun w h => HCY.out ⟨w, h⟩) Try.underlying31 rfl HYI.out (by rfl) (fun _ _ _ h => h) (Below.refl _ _).drew ?_
  change wpAnyH _ _ _ _ _ _ _ (Act.put _ _ _) _
  refine held_load (i := 3) rfl (by kernel_rfl) (by kernel_rfl) (by kernel_rfl) 31 (.tmp 2) rfl ⟨w.heap.size, 0, none⟩ X rfl (fun w h => HCX.out ⟨w, h⟩) Try.underlying31 rfl HXI.out (by rfl) (fun _ _ _ h => h) (Below.refl _ _).drew ?_
  change wpAnyH _ _ _ _ _ _ _ (Act.put _ _ _) _
  refine held_load (i := 4) rfl (by kernel_rfl) (by kernel_rfl) (by kernel_rfl) 31 (.tmp 3) rfl ⟨w.heap.size + 1, 0, none⟩ Y rfl (fun w h => HCY.out ⟨w, h⟩) Try.underlying31 rfl HYI.out (by rfl) (fun _ _ _ h => h) (Below.refl _ _).drew ?_
  change wpAnyH _ _ _ _ _ _ _ (Act.put _ _ _) _
  go_simp
  refine held_one (i := 2) (by kernel_rfl) rfl (fun K hK => ?_)
  go_simp
  refine (grow_call (C1.out ⟨wb.drew, (Below.refl _ _).drew⟩)).mono ?_; rintro e w' ⟨rfl, ua, rfl⟩
  dsimp only
  refine hK _ _ ua.prop ?_; clear hK K
  go_simp
  refine held_one (i := 5) (by kernel_rfl) rfl (fun K hK => ?_)
  go_simp
  refine (grow_call (C2.out ua)).mono ?_; rintro e w' ⟨rfl, u1, rfl⟩
  dsimp only
  refine hK _ _ u1.prop ?_; clear hK K
  go_simp
  refine wpAnyH_take (i := 6) (v := ?_) rfl (by kernel_rfl) (by kernel_rfl) (by kernel_rfl) (fun _ _ _ h => h) (Or.inl ⟨by rfl, ?_⟩) (u1.prop) ?_
  rotate_left
  · intro wq hS
    have hS' := hS
    try simp only [] at hS'
    go_simp; try with_reducible rfl
  change wpAnyH _ _ _ _ _ _ _ (Act.put _ _ _) _
  refine wpAnyH_take (i := 7) (v := ?_) rfl (by kernel_rfl) (by kernel_rfl) (by kernel_rfl) (fun _ _ _ h => h) (Or.inl ⟨by rfl, ?_⟩) (u1.prop) ?_
  rotate_left
  · intro wq hS
    have hS' := hS
    try simp only [] at hS'
    go_simp; try with_reducible rfl
  change wpAnyH _ _ _ _ _ _ _ (Act.put _ _ _) _
  go_simp
  refine held_load (i := 8) rfl (by kernel_rfl) (by kernel_rfl) (by kernel_rfl) 31 (.tmp 3) rfl ⟨w.heap.size + 1, 0, none⟩ Y rfl (fun w h => HCY.out ⟨w, h⟩) Try.underlying31 rfl HYI.out (by rfl) (fun _ _ _ h => h) u1.prop ?_
  change wpAnyH _ _ _ _ _ _ _ (Act.put _ _ _) _
  refine held_load (i := 9) rfl (by kernel_rfl) (by kernel_rfl) (by kernel_rfl) 31 (.tmp 2) rfl ⟨w.heap.size, 0, none⟩ X rfl (fun w h => HCX.out ⟨w, h⟩) Try.underlying31 rfl HXI.out (by rfl) (fun _ _ _ h => h) u1.prop ?_
  change wpAnyH _ _ _ _ _ _ _ (Act.put _ _ _) _
  refine held_load (i := 11) rfl (by kernel_rfl) (by kernel_rfl) (by kernel_rfl) 31 (.tmp 2) rfl ⟨w.heap.size, 0, none⟩ X rfl (fun w h => HCX.out ⟨w, h⟩) Try.underlying31 rfl HXI.out (by rfl) (fun _ _ _ h => h) u1.prop ?_
  change wpAnyH _ _ _ _ _ _ _ (Act.put _ _ _) _
  refine held_load (i := 12) rfl (by kernel_rfl) (by kernel_rfl) (by kernel_rfl) 31 (.tmp 3) rfl ⟨w.heap.size + 1, 0, none⟩ Y rfl (fun w h => HCY.out ⟨w, h⟩) Try.underlying31 rfl HYI.out (by rfl) (fun _ _ _ h => h) u1.prop ?_
  change wpAnyH _ _ _ _ _ _ _ (Act.put _ _ _) _
  go_simp
  refine held_one (i := 10) (by kernel_rfl) rfl (fun K hK => ?_)
  go_simp
  refine (grow_call (C3.out u1)).mono ?_; rintro e w' ⟨rfl, ub, rfl⟩
  dsimp only
  refine hK _ _ ub.prop ?_; clear hK K
  go_simp
  refine held_one (i := 13) (by kernel_rfl) rfl (fun K hK => ?_)
  go_simp
  refine (grow_call (C2.out ub)).mono ?_; rintro e w' ⟨rfl, u2, rfl⟩
  dsimp only
  refine hK _ _ u2.prop ?_; clear hK K
  go_simp
  refine wpAnyH_take (i := 14) (v := ?_) rfl (by kernel_rfl) (by kernel_rfl) (by kernel_rfl) (fun _ _ _ h => h) (Or.inl ⟨by rfl, ?_⟩) (u2.prop) ?_
  rotate_left
  · intro wq hS
    have hS' := hS
    try simp only [] at hS'
    go_simp; try with_reducible rfl
  change wpAnyH _ _ _ _ _ _ _ (Act.put _ _ _) _
  refine wpAnyH_take (i := 15) (v := ?_) rfl (by kernel_rfl) (by kernel_rfl) (by kernel_rfl) (fun _ _ _ h => h) (Or.inl ⟨by rfl, ?_⟩) (u2.prop) ?_
  rotate_left
  · intro wq hS
    have hS' := hS
    try simp only [] at hS'
    go_simp; try with_reducible rfl
  change wpAnyH _ _ _ _ _ _ _ (Act.put _ _ _) _
  refine wpAnyH_take (i := 16) (v := ?_) rfl (by kernel_rfl) (by kernel_rfl) (by kernel_rfl) (fun _ _ _ h => h) (Or.inl ⟨by rfl, ?_⟩) (u2.prop) ?_
  rotate_left
  · intro wq hS
    have hS' := hS
    try simp only [] at hS'
    go_simp; try with_reducible rfl
  change wpAnyH _ _ _ _ _ _ _ (Act.put _ _ _) _
  go_simp
  refine held_load (i := 17) rfl (by kernel_rfl) (by kernel_rfl) (by kernel_rfl) 31 (.tmp 2) rfl ⟨w.heap.size, 0, none⟩ X rfl (fun w h => HCX.out ⟨w, h⟩) Try.underlying31 rfl HXI.out (by rfl) (fun _ _ _ h => h) u2.prop ?_
  change wpAnyH _ _ _ _ _ _ _ (Act.put _ _ _) _
  refine held_load (i := 18) rfl (by kernel_rfl) (by kernel_rfl) (by kernel_rfl) 31 (.tmp 2) rfl ⟨w.heap.size, 0, none⟩ X rfl (fun w h => HCX.out ⟨w, h⟩) Try.underlying31 rfl HXI.out (by rfl) (fun _ _ _ h => h) u2.prop ?_
  change wpAnyH _ _ _ _ _ _ _ (Act.put _ _ _) _
  go_simp
  refine held_one (i := 19) (by kernel_rfl) rfl (fun K hK => ?_)
  go_simp
  refine (C4.out u2).mono ?_; rintro e w3 ⟨v3, rfl, hown, hb3⟩
  dsimp only
  obtain ⟨A3, c3, B3, d3, hI3⟩ := hown.inCm
  have HG3 := Lib.hid (u2.prop.trans (hb3.mono u2.prop.size))
  have C6 := Lib.hid (C5.out ⟨w3, HG3.out⟩ _ _ _ _ _ hI3)
  refine hK _ _ HG3.out ?_; clear hK K hown hb3 hI3
  refine held_one (i := 20) (by kernel_rfl) rfl (fun K hK => ?_)
  go_simp
  refine C6.out.mono ?_; rintro e w4 ⟨rfl, hb4⟩
  dsimp only
  have HG4 := Lib.hid (HG3.out.trans (hb4.mono HG3.out.size))
  refine hK _ _ HG4.out ?_; clear hK K hb4
  go_simp
  refine wpAnyH_take (i := 21) (v := ?_) rfl (by kernel_rfl) (by kernel_rfl) (by kernel_rfl) (fun _ _ _ h => h) (Or.inl ⟨by rfl, ?_⟩) (HG4.out) ?_
  rotate_left
  · intro wq hS
    have hS' := hS
    try simp only [] at hS'
    go_simp; try with_reducible rfl
  change wpAnyH _ _ _ _ _ _ _ (Act.put _ _ _) _
  refine wpAnyH_take (i := 22) (v := ?_) rfl (by kernel_rfl) (by kernel_rfl) (by kernel_rfl) (fun _ _ _ h => h) (Or.inl ⟨by rfl, ?_⟩) (HG4.out) ?_
  rotate_left
  · intro wq hS
    have hS' := hS
    try simp only [] at hS'
    go_simp; try with_reducible rfl
  change wpAnyH _ _ _ _ _ _ _ (Act.put _ _ _) _
  go_simp
  refine held_one (i := 23) (by kernel_rfl) rfl (fun K hK => ?_)
  go_simp
  refine (alive_any _).mono ?_; rintro e w5 ⟨rfl, hb5⟩
  dsimp only
  have HG5 := Lib.hid (HG4.out.trans (hb5.mono HG4.out.size))
  refine hK _ _ HG5.out ?_; clear hK K hb5
  go_simp
  refine wpAnyH_take (i := 24) (v := ?_) rfl (by kernel_rfl) (by kernel_rfl) (by kernel_rfl) (fun _ _ _ h => h) (Or.inl ⟨by rfl, ?_⟩) (HG5.out) ?_
  rotate_left
  · intro wq hS
    have hS' := hS
    try simp only [] at hS'
    go_simp; try with_reducible rfl
  change wpAnyH _ _ _ _ _ _ _ (Act.put _ _ _) _
  refine wpAnyH_take (i := 25) (v := ?_) rfl (by kernel_rfl) (by kernel_rfl) (by kernel_rfl) (fun _ _ _ h => h) (Or.inl ⟨by rfl, ?_⟩) (HG5.out) ?_
  rotate_left
  · intro wq hS
    have hS' := hS
    try simp only [] at hS'
    go_simp; try with_reducible rfl
  change wpAnyH _ _ _ _ _ _ _ (Act.put _ _ _) _
  go_simp
  refine ⟨by kernel_rfl, ?_⟩
  go_wp2_with fail
  go_ret
  exact ⟨rfl, HBW.out.trans (HG5.out.mono HBW.out.size)⟩
end Go.Proofs.Ytjgegggcbjecbaa
