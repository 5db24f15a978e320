/- The program's reader: digest, single. -/
import Derived.Test.YtjgegggcbjecbaaDoorPRdr
import Derived.Laws.CopyOwn
namespace Go.Proofs.YtjgegggcbjecbaaDoor
open Go Go.RowKit

section
variable {P : Program}
/-- copy, that fills a block. -/
theorem op_copy_whole {w : World} {o : Oper} {a : Act} {K : Act → World → Prop} {Q : Exit → Act → World → Prop} (d s : Operand) (dT sT : TypeId)
    (ho : o.op = .call { callee := .builtin .copy, args := #[d, s], argTypes := #[dT, sT] }) (elem : TypeId) (hu : P.underlying dT = some (.slice elem)) (hsz : (P.info? elem).map (·.size) = some 1)
    (g dLen dCap : Nat) (ad : Addr) (sLen sCap : Nat) (hd : a.eval d = .slice (some ⟨g, 0, none⟩) dLen dCap) (hs : a.eval s = .slice (some ad) sLen sCap)
    (cur : Array Value) (t : TypeId) (hg : w.heap[g]? = some (.cells cur t (0, 0))) (cs : List Value) (hn : cs.length = Nat.min sLen dLen)
    (hsrc : ∀ j v, cs[j]? = some v → w.cell? (ad.add j) = some v) (hfit : cs.length = cur.size) (h1 : ∀ v ∈ cs, v.oneCell' = true)
    (h : K (a.put o.dst (.int .i64 (cs.length : Int))) (w.setRow g cs.toArray)) : Oper.wp P o a w K Q := by
  have hrun := run_copy_row (P := P) w dT sT o.type elem g 0 dLen dCap ad sLen sCap cur t cs hu hsz hg hn hsrc (by omega) h1
  rw [List.take_zero, List.nil_append, List.drop_eq_nil_of_le (by rw [Array.length_toList]; omega), List.append_nil] at hrun
  unfold Oper.wp
  simp [execOp, ho, resolve, invoke, builtin, hd, hs, hrun, Result.andThen]
  exact h
end
theorem wp_store_blk {P : Program} {o : Oper} {a : Act} {w : World} {K : Act → World → Prop} {Q : Exit → Act → World → Prop} (ty : TypeId) (x y : Operand) (ho : o.op = .store ty x y)
    (g i : Nat) (v : Value) (hx : a.eval x = .pointer (some ⟨g, i, none⟩)) (hy : a.eval y = v) (t : TypeId) (cs : Array Value) (hg : Blk w g t cs) (hi : i < cs.size) (hv : v.oneCell' = true) (hinfo : (P.info? ty).map (·.size) = some 1)
    (h : ∀ w', Blk w' g t (cs.setIfInBounds i v) → w.grownBy w' (some g) → K (a.put o.dst undef) w') : Oper.wp P o a w K Q := by
  have hc : w.cell? ⟨g, i, none⟩ = some cs[i] := by rw [hg.cell i, Array.getElem?_eq_getElem hi]
  unfold Oper.wp execOp
  simp only [ho, hx, hy, Instr.storeAt, Instr.sureAddr, Sem.run_bind, Sem.run_pure, Result.andThen_ok, run_storeVar_cell (P := P) ty hinfo ⟨g, i, none⟩ v _ hv w hc (hg.frozen i)]
  exact h _ (hg.set_ i v) (gb_set g i v)
/-- What is left of a slice. -/
theorem run_rest {w : World} {ad : Addr} {n c i : Nat} (hj : i < n) (hc : n ≤ c) :
    (Instr.slice 27 (.slice (some ad) n c) (some (.int .i64 (i : Int))) none none).run Tryd.prog w = .ok (.slice (some (ad.add i)) (n - i) (c - i)) w := by
  have hsz : (Tryd.prog.info? (Tryd.prog.elem 27)).map (·.size) = some 1 := by kernel_rfl
  rw [run_slice_l (P := Tryd.prog) (w := w) (t := 27) (a := some ad) (len := n) (cap := c) (by kernel_rfl) .i64 (i : Int) (by omega) (by omega)]
  cases hq : Tryd.prog.info? (Tryd.prog.elem 27) with
  | none => simp [hq] at hsz
  | some x =>
    have hs : x.size = 1 := by simpa [hq] using hsz
    have e2 : ¬ c = i := by omega
    simp [sizeOf, typeInfo, hq, hs, sliced, e2, Result.andThen]

set_option maxRecDepth 100000 in
set_option maxHeartbeats 4000000 in
theorem rdigest_any (B g c p : Nat) (A : Option Addr) (b : List UInt8) (w : World) (h : RdrB B g A c b p w) (hc : b.length ≤ c) (hm : c ≤ 9223372036854775807) :
    Calls Tryd.prog 52 #[.pointer (some ⟨g, 0, none⟩)] w (RdO B g A c b (Pa.digP 32 b p) digV w) := by
  have hzl := zero_lit
  obtain ⟨Z, hZ⟩ : ∃ Z, Z = (bv Cm.zero32).toArray := ⟨_, rfl⟩
  have HZS := Lib.hid (show Z.size = 32 by rw [hZ, bv_size]; rfl)
  have hzl2 := (hZ.trans hzl).symm
  obtain ⟨w1, hw1⟩ : ∃ y, y = w.alloc (.cells Z 34) := ⟨_, rfl⟩
  have hb1 : Below w.heap.size w w1 := by rw [hw1]; exact below_alloc w _
  have HX1 := Lib.hid (h.later hb1)
  have HG1 := Lib.hid (gb_below (row := some g) hb1)
  have HZB := Lib.hid (show Blk w1 w.heap.size 34 Z by rw [hw1]; exact Blk.new w _ _)
  have HGL := Lib.hid h.blk.lt
  have C := Lib.hid (need_any B g c p A b 32 w1 HX1.out (by omega))
  replace hw1 := hw1.symm
  clear hzl hZ hb1 h
  by_cases hlen : b.length < p + 32
  · have HR := Lib.hid (show Pa.digP 32 b p = .error 8 by unfold Pa.digP; rw [if_pos hlen])
    have HLN := Lib.hid hlen
    clear hlen
    go_enter Tryd.func52, Tryd.ntmps52
    go_wp2_with fail
    refine C.out.mono ?_; rintro e w2 ⟨hb2, he⟩
    rw [if_pos HLN.out] at he
    unfold thr at he
    subst he
    have HG2 := Lib.hid (gb_trans HG1.out (gb_below hb2))
    clear hb2
    go_wp2_with fail
    exact ⟨rfl, HG2.out, by rw [HR.out]; rfl⟩
  have HLN := Lib.hid hlen
  have hTl : ((b.drop p).take 32).length = 32 := by rw [List.length_take, List.length_drop]; omega
  have HR := Lib.hid (show Pa.digP 32 b p = .ok ((b.drop p).take 32, p + 32) by unfold Pa.digP; rw [if_neg hlen])
  obtain ⟨T, hT⟩ : ∃ T, T = (b.drop p).take 32 := ⟨_, rfl⟩
  obtain ⟨ad, hA, hrd⟩ := HX1.out.rd.drop (k := p) (by omega)
  have hrt := hrd.take (k := 32) (by omega)
  rw [← bv_drop, ← bv_take, ← hT] at hrt
  rw [← hT] at HR hTl
  subst hA
  have HT := Lib.hid hrt
  have hq : p + 32 ≤ b.length := by omega
  have hsl := fun w => run_rest (w := w) (ad := ad) (n := b.length) (c := c) (i := p) (by omega) hc
  have hadd : IntKind.i64.wrap ((p : Int) + 32) = ((p + 32 : Nat) : Int) := by rw [IntWalk.i64_in _ (by omega)]; omega
  have HTL := Lib.hid hTl
  have HTI := Lib.hid (show (Tryd.prog.info? 34).map (·.size) = some (bv T).toArray.size by rw [bv_size, hTl]; exact infoD32)
  clear hlen hrd hrt hT hTl
  go_enter Tryd.func52, Tryd.ntmps52
  go_wp2_with fail
  refine C.out.mono ?_; rintro e w2 ⟨hb2, he⟩
  rw [if_neg HLN.out] at he
  subst he
  have HX2 := Lib.hid ((HX1.out.later hb2).drew)
  have HZ2 := Lib.hid ((HZB.out.later hb2).drew)
  have HT2 := Lib.hid (HT.out.below ((hb2.mono (Nat.le_trans HX1.out.hB (Nat.le_of_lt HX1.out.blk.lt))).drew))
  have HG2 := Lib.hid (show w.grownBy w2.drew (some g) from gb_trans (gb_trans HG1.out (gb_below hb2)) gb_drew)
  have c0 := HX2.out.c0
  have c1 := HX2.out.c1
  have HSD := Lib.hid (And.intro c0 c1)
  have hgne : g ≠ w.heap.size := Nat.ne_of_lt HGL.out
  clear hb2 hw1 hzl2 C
  go_wp2_with fail
  refine wp_region_any (by kernel_rfl) ?_
  change wpAny _ _ _ _ _ _ _ (World.drew _)
  refine wpAny_of_zed (S := fun x => x.cell? ⟨g, 0, none⟩ = some (.slice (some ad) b.length c) ∧ x.cell? ⟨g, 1, none⟩ = some (.int .i64 (p : Int))) (z := 22) _ _ _ _ ?_
  refine zed_take (i := 0) (v := ?_) rfl (by kernel_rfl) (by kernel_rfl) (by kernel_rfl) (by kernel_rfl) (fun _ _ _ h => h) (Or.inl ⟨by rfl, ?_⟩) (HSD.out) ?_
  rotate_left
  · intro wq hS
    have hS' := hS
    try simp only [] at hS'
    go_simp; try with_reducible rfl
  change wpAnyZ _ _ _ _ _ _ _ _ (Act.put _ _ _) _
  refine zed_take (i := 1) (v := ?_) rfl (by kernel_rfl) (by kernel_rfl) (by kernel_rfl) (by kernel_rfl) (fun _ _ _ h => h) (Or.inl ⟨by rfl, ?_⟩) (HSD.out) ?_
  rotate_left
  · intro wq hS
    have hS' := hS
    try simp only [] at hS'
    go_simp; try with_reducible rfl
  change wpAnyZ _ _ _ _ _ _ _ _ (Act.put _ _ _) _
  refine zed_take (i := 2) (v := ?_) rfl (by kernel_rfl) (by kernel_rfl) (by kernel_rfl) (by kernel_rfl) (fun _ _ _ h => h) (Or.inl ⟨by rfl, ?_⟩) (HSD.out) ?_
  rotate_left
  · intro wq hS
    have hS' := hS
    try simp only [] at hS'
    go_simp; try with_reducible rfl
  change wpAnyZ _ _ _ _ _ _ _ _ (Act.put _ _ _) _
  refine zed_take (i := 3) (v := ?_) rfl (by kernel_rfl) (by kernel_rfl) (by kernel_rfl) (by kernel_rfl) (fun _ _ _ h => h) (Or.inl ⟨by rfl, ?_⟩) (HSD.out) ?_
  rotate_left
  · intro wq hS
    have hS' := hS
    try simp only [] at hS'
    go_simp; try with_reducible rfl
  change wpAnyZ _ _ _ _ _ _ _ _ (Act.put _ _ _) _
  refine zed_take (i := 4) (v := ?_) rfl (by kernel_rfl) (by kernel_rfl) (by kernel_rfl) (by kernel_rfl) (fun _ _ _ h => h) (Or.inl ⟨by rfl, ?_⟩) (HSD.out) ?_
  rotate_left
  · intro wq hS
    have hS' := hS
    try simp only [] at hS'
    go_simp; try with_reducible rfl
  change wpAnyZ _ _ _ _ _ _ _ _ (Act.put _ _ _) _
  refine zed_take (i := 5) (v := ?_) rfl (by kernel_rfl) (by kernel_rfl) (by kernel_rfl) (by kernel_rfl) (fun _ _ _ h => h) (Or.inl ⟨by rfl, ?_⟩) (HSD.out) ?_
  rotate_left
  · intro wq hS
    have hS' := hS
    try simp only [] at hS'
    go_simp; try with_reducible rfl
  change wpAnyZ _ _ _ _ _ _ _ _ (Act.put _ _ _) _
  refine zed_take (i := 6) (v := ?_) rfl (by kernel_rfl) (by kernel_rfl) (by kernel_rfl) (by kernel_rfl) (fun _ _ _ h => h) (Or.inl ⟨by rfl, ?_⟩) (HSD.out) ?_
  rotate_left
  · intro wq hS
    have hS' := hS
    try simp only [] at hS'
    go_simp; try with_reducible rfl
  change wpAnyZ _ _ _ _ _ _ _ _ (Act.put _ _ _) _
  refine zed_take (i := 7) (v := ?_) rfl (by kernel_rfl) (by kernel_rfl) (by kernel_rfl) (by kernel_rfl) (fun _ _ _ h => h) (Or.inl ⟨by rfl, ?_⟩) (HSD.out) ?_
  rotate_left
  · intro wq hS
    have hS' := hS
    try simp only [] at hS'
    go_simp; try with_reducible rfl
  change wpAnyZ _ _ _ _ _ _ _ _ (Act.put _ _ _) _
  refine zed_take (i := 8) (v := ?_) rfl (by kernel_rfl) (by kernel_rfl) (by kernel_rfl) (by kernel_rfl) (fun _ _ _ h => h) (Or.inl ⟨by rfl, ?_⟩) (HSD.out) ?_
  rotate_left
  · intro wq hS
    have hS' := hS
    try simp only [] at hS'
    go_simp; try with_reducible rfl
  change wpAnyZ _ _ _ _ _ _ _ _ (Act.put _ _ _) _
  refine zed_take (i := 9) (v := ?_) rfl (by kernel_rfl) (by kernel_rfl) (by kernel_rfl) (by kernel_rfl) (fun _ _ _ h => h) (Or.inl ⟨by rfl, ?_⟩) (HSD.out) ?_
  rotate_left
  · intro wq hS
    have hS' := hS
    try simp only [] at hS'
    go_simp; try with_reducible rfl
  change wpAnyZ _ _ _ _ _ _ _ _ (Act.put _ _ _) _
  refine zed_take (i := 10) (v := ?_) rfl (by kernel_rfl) (by kernel_rfl) (by kernel_rfl) (by kernel_rfl) (fun _ _ _ h => h) (Or.inl ⟨by rfl, ?_⟩) (HSD.out) ?_
  rotate_left
  · intro wq hS
    have hS' := hS
    try simp only [] at hS'
    go_simp; try with_reducible rfl
  change wpAnyZ _ _ _ _ _ _ _ _ (Act.put _ _ _) _
  refine zed_take (i := 11) (v := ?_) rfl (by kernel_rfl) (by kernel_rfl) (by kernel_rfl) (by kernel_rfl) (fun _ _ _ h => h) (Or.inl ⟨by rfl, ?_⟩) (HSD.out) ?_
  rotate_left
  · intro wq hS
    have hS' := hS
    try simp only [] at hS'
    go_simp; try with_reducible rfl
  change wpAnyZ _ _ _ _ _ _ _ _ (Act.put _ _ _) _
  refine zed_take (i := 12) (v := ?_) rfl (by kernel_rfl) (by kernel_rfl) (by kernel_rfl) (by kernel_rfl) (fun _ _ _ h => h) (Or.inl ⟨by rfl, ?_⟩) (HSD.out) ?_
  rotate_left
  · intro wq hS
    have hS' := hS
    try simp only [] at hS'
    go_simp; try with_reducible rfl
  change wpAnyZ _ _ _ _ _ _ _ _ (Act.put _ _ _) _
  refine zed_take (i := 13) (v := ?_) rfl (by kernel_rfl) (by kernel_rfl) (by kernel_rfl) (by kernel_rfl) (fun _ _ _ h => h) (Or.inl ⟨by rfl, ?_⟩) (HSD.out) ?_
  rotate_left
  · intro wq hS
    have hS' := hS
    try simp only [] at hS'
    go_simp; try with_reducible rfl
  change wpAnyZ _ _ _ _ _ _ _ _ (Act.put _ _ _) _
  refine zed_take (i := 14) (v := ?_) rfl (by kernel_rfl) (by kernel_rfl) (by kernel_rfl) (by kernel_rfl) (fun _ _ _ h => h) (Or.inl ⟨by rfl, ?_⟩) (HSD.out) ?_
  rotate_left
  · intro wq hS
    have hS' := hS
    try simp only [] at hS'
    go_simp; try with_reducible rfl
  change wpAnyZ _ _ _ _ _ _ _ _ (Act.put _ _ _) _
  refine zed_take (i := 15) (v := ?_) rfl (by kernel_rfl) (by kernel_rfl) (by kernel_rfl) (by kernel_rfl) (fun _ _ _ h => h) (Or.inl ⟨by rfl, ?_⟩) (HSD.out) ?_
  rotate_left
  · intro wq hS
    have hS' := hS
    try simp only [] at hS'
    go_simp; try with_reducible rfl
  change wpAnyZ _ _ _ _ _ _ _ _ (Act.put _ _ _) _
  refine zed_take (i := 16) (v := ?_) rfl (by kernel_rfl) (by kernel_rfl) (by kernel_rfl) (by kernel_rfl) (fun _ _ _ h => h) (Or.inl ⟨by rfl, ?_⟩) (HSD.out) ?_
  rotate_left
  · intro wq hS
    have hS' := hS
    try simp only [] at hS'
    go_simp; try with_reducible rfl
  change wpAnyZ _ _ _ _ _ _ _ _ (Act.put _ _ _) _
  go_simp
  generalize World.drew w2 = wd at *
  refine zed_op 17 (by kernel_rfl) rfl rfl (fun K hK => ?_)
  refine op_copy_whole (.tmp 10) (.tmp 21) 27 27 rfl 5 Tryd.underlying27 infoU81 w.heap.size 32 32 (ad.add p) (b.length - p) (c - p) rfl rfl Z 34 HZ2.out (bv T) (by rw [bv_length, HTL.out]; exact (Nat.min_eq_right (by omega)).symm) (by obtain ⟨q', e1, -, e2⟩ := HT2.out.2 (by decide); obtain rfl := Option.some.inj e1; exact e2) (by rw [bv_length, HTL.out, HZS.out]) (bv_one T) ?_
  rw [bv_length, HTL.out]
  have HX3 := Lib.hid (show RdrB B g (some ad) c b p (wd.setRow w.heap.size (bv T).toArray) from ⟨HX2.out.blk.farRow hgne _, HX2.out.rd.below (below_row (Below.refl B wd) (Nat.le_trans HX2.out.hB (Nat.le_of_lt HGL.out)) _), HX2.out.hB, HX2.out.hp⟩)
  have HZ3 := Lib.hid (HZ2.out.row (bv T).toArray)
  have HG3 := Lib.hid (show w.grownBy (wd.setRow w.heap.size (bv T).toArray) (some g) from ⟨HG2.out.os, HG2.out.tape, HG2.out.output, by have := HG2.out.size; simpa [World.setRow] using this, fun k hk hn => (setRow_other wd w.heap.size k _ (fun e => by omega)).trans (HG2.out.block k hk hn)⟩)
  obtain ⟨w3, hw3⟩ : ∃ y, y = wd.setRow w.heap.size (bv T).toArray := ⟨_, rfl⟩
  rw [← hw3] at HX3 HZ3 HG3 ⊢
  have d0 := HX3.out.c0
  have d1 := HX3.out.c1
  refine hK _ _ (fun _ => ⟨d0, d1⟩) ?_; clear hK K
  have HSE := Lib.hid (And.intro d0 d1)
  clear hw3 c0 c1 HX2 HZ2 HT2 HG2 HSD
  go_simp
  refine zed_take (i := 18) (v := ?_) rfl (by kernel_rfl) (by kernel_rfl) (by kernel_rfl) (by kernel_rfl) (fun _ _ _ h => h) (Or.inl ⟨by rfl, ?_⟩) (HSE.out) ?_
  rotate_left
  · intro wq hS
    have hS' := hS
    try simp only [] at hS'
    go_simp; try with_reducible rfl
  change wpAnyZ _ _ _ _ _ _ _ _ (Act.put _ _ _) _
  go_simp
  refine zed_op 19 (by kernel_rfl) rfl rfl (fun K hK => ?_)
  go_simp
  refine hK _ _ (fun _ => HSE.out) ?_; clear hK K
  go_simp
  refine zed_op 20 (by kernel_rfl) rfl rfl (fun K hK => ?_)
  go_simp
  refine hK _ _ (fun _ => HSE.out) ?_; clear hK K
  go_simp
  refine zed_op 21 (by kernel_rfl) rfl rfl (fun K hK => ?_)
  go_simp
  refine hK _ _ (fun _ => HSE.out) ?_; clear hK K
  go_simp
  refine zed_op 22 (by kernel_rfl) rfl rfl (fun K hK => wp_store_blk 3 (.tmp 26) (.tmp 23) rfl g 1 (.int .i64 ((p + 32 : Nat) : Int)) rfl rfl 65 _ HX3.out.blk (by simp) rfl (by kernel_rfl) (fun w4 hA4 hg4 => hK _ _ (fun h => absurd rfl h) ?_))
  clear hK K
  have HX4 := Lib.hid (show RdrB B g (some ad) c b (p + 32) w4 from ⟨hA4, HX3.out.rd.below ((Below.refl B w3).grown hg4 (Nat.le_trans HX3.out.hB (Nat.le_of_lt HX3.out.blk.lt)) (fun k hk => by cases hk; exact HX3.out.hB)), HX3.out.hB, hq⟩)
  have HZ4 := Lib.hid (HZ3.out.grown hg4 (fun e => hgne (Option.some.inj e).symm))
  have HG4 := Lib.hid (gb_trans HG3.out hg4)
  clear hA4 hg4 d0 d1 HSE HX3 HZ3 HG3
  refine ⟨by kernel_rfl, ?_⟩
  go_wp2_with (first | (refine at_lod 34 (.tmp 2) rfl ?_; go_must (refine wpList_load_row rfl 34 (.tmp 2) rfl w.heap.size rfl _ (bv T).toArray (0, 0) _ HZ4.out Tryd.underlying34 rfl HTI.out ?_)) | (refine at_sto 34 (.tmp 2) (.tmp 27) rfl ?_; go_must (refine wpList_store_row rfl 34 (.tmp 2) (.tmp 27) rfl w.heap.size (bv T).toArray rfl rfl _ (bv T).toArray HZ4.out HTI.out rfl (bv_all T) ?_); skip))
  exact bodyPost_ret (v := digV T) (results_row_only rfl _ _ w.heap.size _ _ _ _ rfl (HZ4.out.row _) Tryd.underlying34 rfl HTI.out) rfl ⟨⟨HG4.out.os, HG4.out.tape, HG4.out.output, by have := HG4.out.size; simpa [World.setRow] using this, fun k hk hn => (setRow_other w4 w.heap.size k _ (fun e => by omega)).trans (HG4.out.block k hk hn)⟩, by rw [HR.out]; exact ⟨rfl, HX4.out.blk.farRow hgne _, HX4.out.rd.below (below_row (Below.refl B w4) (Nat.le_trans HX4.out.hB (Nat.le_of_lt HGL.out)) _), HX4.out.hB, HX4.out.hp⟩⟩
end Go.Proofs.YtjgegggcbjecbaaDoor
