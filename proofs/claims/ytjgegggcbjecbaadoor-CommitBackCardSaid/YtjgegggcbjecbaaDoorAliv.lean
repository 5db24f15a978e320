/- The contracts of small and of alive: what must come does come. -/
import Derived.Test.YtjgegggcbjecbaaDoorPDec
import Derived.Test.YtjgegggcbjecbaaDoorPEncs
import Derived.Test.YtjgegggcbjecbaaDoorPSame
import Derived.Lib.SmallJoins
namespace Go.Proofs.YtjgegggcbjecbaaDoor
open Go Go.RowKit

def opS : Cm.Op := ⟨1, false, ⟨false, Cm.zero32, 0⟩, 97⟩
def cmS : Cm.Cm := ⟨[], [113], [], [opS]⟩
def bytesS : List UInt8 := [0, 1, 113, 0, 1, 0, 97]
theorem may_small : Cm.may Tx.less cmS = 0 := by decide
theorem enc_small : Cm.encC cmS = bytesS := by
  have e0 : Wi.num 0 = [0] := by rw [Wi.num_small (by decide)]; rfl
  have e1 : Wi.num 1 = [1] := by rw [Wi.num_small (by decide)]; rfl
  have eh : Cm.headN opS = 0 := by decide
  have hr : Cm.refK opS.at_ = 0 := by decide
  have eo : Cm.encRaw (Cm.ofOp opS) = [0, 97] := by
    have h := encOp_eq (x := opS) ⟨.inl rfl, by rw [hr]; decide, rfl, by decide⟩
    unfold Cm.encOp at h
    rw [h, eh, hr, e0]
    rfl
  rw [encC_is]
  have ht1 : Wi.text cmS.author = [1, 113] := by unfold Wi.text; show Wi.num 1 ++ _ = _; rw [e1]; rfl
  have ht2 : Wi.text cmS.note = [0] := by unfold Wi.text; show Wi.num 0 ++ _ = _; rw [e0]; rfl
  have hl : Pa.encL Cm.encRaw (cmS.ops.map Cm.ofOp) = [0, 97] := by
    show Pa.encL Cm.encRaw [Cm.ofOp opS] = _
    unfold Pa.encL
    rw [List.map_cons, List.map_nil, eo]
    rfl
  rw [ht1, ht2, hl]
  show Wi.num 0 ++ (_ ++ (_ ++ (_ ++ (Wi.num 1 ++ _)))) = _
  rw [e0, e1]
  rfl
theorem dec_small : Cm.decC (Cm.may Tx.less) bytesS = .ok cmS := by
  rw [← enc_small]
  exact Cm.decode_encode may_small (fun d h => by cases h) (fun x hx => by rw [List.mem_singleton.1 hx]; rfl)
theorem encB_small : encB cmS = bytesS := by unfold encB; rw [if_pos may_small, enc_small]
theorem name_small : Cm.nameB [97, 46, 66, 45, 49] = true := by decide
theorem small_ne : ¬ cmS = cm0 := by intro h; have := congrArg (fun m : Cm.Cm => m.author) h; cases this
theorem dim_small : dimOp opS := ⟨rfl, by decide, by decide⟩
/-- A commit of the call's own, told by a contract. -/
theorem OwnCm.inCm {B : Nat} {w : World} {v : Value} {m : Cm.Cm} (h : OwnCm B w v m) : ∃ A c B' d, InCm w v A c B' d m := by
  obtain ⟨A, A', c, c', rfl, h1, h2, h3, h4⟩ := h
  obtain ⟨_, k1, e1, hc1, hm1, -⟩ := own_form h1
  cases e1
  obtain ⟨_, k2, e2, hc2, hm2, -⟩ := own_form h2
  cases e2
  exact ⟨A, c, A', c', rfl, ⟨hc1, by simpa [maxLen] using hm1⟩, ⟨hc2, by simpa [maxLen] using hm2⟩, Rd.of_ownK h1, Rd.of_ownK h2, h3, h4⟩
theorem inCm_zero (w : World) : InCm w (.agg (bx (.slice none 0 0) [] [] (.slice none 0 0))) none 0 none 0 cm0 :=
  (by
    refine ⟨rfl, ⟨Nat.le_refl _, by decide⟩, ⟨Nat.le_refl _, by decide⟩, ?_, ?_, (fun s h => by cases h), (fun s h => by cases h)⟩
    · exact Rd.of_ownK (World.ownsRow_nil w 0 34 32)
    · exact Rd.of_ownK (World.ownsRow_nil w 0 55 37))

set_option maxRecDepth 100000 in
set_option maxHeartbeats 1000000 in
theorem small_any (w : World) : Calls Tryd.prog 24 #[] w fun e w' => ∃ v ad, e = .returned v ∧ InCm w' v none 0 (some ad) 1 cmS ∧ Below w.heap.size w w' := by
  obtain ⟨iO, hiO, hzO0, hzO1, hzO2⟩ := info_parts infoOp
  obtain ⟨Z, hZ⟩ : ∃ Z, Z = bx (.slice none 0 0) [] [] (.slice none 0 0) := ⟨_, rfl⟩
  have hZl : (#[Value.slice none 0 0, .string ⟨#[]⟩, .string ⟨#[]⟩, .slice none 0 0] : Array Value) = Z := hZ.symm
  obtain ⟨w1, hw1⟩ : ∃ y, y = w.alloc (.cells Z 25) := ⟨_, rfl⟩
  have s1 : w1.heap.size = w.heap.size + 1 := by rw [hw1]; simp
  have HB1 := Lib.hid (show Below w.heap.size w w1 by rw [hw1]; exact below_alloc w _)
  have hX1 : Blk w1 w.heap.size 25 Z := by rw [hw1]; exact Blk.new w _ _
  obtain ⟨X, hX⟩ : ∃ X, X = (opCells opS).toArray := ⟨_, rfl⟩
  have HXS := Lib.hid (show X.size = 37 by rw [hX]; exact opA_len dim_small)
  have HBO := Lib.hid (show Tryd.prog.built 55 [(0, .int .i64 1), (3, .int .u8 97)] = some X by rw [hX]; kernel_rfl)
  obtain ⟨w2, hw2⟩ : ∃ y, y = w1.alloc (.cells X 55) := ⟨_, rfl⟩
  have HB2 := Lib.hid (show Below w.heap.size w w2 by rw [hw2]; exact HB1.out.alloc HB1.out.size _)
  have HX2 := Lib.hid (show Blk w2 w.heap.size 25 Z by rw [hw2]; exact hX1.alloc _)
  have HO2 := Lib.hid (show Blk w2 (w.heap.size + 1) 55 X by rw [hw2, ← s1]; exact Blk.new w1 _ _)
  obtain ⟨Y, hY⟩ : ∃ Y, Y = bx (.slice none 0 0) [113] [] (.slice (some ⟨w.heap.size + 1, 0, none⟩) 1 1) := ⟨_, rfl⟩
  have HYB := Lib.hid (show Tryd.prog.built 25 [(1, .string ⟨#[113]⟩), (3, .slice (some ⟨w.heap.size + 1, 0, none⟩) 1 1)] = some Y by rw [hY]; kernel_rfl)
  have HYI := Lib.hid (show (Tryd.prog.info? 25).map (·.size) = some Y.size by rw [hY]; exact bx_info)
  have HYS := Lib.hid (show Z.size = Y.size by rw [hZ, hY]; rfl)
  have HYA := Lib.hid (show Y.all (·.oneCell') = true by rw [hY]; exact bx_all)
  have HY3 := Lib.hid (HX2.out.row Y)
  have HO3 := Lib.hid (HO2.out.farRow (g' := w.heap.size) (by omega) Y)
  have HB3 := Lib.hid (below_row HB2.out (Nat.le_refl _) Y)
  have HYE := Lib.hid hY
  have HXE := Lib.hid hX
  replace hw1 := hw1.symm
  replace hw2 := hw2.symm
  clear hX1 hX hY hZ
  go_enter Tryd.func24, Tryd.ntmps24
  go_wp2_with (first | (refine at_dst 1 rfl ?_; go_must (refine wpList_build_as rfl 55 _ rfl [(0, .int .i64 1), (3, .int .u8 97)] rfl X HBO.out ?_)) | (refine at_dst 2 rfl ?_; go_must (refine wpList_one_slice rfl 23 55 (.tmp 1) rfl iO _ X rfl Tryd.underlying23 hiO hzO0 (by rw [hzO1, HXS.out]) (by rw [HXS.out]; decide) (by rw [HXS.out]; decide) ?_); rw [s1, hw2]) | (refine at_dst 3 rfl ?_; go_must (refine wpList_build_as rfl 25 _ rfl [(1, .string ⟨#[113]⟩), (3, .slice (some ⟨w.heap.size + 1, 0, none⟩) 1 1)] rfl Y HYB.out ?_)) | (refine at_sto 25 (.tmp 0) (.tmp 3) rfl ?_; go_must (refine wpList_store_row rfl 25 (.tmp 0) (.tmp 3) rfl w.heap.size Y rfl rfl _ Z HX2.out HYI.out HYS.out HYA.out ?_); go_wp2_with fail))

  refine bodyPost_ret (v := .agg Y) (results_row_only rfl _ _ w.heap.size _ _ _ _ rfl HY3.out Tryd.underlying25 rfl HYI.out) rfl ⟨_, ⟨w.heap.size + 1, 0, none⟩, rfl, ⟨by rw [HYE.out]; rfl, ⟨Nat.le_refl _, by decide⟩, ⟨Nat.le_refl _, by decide⟩, Rd.of_ownK (World.ownsRow_nil _ 0 34 32), ?_, (fun s h => by cases h), ?_⟩, HB3.out⟩
  · refine ⟨by rw [show cmS.ops = [opS] from rfl, rows_one]; exact opCells_length dim_small, fun _ => ⟨_, rfl, HO3.out.lt, ?_⟩⟩
    intro j u hu
    rw [show cmS.ops = [opS] from rfl, rows_one] at hu
    rw [Addr.add_lit, Nat.zero_add, HO3.out.cell, HXE.out, List.getElem?_toArray, hu]
  · intro s hs
    rw [List.mem_singleton.1 hs]
    exact dim_small

theorem bytesS_cells : (bv bytesS).toArray = #[.int .u8 0, .int .u8 1, .int .u8 113, .int .u8 0, .int .u8 1, .int .u8 0, .int .u8 97] := rfl
theorem sB_bytesS : sB bytesS = ⟨#[0, 1, 113, 0, 1, 0, 97]⟩ := rfl
theorem sB_nameS : sB [97, 46, 66, 45, 49] = ⟨#[97, 46, 66, 45, 49]⟩ := rfl

set_option maxRecDepth 100000 in
set_option maxHeartbeats 2000000 in
theorem alive_any (w : World) : Calls Tryd.prog 11 #[] w (Ret (.bool true) w) := by
  go_enter Tryd.func11, Tryd.ntmps11
  go_wp2_with fail
  refine (small_any w).mono ?_; rintro e w1 ⟨v1, ad1, rfl, hI1, hb1⟩
  have C := Lib.hid (pencode_any cmS v1 none (some ad1) 0 1 w1 hI1 (by decide) (by decide) (by decide) (by decide))
  unfold EncO at C
  rw [encB_small, may_small] at C
  have HB1 := Lib.hid hb1
  clear hI1 hb1
  go_wp2_with fail
  refine C.out.mono ?_; rintro e w2 ⟨Ab, cb, rfl, hc, ho, hb2⟩
  have HR2 := Lib.hid (Rd.of_own ho)
  have HB2 := Lib.hid (HB1.out.trans (hb2.mono HB1.out.size))
  clear hb2 ho C
  have hlb : bytesS.length = 7 := rfl
  have kc1 := Lib.run_convert_bytes_const (P := Tryd.prog) w2 27 5 #[.int .u8 0, .int .u8 1, .int .u8 113, .int .u8 0, .int .u8 1, .int .u8 0, .int .u8 97] 7 7 Tryd.underlying27 Tryd.underlying5
  have hsz7 : (#[.int .u8 0, .int .u8 1, .int .u8 113, .int .u8 0, .int .u8 1, .int .u8 0, .int .u8 97] : Array Value).size = 7 := rfl
  rw [hsz7] at kc1
  obtain ⟨w3, hw3⟩ : ∃ y, y = w2.alloc (.cells #[.int .u8 0, .int .u8 1, .int .u8 113, .int .u8 0, .int .u8 1, .int .u8 0, .int .u8 97] 5 (7, 8)) := ⟨_, rfl⟩
  have HB3 := Lib.hid (show Below w2.heap.size w2 w3 by rw [hw3]; exact below_alloc w2 _)
  have CD := Lib.hid (pdecode_any (some ⟨w2.heap.size, 0, none⟩) 7 bytesS w3 (by rw [hw3, ← bytesS_cells]; exact new_rd w2 bytesS (7, 8)) (by decide) (by decide))
  unfold DecO at CD
  rw [dec_small] at CD
  simp only [okM, errM] at CD
  rw [← hw3] at kc1
  rw [hlb] at CD HR2
  clear hsz7 hw3
  go_wp2_with fail
  refine CD.out.mono ?_; rintro e w4 ⟨hb4, v2, hown, rfl⟩
  obtain ⟨A2, c2, B2, d2, hI2⟩ := hown.inCm
  have HI2 := Lib.hid hI2
  obtain ⟨hv2, -⟩ := hI2
  obtain ⟨X, hX⟩ : ∃ X, X = bx (.slice A2 0 c2) [113] [] (.slice B2 1 d2) := ⟨_, rfl⟩
  rw [show (#[Value.slice A2 cmS.parents.length c2, .string (sB cmS.author), .string (sB cmS.note), .slice B2 cmS.ops.length d2] : Array Value) = X from hX.symm] at hv2
  subst hv2
  have HB4 := Lib.hid (HB2.out.trans ((HB3.out.trans (hb4.mono HB3.out.size)).mono HB2.out.size))
  have HR4 := Lib.hid (HR2.out.later (HB3.out.trans (hb4.mono HB3.out.size)))
  have HXI := Lib.hid (show (Tryd.prog.info? 25).map (·.size) = some X.size by rw [hX]; exact bx_info)
  have HXS := Lib.hid (show X.size = 4 by rw [hX]; rfl)
  have HXA := Lib.hid (show X.all (·.oneCell') = true by rw [hX]; exact bx_all)
  obtain ⟨w5, hw5⟩ : ∃ y, y = w4.alloc (.cells X 25) := ⟨_, rfl⟩
  have HX5 := Lib.hid (show Blk w5 w4.heap.size 25 X by rw [hw5]; exact Blk.new w4 _ _)
  have hb5 : Below w4.heap.size w4 w5 := by rw [hw5]; exact below_alloc w4 _
  have HB5 := Lib.hid (HB4.out.trans (hb5.mono HB4.out.size))
  have HI5 := Lib.hid (HI2.out.later hb5)
  have HR5 := Lib.hid (HR4.out.later hb5)
  have HSS := Lib.hid (fun (x : World) (h : Below w5.heap.size w5 x) => (show (x.cell? ⟨w4.heap.size, 0, none⟩ = some (.slice A2 0 c2) ∧ x.cell? ⟨w4.heap.size, 1, none⟩ = some (.string ⟨#[113]⟩) ∧ x.cell? ⟨w4.heap.size, 2, none⟩ = some (.string ⟨#[]⟩) ∧ x.cell? ⟨w4.heap.size, 3, none⟩ = some (.slice B2 1 d2)) ∧ (convert 27 9 (.slice Ab 7 cb)).run Tryd.prog x = .ok (.string ⟨#[0, 1, 113, 0, 1, 0, 97]⟩) x from by
    have hb := HX5.out.later h
    rw [hX] at hb
    refine ⟨⟨hb.cell 0, hb.cell 1, hb.cell 2, hb.cell 3⟩, ?_⟩
    rw [← sB_bytesS]
    exact (HR5.out.later h).str (P := Tryd.prog) cb Tryd.underlying27 Tryd.underlying5 Tryd.underlying9))
  have HS := Lib.hid (HSS.out w5.drew (Below.refl _ _).drew)
  have HXE := Lib.hid hX
  have hWD : Below w5.heap.size w5 w5.drew := (Below.refl _ _).drew
  have HWD := Lib.hid hWD
  replace hw5 := hw5.symm
  clear hb4 hown hb5 hX CD kc1 hWD
  go_wp2_with (refine at_sto 25 (.tmp 3) (.tmp 14) rfl ?_; go_must (refine wpList_store_row rfl 25 (.tmp 3) (.tmp 14) rfl w4.heap.size X rfl rfl 25 _ (heap_alloc_new w4 _) HXI.out (by rw [HXS.out]; rfl) HXA.out ?_); rw [World.setRow_alloc_new, hw5]; go_wp2_with fail)
  refine wp_region_any (by kernel_rfl) ?_
  change wpAny _ _ _ _ _ _ _ (World.drew _)
  refine wpAny_of_held (S := (fun x : World => (x.cell? ⟨w4.heap.size, 0, none⟩ = some (.slice A2 0 c2) ∧ x.cell? ⟨w4.heap.size, 1, none⟩ = some (.string ⟨#[113]⟩) ∧ x.cell? ⟨w4.heap.size, 2, none⟩ = some (.string ⟨#[]⟩) ∧ x.cell? ⟨w4.heap.size, 3, none⟩ = some (.slice B2 1 d2)) ∧ (convert 27 9 (.slice Ab 7 cb)).run Tryd.prog x = .ok (.string ⟨#[0, 1, 113, 0, 1, 0, 97]⟩) x)) _ _ _ _ ?_
  refine wpAnyH_take (i := 0) (v := ?_) rfl (by kernel_rfl) (by kernel_rfl) (by kernel_rfl) (fun _ _ _ h => h) (Or.inl ⟨by rfl, ?_⟩) (HS.out) ?_
  rotate_left
  · intro wq hS
    have hS' := hS
    try simp only [] at hS'
    go_simp; try with_reducible rfl
  change wpAnyH _ _ _ _ _ _ _ (Act.put _ _ _) _
  refine wpAnyH_take (i := 1) (v := ?_) rfl (by kernel_rfl) (by kernel_rfl) (by kernel_rfl) (fun _ _ _ h => h) (Or.inl ⟨by rfl, ?_⟩) (HS.out) ?_
  rotate_left
  · intro wq hS
    have hS' := hS
    try simp only [] at hS'
    go_simp; try with_reducible rfl
  change wpAnyH _ _ _ _ _ _ _ (Act.put _ _ _) _
  refine wpAnyH_take (i := 2) (v := ?_) rfl (by kernel_rfl) (by kernel_rfl) (by kernel_rfl) (fun _ _ _ h => h) (Or.inl ⟨by rfl, ?_⟩) (HS.out) ?_
  rotate_left
  · intro wq hS
    have hS' := hS
    try simp only [] at hS'
    go_simp; try with_reducible rfl
  change wpAnyH _ _ _ _ _ _ _ (Act.put _ _ _) _
  go_simp
  refine wpAnyH_take (i := 3) (v := ?_) rfl (by kernel_rfl) (by kernel_rfl) (by kernel_rfl) (fun _ _ _ h => h) (Or.inl ⟨by rfl, ?_⟩) (HS.out) ?_
  rotate_left
  · intro wq hS
    have hS' := hS
    try simp only [] at hS'
    go_simp; try with_reducible rfl
  change wpAnyH _ _ _ _ _ _ _ (Act.put _ _ _) _
  refine wpAnyH_take (i := 4) (v := ?_) rfl (by kernel_rfl) (by kernel_rfl) (by kernel_rfl) (fun _ _ _ h => h) (Or.inl ⟨by rfl, ?_⟩) (HS.out) ?_
  rotate_left
  · intro wq hS
    have hS' := hS
    try simp only [] at hS'
    go_simp; try with_reducible rfl
  change wpAnyH _ _ _ _ _ _ _ (Act.put _ _ _) _
  refine wpAnyH_take (i := 5) (v := ?_) rfl (by kernel_rfl) (by kernel_rfl) (by kernel_rfl) (fun _ _ _ h => h) (Or.inl ⟨by rfl, ?_⟩) (HS.out) ?_
  rotate_left
  · intro wq hS
    have hS' := hS
    try simp only [] at hS'
    go_simp; try with_reducible rfl
  change wpAnyH _ _ _ _ _ _ _ (Act.put _ _ _) _
  refine wpAnyH_take (i := 6) (v := ?_) rfl (by kernel_rfl) (by kernel_rfl) (by kernel_rfl) (fun _ _ _ h => h) (Or.inl ⟨by rfl, ?_⟩) (HS.out) ?_
  rotate_left
  · intro wq hS
    have hS' := hS
    try simp only [] at hS'
    go_simp; try with_reducible rfl
  change wpAnyH _ _ _ _ _ _ _ (Act.put _ _ _) _
  refine wpAnyH_take (i := 7) (v := ?_) rfl (by kernel_rfl) (by kernel_rfl) (by kernel_rfl) (fun _ _ _ h => h) (Or.inl ⟨by rfl, ?_⟩) (HS.out) ?_
  rotate_left
  · intro wq hS
    have hS' := hS
    try simp only [] at hS'
    go_simp; try with_reducible rfl
  change wpAnyH _ _ _ _ _ _ _ (Act.put _ _ _) _
  go_simp
  refine wpAnyH_take (i := 8) (v := ?_) rfl (by kernel_rfl) (by kernel_rfl) (by kernel_rfl) (fun _ _ _ h => h) (Or.inl ⟨by rfl, ?_⟩) (HS.out) ?_
  rotate_left
  · intro wq hS
    have hS' := hS
    try simp only [] at hS'
    go_simp; try with_reducible rfl
  change wpAnyH _ _ _ _ _ _ _ (Act.put _ _ _) _
  refine wpAnyH_take (i := 9) (v := ?_) rfl (by kernel_rfl) (by kernel_rfl) (by kernel_rfl) (fun _ _ _ h => h) (Or.inl ⟨by rfl, ?_⟩) (HS.out) ?_
  rotate_left
  · intro wq hS
    have hS' := hS
    try simp only [] at hS'
    go_simp; try with_reducible rfl
  change wpAnyH _ _ _ _ _ _ _ (Act.put _ _ _) _
  refine wpAnyH_take (i := 10) (v := ?_) rfl (by kernel_rfl) (by kernel_rfl) (by kernel_rfl) (fun _ _ _ h => h) (Or.inl ⟨by rfl, ?_⟩) (HS.out) ?_
  rotate_left
  · intro wq hS
    have hS' := hS
    try simp only [] at hS'
    go_simp; try with_reducible rfl
  change wpAnyH _ _ _ _ _ _ _ (Act.put _ _ _) _
  refine wpAnyH_take (i := 11) (v := ?_) rfl (by kernel_rfl) (by kernel_rfl) (by kernel_rfl) (fun _ _ _ h => h) (Or.inl ⟨by rfl, ?_⟩) (HS.out) ?_
  rotate_left
  · intro wq hS
    have hS' := hS
    try simp only [] at hS'
    go_simp; try with_reducible rfl
  change wpAnyH _ _ _ _ _ _ _ (Act.put _ _ _) _
  go_simp
  refine wpAnyH_take (i := 12) (v := ?_) rfl (by kernel_rfl) (by kernel_rfl) (by kernel_rfl) (fun _ _ _ h => h) (Or.inl ⟨by rfl, ?_⟩) (HS.out) ?_
  rotate_left
  · intro wq hS
    have hS' := hS
    try simp only [] at hS'
    go_simp; try with_reducible rfl
  change wpAnyH _ _ _ _ _ _ _ (Act.put _ _ _) _
  go_simp
  rw [show (#[Value.slice A2 0 c2, .string ⟨#[113]⟩, .string ⟨#[]⟩, .slice B2 1 d2] : Array Value) = X from HXE.out.symm]
  generalize World.drew w5 = wd at *
  refine held_one (i := 13) (by kernel_rfl) rfl (fun K hK => ?_)
  go_simp
  refine (small_any wd).mono ?_; rintro e w6 ⟨v3, ad3, rfl, hI3, hb6⟩
  dsimp only
  have HB6 := Lib.hid (HWD.out.trans (hb6.mono HWD.out.size))
  have HS6 := Lib.hid (HSS.out w6 HB6.out)
  have C6 := Lib.hid (psame_any cmS cmS (.agg X) v3 A2 B2 none (some ad3) c2 d2 0 1 w6 (HI5.out.later HB6.out) hI3 (by decide) (by decide))
  rw [decide_eq_true (rfl : cmS = cmS)] at C6
  refine hK _ _ HS6.out ?_; clear hK K hI3 hb6
  refine held_one (i := 14) (by kernel_rfl) rfl (fun K hK => ?_)
  go_simp
  refine C6.out.mono ?_; rintro e w7 ⟨rfl, hb7⟩
  dsimp only
  have HB7 := Lib.hid (HB6.out.trans (hb7.mono HB6.out.size))
  have HS7 := Lib.hid (HSS.out w7 HB7.out)
  refine hK _ _ HS7.out ?_; clear hK K hb7
  go_simp
  refine wpAnyH_take (i := 15) (v := ?_) rfl (by kernel_rfl) (by kernel_rfl) (by kernel_rfl) (fun _ _ _ h => h) (Or.inl ⟨by rfl, ?_⟩) (HS7.out) ?_
  rotate_left
  · intro wq hS
    have hS' := hS
    try simp only [] at hS'
    go_simp; try with_reducible rfl
  change wpAnyH _ _ _ _ _ _ _ (Act.put _ _ _) _
  refine wpAnyH_take (i := 16) (v := ?_) rfl (by kernel_rfl) (by kernel_rfl) (by kernel_rfl) (fun _ _ _ h => h) (Or.inl ⟨by rfl, ?_⟩) (HS7.out) ?_
  rotate_left
  · intro wq hS
    have hS' := hS
    try simp only [] at hS'
    go_simp; try with_reducible rfl
  change wpAnyH _ _ _ _ _ _ _ (Act.put _ _ _) _
  go_simp
  refine wpAnyH_take (i := 17) (v := ?_) rfl (by kernel_rfl) (by kernel_rfl) (by kernel_rfl) (fun _ _ _ h => h) (Or.inl ⟨by rfl, ?_⟩) (HS7.out) ?_
  rotate_left
  · intro wq hS
    have hS' := hS
    try simp only [] at hS'
    go_simp; try with_reducible rfl
  change wpAnyH _ _ _ _ _ _ _ (Act.put _ _ _) _
  refine wpAnyH_take (i := 18) (v := ?_) rfl (by kernel_rfl) (by kernel_rfl) (by kernel_rfl) (fun _ _ _ h => h) (Or.inl ⟨by rfl, ?_⟩) (HS7.out) ?_
  rotate_left
  · intro wq hS
    have hS' := hS
    try simp only [] at hS'
    go_simp; try with_reducible rfl
  change wpAnyH _ _ _ _ _ _ _ (Act.put _ _ _) _
  go_simp
  rw [show (#[Value.slice A2 0 c2, .string ⟨#[113]⟩, .string ⟨#[]⟩, .slice B2 1 d2] : Array Value) = X from HXE.out.symm]
  have C7 := Lib.hid (psame_any cmS cm0 (.agg X) (.agg #[Value.slice none 0 0, .string ⟨#[]⟩, .string ⟨#[]⟩, .slice none 0 0]) A2 B2 none none c2 d2 0 0 w7 (HI5.out.later HB7.out) (inCm_zero w7) (by decide) (by decide))
  rw [decide_eq_false small_ne] at C7
  refine held_one (i := 19) (by kernel_rfl) rfl (fun K hK => ?_)
  go_simp
  refine C7.out.mono ?_; rintro e w8 ⟨rfl, hb8⟩
  dsimp only
  have HB8 := Lib.hid (HB7.out.trans (hb8.mono HB7.out.size))
  have HS8 := Lib.hid (HSS.out w8 HB8.out)
  refine hK _ _ HS8.out ?_; clear hK K hb8
  go_simp
  refine wpAnyH_take (i := 20) (v := ?_) rfl (by kernel_rfl) (by kernel_rfl) (by kernel_rfl) (fun _ _ _ h => h) (Or.inl ⟨by rfl, ?_⟩) (HS8.out) ?_
  rotate_left
  · intro wq hS
    have hS' := hS
    try simp only [] at hS'
    go_simp; try with_reducible rfl
  change wpAnyH _ _ _ _ _ _ _ (Act.put _ _ _) _
  refine wpAnyH_take (i := 21) (v := ?_) rfl (by kernel_rfl) (by kernel_rfl) (by kernel_rfl) (fun _ _ _ h => h) (Or.inl ⟨by rfl, ?_⟩) (HS8.out) ?_
  rotate_left
  · intro wq hS
    have hS' := hS
    try simp only [] at hS'
    go_simp; try with_reducible rfl
  change wpAnyH _ _ _ _ _ _ _ (Act.put _ _ _) _
  refine wpAnyH_take (i := 22) (v := ?_) rfl (by kernel_rfl) (by kernel_rfl) (by kernel_rfl) (fun _ _ _ h => h) (Or.inl ⟨by rfl, ?_⟩) (HS8.out) ?_
  rotate_left
  · intro wq hS
    have hS' := hS
    try simp only [] at hS'
    go_simp; try with_reducible rfl
  change wpAnyH _ _ _ _ _ _ _ (Act.put _ _ _) _
  go_simp
  have C8 := Lib.hid (pname_any [97, 46, 66, 45, 49] w8 (by decide))
  rw [sB_nameS, name_small] at C8
  refine held_one (i := 23) (by kernel_rfl) rfl (fun K hK => ?_)
  go_simp
  refine C8.out.mono ?_; rintro e w9 ⟨rfl, rfl⟩
  dsimp only
  refine hK _ _ HS8.out ?_; clear hK K
  go_simp
  refine wpAnyH_take (i := 24) (v := ?_) rfl (by kernel_rfl) (by kernel_rfl) (by kernel_rfl) (fun _ _ _ h => h) (Or.inl ⟨by rfl, ?_⟩) (HS8.out) ?_
  rotate_left
  · intro wq hS
    have hS' := hS
    try simp only [] at hS'
    go_simp; try with_reducible rfl
  change wpAnyH _ _ _ _ _ _ _ (Act.put _ _ _) _
  refine wpAnyH_take (i := 25) (v := ?_) rfl (by kernel_rfl) (by kernel_rfl) (by kernel_rfl) (fun _ _ _ h => h) (Or.inl ⟨by rfl, ?_⟩) (HS8.out) ?_
  rotate_left
  · intro wq hS
    have hS' := hS
    try simp only [] at hS'
    go_simp; try with_reducible rfl
  change wpAnyH _ _ _ _ _ _ _ (Act.put _ _ _) _
  go_simp
  refine ⟨by kernel_rfl, ?_⟩
  have HBB := Lib.hid (HB5.out.trans (HB8.out.mono HB5.out.size))
  go_wp2_with fail
  go_ret
  exact ⟨rfl, HBB.out⟩
end Go.Proofs.YtjgegggcbjecbaaDoor
