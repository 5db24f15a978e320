/- The document's Refs: which commits a commit's operations name. -/
import Derived.Test.YtjgegggcbjecbaaRSrt
namespace Go.Proofs.Ytjgegggcbjecbaa
open Go Go.RowKit

/-- The commits that operations name, as they come. -/
def farsOf (L : List Cm.Op) : List (List UInt8) := (L.filter fun x => Cm.refK x.at_ == 2).map fun x => x.at_.commit
def refsC (m : Cm.Cm) : List (List UInt8) := So.sort Tx.less (farsOf m.ops)
theorem farsOf_snoc (L : List Cm.Op) (x : Cm.Op) : farsOf (L ++ [x]) = if Cm.refK x.at_ = 2 then farsOf L ++ [x.at_.commit] else farsOf L := by
  unfold farsOf
  rw [List.filter_append, List.map_append]
  by_cases h : Cm.refK x.at_ = 2
  · rw [if_pos h]; simp [h]
  · rw [if_neg h]; simp [h]
theorem farsOf_len (L : List Cm.Op) : (farsOf L).length ≤ L.length := by
  unfold farsOf
  rw [List.length_map]
  exact List.length_filter_le _ _
theorem farsOf_dig {L : List Cm.Op} (h : ∀ x ∈ L, dimOp x) : ∀ s ∈ farsOf L, s.length = 32 := by
  intro s hs
  unfold farsOf at hs
  obtain ⟨x, hx, rfl⟩ := List.mem_map.1 hs
  exact (h x (List.mem_filter.1 hx).1).1

/-- A round of Refs. -/
structure RfG (m : Cm.Cm) (A : Option Addr) (c : Nat) (B : Option Addr) (d g : Nat) (i : Nat) (A' : Option Addr) (c' n : Nat) (w wr : World) : Prop where
  len : i ≤ m.ops.length
  num : n = (farsOf (m.ops.take i)).length
  box : BoxC m A c B d g wr
  own : wr.ownsRow w.heap.size 47 32 (.slice A' n c') n (rows bv (farsOf (m.ops.take i)))
  cap : n ≤ c' ∧ c' ≤ 9223372036854775807
  hB : Below w.heap.size w wr

set_option maxRecDepth 100000 in
set_option maxHeartbeats 800000 in
theorem rrefs_any (m : Cm.Cm) (v : Value) (A B : Option Addr) (c d : Nat) (w : World) (hI : InCm w v A c B d m) (hol : m.ops.length * 72 ≤ 140737488351232) :
    Calls Try.prog 26 #[v] w fun e w' => ∃ A' c', e = .returned (.slice A' (refsC m).length c') ∧ w'.ownsRow w.heap.size 47 32 (.slice A' (refsC m).length c') (refsC m).length (rows bv (refsC m)) ∧ Below w.heap.size w w' := by
  obtain ⟨rfl, hcc, hcd, hRp, hRo, hDp, hDo⟩ := hI
  have HRo := Lib.hid hRo
  have HDo := Lib.hid hDo
  clear hcc hcd hRp hRo hDp hDo
  obtain ⟨wa, hwa⟩ : ∃ y, y = w.alloc (.cells #[.slice A m.parents.length c, .string (sB m.author), .string (sB m.note), .slice B m.ops.length d] 31) := ⟨_, rfl⟩
  have HX := Lib.hid (show BoxC m A c B d w.heap.size wa from ⟨by rw [hwa]; exact Blk.new w _ _⟩)
  have HB := Lib.hid (show Below w.heap.size w wa by rw [hwa]; exact below_alloc w _)
  obtain ⟨i0, hi, hz0, hz1, hz2⟩ := info_parts infoDg
  replace hwa := hwa.symm
  go_enter Try.func26, Try.ntmps26
  go_wp2_with fail
  go_loopw [3, 4] (fun ov iv wr => ∃ (i : Nat) (A' : Option Addr) (c' n : Nat), iv = .int .i64 (i : Int) ∧ ov = .slice A' n c' ∧ RfG m A c B d w.heap.size i A' c' n w wr) (fun _ iv _ => m.ops.length - (intOf iv).toNat)
  case atStart => exact ⟨0, none, 0, 0, rfl, rfl, ⟨Nat.zero_le _, rfl, HX.out, World.ownsRow_nil wa _ _ _, ⟨Nat.le_refl _, Nat.zero_le _⟩, HB.out⟩⟩
  clear HX HB hwa
  case round =>
    obtain ⟨i, A', c', n, rfl, rfl, hG⟩ := hrel
    have HGG := Lib.hid hG
    have hiL := hG.len
    have HN := Lib.hid hG.num
    have hnl := farsOf_len (m.ops.take i)
    rw [← HN.out, List.length_take] at hnl
    obtain ⟨-, -, -, x3⟩ := hG.box.cells
    clear hG
    by_cases hlt : i < m.ops.length
    · have hltI : (i : Int) < (m.ops.length : Int) := by omega
      obtain ⟨x, hx⟩ : ∃ x, m.ops[i]? = some x := ⟨_, List.getElem?_eq_getElem hlt⟩
      have hlx := HDo.out x (List.mem_of_getElem? hx)
      obtain ⟨ad, hA, hbx, hca⟩ := (HRo.out.later HGG.out.hB).elem (by decide) (fun s hs => opCells_length (HDo.out s hs)) hx
      subst hA
      have HX := Lib.hid hx
      have HXL := Lib.hid hlx
      have HCX := Lib.hid (show ∀ j v, (refCells x.at_)[j]? = some v → wr.cell? (((ad.add (i * 37)).add 2).add j) = some v from fun j v hv => by rw [add_add' (ad.add (i * 37))]; exact hca _ _ (opCells_ref hv))
      have HLR := Lib.hid (show (Try.prog.info? 56).map (·.size) = some (refCells x.at_).length by rw [refCells_len hlx.1]; exact infoR34)
      have HRF := Lib.hid (rref_any x.at_ wr hlx.1 hlx.2.2)
      unfold refV at HRF
      have HBX := Lib.hid hbx
      clear hx hlx hbx hca
      go_wp2_with (refine at_lod 56 (.tmp 16) rfl ?_; go_must (refine wpList_load_any (by rfl) 56 (.tmp 16) rfl ((ad.add (i * 37)).add 2) rfl (refCells x.at_) _ HCX.out Try.underlying56 rfl HLR.out ?_))
      refine HRF.out.mono ?_; rintro e w2 ⟨rfl, hb2⟩
      have HX2 := Lib.hid (HGG.out.box.later hb2)
      have HO2 := Lib.hid (own_below HGG.out.own hb2)
      have HB2 := Lib.hid (HGG.out.hB.trans (hb2.mono HGG.out.hB.size))
      have y3 := HX2.out.cells.2.2.2
      have HSN := Lib.hid (farsOf_snoc (m.ops.take i) x)
      rw [← take_snoc HX.out] at HSN
      have HCD := Lib.hid (show ∀ j v, (bv x.at_.commit)[j]? = some v → w2.cell? ((((ad.add (i * 37)).add 2).add 1).add j) = some v from fun j v hv => (hb2.cell (by simp only [block_add]; exact HBX.out)).trans (by rw [add_add' ((ad.add (i * 37)).add 2)]; exact HCX.out _ _ (refCells_dig hv)))
      clear hb2 x3 HCX HRF
      by_cases hk : Cm.refK x.at_ = 2
      · have hkk : ((Cm.refK x.at_ : Int) == 2) = true := by rw [hk]; rfl
        rw [if_pos hk] at HSN
        have HLD := Lib.hid (show (Try.prog.info? 47).map (·.size) = some (bv x.at_.commit).length by rw [bv_length, HXL.out.1]; exact infoD32)
        have HDS := Lib.hid (show (bv x.at_.commit).toArray.size = 32 by rw [List.size_toArray, bv_length, HXL.out.1])
        have hs2 := HB2.out.size
        have HB2a := Lib.hid (HB2.out.alloc hs2 (.cells (bv x.at_.commit).toArray 47))
        have hs2a := HB2a.out.size
        have HO2a := Lib.hid (HO2.out.alloc (.cells (bv x.at_.commit).toArray 47))
        have HX2a := Lib.hid (HX2.out.blk.alloc (.cells (bv x.at_.commit).toArray 47))
        clear hk
        go_wp2_with (first | (refine at_lod 47 (.tmp 26) rfl ?_; go_must (refine wpList_load_any (by rfl) 47 (.tmp 26) rfl (((ad.add (i * 37)).add 2).add 1) rfl (bv x.at_.commit) _ HCD.out Try.underlying47 rfl HLD.out ?_)) | (refine at_dst 28 rfl ?_; go_must (refine wpList_one_slice rfl 29 47 (.tmp 27) rfl i0 _ (bv x.at_.commit).toArray rfl Try.underlying29 hi hz0 (by rw [hz1, HDS.out]) (by rw [HDS.out]; decide) (by rw [HDS.out]; decide) ?_)) | (refine at_dst 29 rfl ?_; go_must (refine wp_appK _ 32 rfl (.tmp 20) (.tmp 28) 29 29 rfl w.heap.size 47 i0 _ 32 Try.underlying29 hi hz0 hz1 hz2 rfl (.slice A' n c') n (rows bv (farsOf (m.ops.take i))) rfl HO2a.out (.slice (some ⟨w2.heap.size, 0, none⟩) 1 1) 1 (bv x.at_.commit) rfl (new_srcK 32 Try.underlying29 w2 (bv x.at_.commit) 1 1 47 (0, 0) (by rw [bv_length, HXL.out.1]) (bv_one x.at_.commit)) (by unfold maxLen; omega) (by omega) hs2a ?_); intro v4 w4 ho4 hg4 _; obtain ⟨A4, c4, hv4, hc4, hm4, -⟩ := own_form ho4; subst hv4; have hne := row_own_ne HO2a.out HX2a.out (by decide); have HX4 := Lib.hid (BoxC.mk (HX2a.out.grown hg4 (fun e => hne e.symm))); have HB4 := Lib.hid (HB2a.out.grown hg4 hs2a (fun q hq => (HO2a.out.lt q hq).1)); have HO4 := Lib.hid ho4; clear ho4 hg4 hne))
        go_roundw
        case rel =>
          have hO := HO4.out
          rw [← rows_one bv x.at_.commit, ← rows_append, ← HSN.out] at hO
          exact ⟨i + 1, A4, c4, n + 1, by go_num, rfl, ⟨by omega, by rw [HSN.out, List.length_append, ← HN.out]; rfl, HX4.out, hO, ⟨hc4, by simpa [maxLen] using hm4⟩, HB4.out⟩⟩
        case measure => simp [intOf] <;> omega
      · have hkk : ((Cm.refK x.at_ : Int) == 2) = false := by rw [beq_eq_false_iff_ne]; omega
        rw [if_neg hk] at HSN
        clear hk
        go_wp2_with fail
        go_roundw
        case rel => exact ⟨i + 1, A', c', n, by go_num, rfl, ⟨by omega, by rw [HSN.out]; exact HN.out, HX2.out, by rw [HSN.out]; exact HO2.out, HGG.out.cap, HB2.out⟩⟩
        case measure => simp [intOf] <;> omega
    · have hltI : ¬ (i : Int) < (m.ops.length : Int) := by omega
      have HSR := Lib.hid (rsorted_any A' c' (farsOf m.ops) wr.heap.size wr)
      have hsl : n = (farsOf m.ops).length := by rw [HN.out, List.take_of_length_le (by omega)]
      have HO := Lib.hid HGG.out.own
      rw [List.take_of_length_le (by omega), hsl] at HO
      have HSO := Lib.hid (HSR.out (Rd.of_ownK HO.out) (Nat.le_refl _) (by omega) (farsOf_dig HDo.out))
      rw [← hsl] at HSO
      clear HSR hsl
      go_wp2_with fail
      refine HSO.out.mono ?_; rintro e w2 ⟨A2, c2, rfl, ho2, hb2⟩
      go_wp2_with fail
      go_ret
      unfold refsC
      have hO2 := own_base ho2 HGG.out.hB.size
      have hB2 := HGG.out.hB.trans (hb2.mono HGG.out.hB.size)
      exact ⟨A2, c2, rfl, hO2, hB2⟩
end Go.Proofs.Ytjgegggcbjecbaa
