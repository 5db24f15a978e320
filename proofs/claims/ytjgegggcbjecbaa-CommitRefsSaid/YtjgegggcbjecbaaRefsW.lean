/- CommitRefs: which commits any commit's operations name is told as the document says. No conditions but the row's own. -/
import Derived.Test.YtjgegggcbjecbaaPRefs
import Derived.Test.YtjgegggcbjecbaaRSam
import Derived.Test.YtjgegggcbjecbaaBox
namespace Go.Proofs.Ytjgegggcbjecbaa
open Go Go.RowKit

theorem ins_len {α : Type} [DecidableEq α] (less : α → α → Bool) (L : List α) (x : α) : (So.ins less L x).length ≤ L.length + 1 := by
  unfold So.ins
  split
  · omega
  · simp only [List.length_append, List.length_take, List.length_drop, List.length_cons, List.length_nil]
    omega
theorem fold_len {α : Type} [DecidableEq α] (less : α → α → Bool) : ∀ (L K : List α), (L.foldl (So.ins less) K).length ≤ K.length + L.length
  | [], K => by simp
  | x :: L, K => by
    rw [List.foldl_cons]
    have h1 := fold_len less L (So.ins less K x)
    have h2 := ins_len less K x
    rw [List.length_cons]
    omega
theorem sort_len {α : Type} [DecidableEq α] (less : α → α → Bool) (L : List α) : (So.sort less L).length ≤ L.length := by
  have h := fold_len less L []
  unfold So.sort
  simpa using h
/-- A row of digests, known whole. -/
structure RowD (B n : Nat) (v : Value) (w wr : World) : Prop where
  own : ∃ xs, wr.ownsRow B 47 32 v n xs
  grown : w.grownBy wr v.ownBlock
theorem RowD.put {B n g c i : Nat} {w wr : World} {Z : Array Value} (h : RowD B n (.slice (some ⟨g, 0, none⟩) n c) w wr) (hi : i < n) (hZ : Z.size = 32) : ∃ cur, Blk wr g 47 cur ∧ i * 32 + Z.size ≤ cur.size ∧ RowD B n (.slice (some ⟨g, 0, none⟩) n c) w (wr.setRow g (over cur (i * 32) Z.toList)) := by
  obtain ⟨⟨xs, h1, h2⟩, hg⟩ := h
  rcases h2 with ⟨h2, -⟩ | ⟨g', cap, cur, hv, h3, h4, h5, h6, h7, h8⟩
  · cases h2
  · injection hv with e1 _ e3
    injection e1 with e1
    injection e1 with e1
    subst e1
    subst e3
    have hfit : i * 32 + Z.toList.length ≤ cur.size := by rw [Array.length_toList, hZ, h7]; omega
    refine ⟨cur, h4, by rw [hZ, h7]; omega, ⟨⟨_, ?_, .inr ⟨g, c, over cur (i * 32) Z.toList, rfl, h3, Blk.row h4 _, h5, h6, (over_sized hfit).trans h7, rfl⟩⟩, sole_row hg _⟩⟩
    rw [List.length_take, Array.length_toList, over_sized hfit, h7]
    omega

set_option maxRecDepth 100000 in
set_option maxHeartbeats 4000000 in
theorem commitRefs_walk (m : Cm.Cm) (v : Value) (A : Option Addr) (c : Nat) (B : Option Addr) (d : Nat) (w : World) (hI : InCm w v A c B d m) (hm : CmLim m) :
    Calls Try.prog 7 #[v] w (Ret (.bool true) w) := by
  obtain ⟨l1, l2, l3, l4⟩ := hm
  have hDo := hI.2.2.2.2.2.2
  have ⟨hv, _⟩ := hI
  obtain ⟨X, hX⟩ : ∃ X, X = cmX m A c B d := ⟨_, rfl⟩
  have ev : v = .agg X.toArray := by rw [hX]; exact hv
  have HXI := Lib.hid (show (Try.prog.info? 31).map (·.size) = some X.length by rw [hX]; exact cmX_info)
  clear hv hX
  subst ev
  have HXJ := Lib.hid (show (Try.prog.info? 31).map (·.size) = some X.toArray.size by rw [List.size_toArray]; exact HXI.out)
  obtain ⟨wa, hwa⟩ : ∃ y, y = w.alloc (.cells X.toArray 31) := ⟨_, rfl⟩
  have HKX := Lib.hid (show Blk wa w.heap.size 31 X.toArray by rw [hwa]; exact Blk.new w _ _)
  have HBW := Lib.hid (show Below w.heap.size w wa by rw [hwa]; exact below_alloc w _)
  have HIA := Lib.hid (hI.later HBW.out)
  have HPR := Lib.hid (fun w h => prefs_any m (.agg X.toArray) A B c d w h l2)
  have HRR := Lib.hid (fun w h => rrefs_any m (.agg X.toArray) A B c d w h l2)
  have HFD := Lib.hid (show ∀ s ∈ refsC m, s.length = 32 from fun s hs => by
    unfold refsC at hs
    rw [So.sort_mem] at hs
    exact farsOf_dig hDo s hs)
  have hrl : (refsC m).length ≤ 4611686018427387904 := by
    have h1 := sort_len Tx.less (farsOf m.ops)
    have h2 := farsOf_len m.ops
    unfold refsC
    omega
  obtain ⟨L, hL⟩ : ∃ L, L = refsC m := ⟨_, rfl⟩
  rw [← hL] at HPR HRR HFD hrl
  replace hwa := hwa.symm
  clear hI hL hDo
  have HSM := Lib.hid (fun A1 A2 c1 c2 (w : World) h1 h2 => rsame_digs A1 A2 c1 c2 L L w.heap.size w.heap.size w h1 (Nat.le_refl _) h2 (Nat.le_refl _) hrl HFD.out HFD.out)
  rw [decide_eq_true rfl] at HSM
  go_enter Try.func7, Try.ntmps7
  go_wp2_with (refine at_lod 31 (.tmp 1) rfl ?_; go_must (refine wpList_load_boxed (by rfl) 31 (.tmp 1) rfl w.heap.size rfl X.toArray HKX.out _ Try.underlying31 rfl HXJ.out ?_); go_wp2_with fail)
  refine (HPR.out _ HIA.out).mono ?_; rintro e w1 ⟨A1, c1, rfl, ho1, hb1⟩
  have HO1 := Lib.hid (own_base ho1 HBW.out.size)
  have HR1 := Lib.hid (Rd.of_ownK ho1)
  have HLT1 := Lib.hid (show ∀ q, (Value.slice A1 L.length c1).ownBlock = some q → wa.heap.size ≤ q ∧ q < w1.heap.size from fun q hq => ho1.lt q hq)
  have HFM := Lib.hid (show 0 < L.length → ∃ q, A1 = some ⟨q, 0, none⟩ from fun h => by
    obtain ⟨g, cap, hv, -, -⟩ := ho1.form h
    injection hv with h1
    exact ⟨g, h1⟩)
  have HB1 := Lib.hid (HBW.out.trans (hb1.mono HBW.out.size))
  have HX1 := Lib.hid (HKX.out.later hb1)
  have HI1 := Lib.hid (HIA.out.later hb1)
  have HA1 := Lib.hid hb1
  clear ho1 hb1
  go_wp2_with (refine at_lod 31 (.tmp 1) rfl ?_; go_must (refine wpList_load_boxed (by rfl) 31 (.tmp 1) rfl w.heap.size rfl X.toArray HX1.out _ Try.underlying31 rfl HXJ.out ?_); go_wp2_with fail)
  refine (HRR.out _ HI1.out).mono ?_; rintro e w2 ⟨A2, c2, rfl, ho2, hb2⟩
  have C2 := Lib.hid (HSM.out A1 A2 c1 c2 w2 (HR1.out.later hb2) (Rd.of_ownK ho2))
  have HO2 := Lib.hid (own_below HO1.out hb2)
  have HB2 := Lib.hid (HB1.out.trans (hb2.mono HB1.out.size))
  have HA2 := Lib.hid (HA1.out.trans (hb2.mono HA1.out.size))
  have HX2 := Lib.hid (HX1.out.later hb2)
  have HI2 := Lib.hid (HI1.out.later hb2)
  clear ho2 hb2
  go_wp2_with fail
  refine C2.out.mono ?_; rintro e w3 ⟨rfl, hb3⟩
  have HO3 := Lib.hid (own_below HO2.out hb3)
  have HB3 := Lib.hid (HB2.out.trans (hb3.mono HB2.out.size))
  have HA3 := Lib.hid (HA2.out.trans (hb3.mono HA2.out.size))
  have HGO := Lib.hid (show RowD w.heap.size L.length (.slice A1 L.length c1) w3 w3 from ⟨⟨_, HO3.out⟩, World.grownBy.refl _ _⟩)
  clear hb3 C2
  go_wp2_with fail
  go_loopw [14] (fun iv wr => ∃ i : Nat, i ≤ L.length ∧ iv = .int .i64 (i : Int) ∧ RowD w.heap.size L.length (.slice A1 L.length c1) w3 wr) (fun iv _ => L.length - (intOf iv).toNat)
  case atStart => exact ⟨0, Nat.zero_le _, rfl, HGO.out⟩
  clear HGO
  case round =>
    obtain ⟨i, hi, rfl, hG⟩ := hrel
    have HG := Lib.hid hG
    clear hG
    by_cases hlt : i < L.length
    · have hltI : (i : Int) < (L.length : Int) := by omega
      obtain ⟨q, hA1⟩ := HFM.out (by omega)
      subst hA1
      have hzl := zero_lit
      obtain ⟨Z, hZ⟩ : ∃ Z, Z = (bv Cm.zero32).toArray := ⟨_, rfl⟩
      have HZS := Lib.hid (show Z.size = 32 by rw [hZ, bv_size]; rfl)
      have HZI := Lib.hid (show (Try.prog.info? 47).map (·.size) = some Z.size by rw [HZS.out]; exact infoD32)
      have HZA := Lib.hid (show Z.all (·.oneCell') = true by rw [hZ]; exact bv_all _)
      have hzl2 := (hZ.trans hzl).symm
      obtain ⟨cur, hk, hf, hn⟩ := HG.out.put hlt HZS.out
      have HK := Lib.hid hk
      have HF := Lib.hid hf
      have HN := Lib.hid hn
      clear hzl hZ hk hf hn
      go_wp2_with (refine at_sto 47 (.tmp 20) (.tmp 19) rfl ?_; go_must (refine wpList_store_over rfl 47 (.tmp 20) (.tmp 19) rfl q (i * 32) Z rfl rfl 47 cur HK.out HF.out HZI.out HZA.out ?_); go_wp2_with fail)
      go_roundw
      case rel => exact ⟨i + 1, by omega, by go_num, HN.out⟩
      case measure => simp [intOf]; omega
    · have hltI : ¬ (i : Int) < (L.length : Int) := by omega
      have hgr := HG.out.grown
      have HAR := Lib.hid (show Below wa.heap.size wa wr from HA3.out.trans ((Below.refl wa.heap.size w3).grown hgr HA3.out.size (fun q hq => (HLT1.out q hq).1)))
      have HXr := Lib.hid (HKX.out.later HAR.out)
      have HIr := Lib.hid (HIA.out.later HAR.out)
      have HBr := Lib.hid (HBW.out.trans (HAR.out.mono HBW.out.size))
      have HCX := Lib.hid (fun u : Grw wr => blk_cells (HXr.out.grw u))
      have HG4 := Lib.hid (show Below wr.heap.size wr wr.drew from (Below.refl _ _).drew)
      clear hgr
      go_wp2_with fail
      refine wp_region_any (by kernel_rfl) ?_
      change wpAny _ _ _ _ _ _ _ (World.drew _)
      refine wpAny_of_held (S := (fun x : World => Below wr.heap.size wr x)) _ _ _ _ ?_
      refine held_load (i := 0) rfl (by kernel_rfl) (by kernel_rfl) (by kernel_rfl) 31 (.tmp 1) rfl ⟨w.heap.size, 0, none⟩ X rfl (fun w h => HCX.out ⟨w, h⟩) Try.underlying31 rfl HXI.out (by rfl) (fun _ _ _ h => h) (Below.refl _ _).drew ?_
      change wpAnyH _ _ _ _ _ _ _ (Act.put _ _ _) _
      refine held_load (i := 2) rfl (by kernel_rfl) (by kernel_rfl) (by kernel_rfl) 31 (.tmp 1) rfl ⟨w.heap.size, 0, none⟩ X rfl (fun w h => HCX.out ⟨w, h⟩) Try.underlying31 rfl HXI.out (by rfl) (fun _ _ _ h => h) (Below.refl _ _).drew ?_
      change wpAnyH _ _ _ _ _ _ _ (Act.put _ _ _) _
      go_simp
      generalize World.drew wr = w4 at *
      refine held_one (i := 1) (by kernel_rfl) rfl (fun K hK => ?_)
      go_simp
      refine (HPR.out w4 (HIr.out.later HG4.out)).mono ?_; rintro e w5 ⟨A5, c5, rfl, ho5, hb5⟩
      dsimp only
      have HR5 := Lib.hid (Rd.of_ownK ho5)
      have HG5 := Lib.hid (HG4.out.trans (hb5.mono HG4.out.size))
      refine hK _ _ HG5.out ?_; clear hK K ho5 hb5
      go_simp
      refine held_one (i := 3) (by kernel_rfl) rfl (fun K hK => ?_)
      go_simp
      refine (HRR.out w5 (HIr.out.later HG5.out)).mono ?_; rintro e w6 ⟨A6, c6, rfl, ho6, hb6⟩
      dsimp only
      have HR6 := Lib.hid (Rd.of_ownK ho6)
      have HS6 := Lib.hid (HR5.out.later hb6)
      have HG6 := Lib.hid (HG5.out.trans (hb6.mono HG5.out.size))
      refine hK _ _ HG6.out ?_; clear hK K ho6 hb6
      go_simp
      refine held_one (i := 4) (by kernel_rfl) rfl (fun K hK => ?_)
      go_simp
      refine (HSM.out A5 A6 c5 c6 w6 HS6.out HR6.out).mono ?_; rintro e w7 ⟨rfl, hb7⟩
      dsimp only
      have HG7 := Lib.hid (HG6.out.trans (hb7.mono HG6.out.size))
      refine hK _ _ HG7.out ?_; clear hK K hb7
      go_simp
      refine wpAnyH_take (i := 5) (v := ?_) rfl (by kernel_rfl) (by kernel_rfl) (by kernel_rfl) (fun _ _ _ h => h) (Or.inl ⟨by rfl, ?_⟩) (HG7.out) ?_
      rotate_left
      · intro wq hS
        have hS' := hS
        try simp only [] at hS'
        go_simp; try with_reducible rfl
      change wpAnyH _ _ _ _ _ _ _ (Act.put _ _ _) _
      go_simp
      refine held_one (i := 6) (by kernel_rfl) rfl (fun K hK => ?_)
      go_simp
      refine (alive_any _).mono ?_; rintro e w8 ⟨rfl, hb8⟩
      dsimp only
      have HG8 := Lib.hid (HG7.out.trans (hb8.mono HG7.out.size))
      refine hK _ _ HG8.out ?_; clear hK K hb8
      go_simp
      refine wpAnyH_take (i := 7) (v := ?_) rfl (by kernel_rfl) (by kernel_rfl) (by kernel_rfl) (fun _ _ _ h => h) (Or.inl ⟨by rfl, ?_⟩) (HG8.out) ?_
      rotate_left
      · intro wq hS
        have hS' := hS
        try simp only [] at hS'
        go_simp; try with_reducible rfl
      change wpAnyH _ _ _ _ _ _ _ (Act.put _ _ _) _
      refine wpAnyH_take (i := 8) (v := ?_) rfl (by kernel_rfl) (by kernel_rfl) (by kernel_rfl) (fun _ _ _ h => h) (Or.inl ⟨by rfl, ?_⟩) (HG8.out) ?_
      rotate_left
      · intro wq hS
        have hS' := hS
        try simp only [] at hS'
        go_simp; try with_reducible rfl
      change wpAnyH _ _ _ _ _ _ _ (Act.put _ _ _) _
      go_simp
      refine ⟨by kernel_rfl, ?_⟩
      go_wp2_with fail
      go_ret
      exact ⟨rfl, HBr.out.trans (HG8.out.mono HBr.out.size)⟩
end Go.Proofs.Ytjgegggcbjecbaa
