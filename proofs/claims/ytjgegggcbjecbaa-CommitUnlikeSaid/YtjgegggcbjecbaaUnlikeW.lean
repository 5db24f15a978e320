/- CommitUnlike: unlike commits have unlike bytes. No conditions but the row's own. -/
import Derived.Test.YtjgegggcbjecbaaBox
namespace Go.Proofs.Ytjgegggcbjecbaa
open Go Go.RowKit

set_option maxRecDepth 100000 in
set_option maxHeartbeats 4000000 in
theorem commitUnlike_walk (m m' : Cm.Cm) (v v' : Value) (A B A' B' : Option Addr) (c d c' d' : Nat) (w : World) (hI : InCm w v A c B d m) (hI' : InCm w v' A' c' B' d' m') (hm : CmLim m) (hm' : CmLim m') :
    Calls Try.prog 11 #[v, v'] w (Ret (.bool true) w) := by
  obtain ⟨l1, l2, l3, l4⟩ := hm
  obtain ⟨l1', l2', l3', l4'⟩ := hm'
  have HOK := Lib.hid (fun h => hI.ok h)
  have HOK' := Lib.hid (fun h => hI'.ok h)
  have ⟨hv, _⟩ := hI
  have ⟨hv', _⟩ := hI'
  obtain ⟨X, hX⟩ : ∃ X, X = cmX m A c B d := ⟨_, rfl⟩
  obtain ⟨Y, hY⟩ : ∃ Y, Y = cmX m' A' c' B' d' := ⟨_, rfl⟩
  have ev : v = .agg X.toArray := by rw [hX]; exact hv
  have ev' : v' = .agg Y.toArray := by rw [hY]; exact hv'
  have HXI := Lib.hid (show (Try.prog.info? 31).map (·.size) = some X.length by rw [hX]; exact cmX_info)
  have HYI := Lib.hid (show (Try.prog.info? 31).map (·.size) = some Y.length by rw [hY]; exact cmX_info)
  clear hv hX hv' hY
  subst ev
  subst ev'
  obtain ⟨wa, hwa⟩ : ∃ y, y = w.alloc (.cells X.toArray 31) := ⟨_, rfl⟩
  obtain ⟨wb, hwb⟩ : ∃ y, y = wa.alloc (.cells Y.toArray 31) := ⟨_, rfl⟩
  have hsa : wa.heap.size = w.heap.size + 1 := by rw [hwa]; simp
  have HKX := Lib.hid (show Blk wb w.heap.size 31 X.toArray by rw [hwb, hwa]; exact (Blk.new w _ _).alloc _)
  have HKY := Lib.hid (show Blk wb (w.heap.size + 1) 31 Y.toArray by rw [hwb, ← hsa]; exact Blk.new wa _ _)
  have HBW := Lib.hid (show Below w.heap.size w wb by rw [hwb, hwa]; exact (below_alloc w _).alloc (by simp) _)
  have HI := Lib.hid (hI.later HBW.out)
  have HI' := Lib.hid (hI'.later HBW.out)
  have C1 := Lib.hid (pencode_any m _ A B c d wb HI.out (by omega) (by omega) (by omega) (by omega))
  unfold EncO at C1
  have HC2 := Lib.hid (fun w1 h => pencode_any m' _ A' B' c' d' w1 (HI'.out.later h) (by omega) (by omega) (by omega) (by omega))
  unfold EncO at HC2
  have HC3 := Lib.hid (fun w1 h => psame_any m m' _ _ A B A' B' c d c' d' w1 (HI.out.later h) (HI'.out.later h) (by omega) (by omega))
  obtain ⟨k, hk⟩ : ∃ k, k = Cm.may Tx.less m := ⟨_, rfl⟩
  obtain ⟨k', hk'⟩ : ∃ k, k = Cm.may Tx.less m' := ⟨_, rfl⟩
  obtain ⟨K, hK⟩ : ∃ K, K = encB m := ⟨_, rfl⟩
  obtain ⟨K', hK'⟩ : ∃ K, K = encB m' := ⟨_, rfl⟩
  obtain ⟨b, hb⟩ : ∃ b, b = decide (m = m') := ⟨_, rfl⟩
  have HBB := Lib.hid (show k = 0 → k' = 0 → ((sB K).toList == (sB K').toList) = b from fun h h' => by
    have o1 := HOK.out (by rw [← hk, h])
    have o2 := HOK'.out (by rw [← hk', h'])
    have e1 : K = Cm.encC m := by rw [hK]; unfold encB; rw [if_pos (by rw [← hk, h])]
    have e2 : K' = Cm.encC m' := by rw [hK']; unfold encB; rw [if_pos (by rw [← hk', h'])]
    by_cases hmm : m = m'
    · rw [hb, decide_eq_true hmm]; exact sB_ne' (by rw [e1, e2, hmm])
    · rw [hb, decide_eq_false hmm]; exact sB_ne fun h3 => hmm (Cm.enc_inj (may := Cm.may Tx.less) o1 o2 (by rw [← hk, h]) (by rw [← hk', h']) (by rw [← e1, ← e2, h3])))
  rw [← hk, ← hK] at C1
  rw [← hk', ← hK'] at HC2
  rw [← hb] at HC3
  rw [hwa] at hwb
  replace hwb := hwb.symm
  clear hI hI' hwa hsa hk hk' hK hK' hb HOK HOK'
  go_enter Try.func11, Try.ntmps11
  go_wp2_with (refine at_lod 31 (.tmp 2) rfl ?_; go_must (refine wpList_load_boxed (by rfl) 31 (.tmp 2) rfl w.heap.size rfl X.toArray HKX.out _ Try.underlying31 rfl HXI.out ?_); go_wp2_with fail)
  refine C1.out.mono ?_; rintro e w1 ⟨A1, c1, rfl, -, ho1, hb1⟩
  have HG1 := Lib.hid hb1
  have HR1 := Lib.hid (Rd.of_own ho1)
  have HKY1 := Lib.hid (HKY.out.later hb1)
  have C2 := Lib.hid (HC2.out w1 hb1)
  clear ho1 hb1 C1
  go_wp2_with (refine at_lod 31 (.tmp 3) rfl ?_; go_must (refine wpList_load_boxed (by rfl) 31 (.tmp 3) rfl (w.heap.size + 1) rfl Y.toArray HKY1.out _ Try.underlying31 rfl HYI.out ?_); go_wp2_with fail)
  refine C2.out.mono ?_; rintro e w2 ⟨A2, c2, rfl, -, ho2, hb2⟩
  have HG2 := Lib.hid (HG1.out.trans (hb2.mono HG1.out.size))
  have HR2 := Lib.hid (HR1.out.later hb2)
  have HS2 := Lib.hid (Rd.of_own ho2)
  have HB2 := Lib.hid (HBW.out.trans (HG2.out.mono HBW.out.size))
  clear ho2 hb2 C2
  by_cases h0 : k = 0
  · subst h0
    by_cases h0' : k' = 0
    · subst h0'
      have hbb := HBB.out rfl rfl
      have k1 : (b == b) = true := beq_self_eq_true b
      have HCX := Lib.hid (fun u : Grw w2 => blk_cells ((HKX.out.later HG2.out).grw u))
      have HCY := Lib.hid (fun u : Grw w2 => blk_cells ((HKY.out.later HG2.out).grw u))
      have HSS := Lib.hid (fun (x : World) (h : Below w2.heap.size w2 x) => (show Below w2.heap.size w2 x ∧ (convert 35 9 (.slice A1 K.length c1)).run Try.prog x = .ok (.string (sB K)) x ∧ (convert 35 9 (.slice A2 K'.length c2)).run Try.prog x = .ok (.string (sB K')) x from ⟨h, conv_str _ _ _ _ _ _ (HR2.out.later h), conv_str _ _ _ _ _ _ (HS2.out.later h)⟩))
      have HS0 := Lib.hid (HSS.out w2.drew (Below.refl _ _).drew)
      go_wp2_with fail
      refine wp_region_any (by kernel_rfl) ?_
      change wpAny _ _ _ _ _ _ _ (World.drew _)
      refine wpAny_of_held (S := (fun x : World => Below w2.heap.size w2 x ∧ (convert 35 9 (.slice A1 K.length c1)).run Try.prog x = .ok (.string (sB K)) x ∧ (convert 35 9 (.slice A2 K'.length c2)).run Try.prog x = .ok (.string (sB K')) x)) _ _ _ _ ?_
      refine wpAnyH_take (i := 0) (v := ?_) rfl (by kernel_rfl) (by kernel_rfl) (by kernel_rfl) (fun _ _ _ h => h) (Or.inl ⟨by rfl, ?_⟩) (HS0.out) ?_
      rotate_left
      · intro wq hS
        have hS' := hS
        try simp only [] at hS'
        go_simp; try with_reducible rfl
      change wpAnyH _ _ _ _ _ _ _ (Act.put _ _ _) _
      refine wpAnyH_take (i := 1) (v := ?_) rfl (by kernel_rfl) (by kernel_rfl) (by kernel_rfl) (fun _ _ _ h => h) (Or.inl ⟨by rfl, ?_⟩) (HS0.out) ?_
      rotate_left
      · intro wq hS
        have hS' := hS
        try simp only [] at hS'
        go_simp; try with_reducible rfl
      change wpAnyH _ _ _ _ _ _ _ (Act.put _ _ _) _
      refine wpAnyH_take (i := 2) (v := ?_) rfl (by kernel_rfl) (by kernel_rfl) (by kernel_rfl) (fun _ _ _ h => h) (Or.inl ⟨by rfl, ?_⟩) (HS0.out) ?_
      rotate_left
      · intro wq hS
        have hS' := hS
        try simp only [] at hS'
        go_simp; try with_reducible rfl
      change wpAnyH _ _ _ _ _ _ _ (Act.put _ _ _) _
      go_simp
      refine wpAnyH_take (i := 3) (v := ?_) rfl (by kernel_rfl) (by kernel_rfl) (by kernel_rfl) (fun _ _ _ h => h) (Or.inl ⟨by rfl, ?_⟩) (HS0.out) ?_
      rotate_left
      · intro wq hS
        have hS' := hS
        try simp only [] at hS'
        go_simp; try with_reducible rfl
      change wpAnyH _ _ _ _ _ _ _ (Act.put _ _ _) _
      refine wpAnyH_take (i := 4) (v := ?_) rfl (by kernel_rfl) (by kernel_rfl) (by kernel_rfl) (fun _ _ _ h => h) (Or.inl ⟨by rfl, ?_⟩) (HS0.out) ?_
      rotate_left
      · intro wq hS
        have hS' := hS
        try simp only [] at hS'
        go_simp; try with_reducible rfl
      change wpAnyH _ _ _ _ _ _ _ (Act.put _ _ _) _
      refine wpAnyH_take (i := 5) (v := ?_) rfl (by kernel_rfl) (by kernel_rfl) (by kernel_rfl) (fun _ _ _ h => h) (Or.inl ⟨by rfl, ?_⟩) (HS0.out) ?_
      rotate_left
      · intro wq hS
        have hS' := hS
        try simp only [] at hS'
        go_simp; try with_reducible rfl
      change wpAnyH _ _ _ _ _ _ _ (Act.put _ _ _) _
      refine wpAnyH_take (i := 6) (v := ?_) rfl (by kernel_rfl) (by kernel_rfl) (by kernel_rfl) (fun _ _ _ h => h) (Or.inl ⟨by rfl, ?_⟩) (HS0.out) ?_
      rotate_left
      · intro wq hS
        have hS' := hS
        try simp only [] at hS'
        go_simp; try with_reducible rfl
      change wpAnyH _ _ _ _ _ _ _ (Act.put _ _ _) _
      go_simp
      refine wpAnyH_take (i := 7) (v := ?_) rfl (by kernel_rfl) (by kernel_rfl) (by kernel_rfl) (fun _ _ _ h => h) (Or.inl ⟨by rfl, ?_⟩) (HS0.out) ?_
      rotate_left
      · intro wq hS
        have hS' := hS
        try simp only [] at hS'
        go_simp; try with_reducible rfl
      change wpAnyH _ _ _ _ _ _ _ (Act.put _ _ _) _
      refine wpAnyH_take (i := 8) (v := ?_) rfl (by kernel_rfl) (by kernel_rfl) (by kernel_rfl) (fun _ _ _ h => h) (Or.inl ⟨by rfl, ?_⟩) (HS0.out) ?_
      rotate_left
      · intro wq hS
        have hS' := hS
        try simp only [] at hS'
        go_simp; try with_reducible rfl
      change wpAnyH _ _ _ _ _ _ _ (Act.put _ _ _) _
      refine wpAnyH_take (i := 9) (v := ?_) rfl (by kernel_rfl) (by kernel_rfl) (by kernel_rfl) (fun _ _ _ h => h) (Or.inl ⟨by rfl, ?_⟩) (HS0.out) ?_
      rotate_left
      · intro wq hS
        have hS' := hS
        try simp only [] at hS'
        go_simp; try with_reducible rfl
      change wpAnyH _ _ _ _ _ _ _ (Act.put _ _ _) _
      refine wpAnyH_take (i := 10) (v := ?_) rfl (by kernel_rfl) (by kernel_rfl) (by kernel_rfl) (fun _ _ _ h => h) (Or.inl ⟨by rfl, ?_⟩) (HS0.out) ?_
      rotate_left
      · intro wq hS
        have hS' := hS
        try simp only [] at hS'
        go_simp; try with_reducible rfl
      change wpAnyH _ _ _ _ _ _ _ (Act.put _ _ _) _
      refine wpAnyH_take (i := 11) (v := ?_) rfl (by kernel_rfl) (by kernel_rfl) (by kernel_rfl) (fun _ _ _ h => h) (Or.inl ⟨by rfl, ?_⟩) (HS0.out) ?_
      rotate_left
      · intro wq hS
        have hS' := hS
        try simp only [] at hS'
        go_simp; try with_reducible rfl
      change wpAnyH _ _ _ _ _ _ _ (Act.put _ _ _) _
      go_simp
      refine held_load (i := 12) rfl (by kernel_rfl) (by kernel_rfl) (by kernel_rfl) 31 (.tmp 2) rfl ⟨w.heap.size, 0, none⟩ X rfl (fun w h => HCX.out ⟨w, h.1⟩) Try.underlying31 rfl HXI.out (by rfl) (fun _ _ _ h => h) HS0.out ?_
      change wpAnyH _ _ _ _ _ _ _ (Act.put _ _ _) _
      refine held_load (i := 13) rfl (by kernel_rfl) (by kernel_rfl) (by kernel_rfl) 31 (.tmp 3) rfl ⟨w.heap.size + 1, 0, none⟩ Y rfl (fun w h => HCY.out ⟨w, h.1⟩) Try.underlying31 rfl HYI.out (by rfl) (fun _ _ _ h => h) HS0.out ?_
      change wpAnyH _ _ _ _ _ _ _ (Act.put _ _ _) _
      go_simp
      refine held_one (i := 14) (by kernel_rfl) rfl (fun K0 hK => ?_)
      go_simp
      refine (HC3.out w2.drew (HG2.out.trans ((Below.refl _ _).drew.mono HG2.out.size))).mono ?_; rintro e w3 ⟨rfl, hb3⟩
      dsimp only
      have HG3 := Lib.hid ((show Below w2.heap.size w2 w2.drew from (Below.refl _ _).drew).trans hb3)
      have HS3 := Lib.hid (HSS.out w3 HG3.out)
      refine hK _ _ HS3.out ?_; clear hK K0 hb3
      go_simp
      refine wpAnyH_take (i := 15) (v := ?_) rfl (by kernel_rfl) (by kernel_rfl) (by kernel_rfl) (fun _ _ _ h => h) (Or.inl ⟨by rfl, ?_⟩) (HS3.out) ?_
      rotate_left
      · intro wq hS
        have hS' := hS
        try simp only [] at hS'
        go_simp; try with_reducible rfl
      change wpAnyH _ _ _ _ _ _ _ (Act.put _ _ _) _
      go_simp
      refine wpAnyH_take (i := 16) (v := ?_) rfl (by kernel_rfl) (by kernel_rfl) (by kernel_rfl) (fun _ _ _ h => h) (Or.inl ⟨by rfl, ?_⟩) (HS3.out) ?_
      rotate_left
      · intro wq hS
        have hS' := hS
        try simp only [] at hS'
        go_simp; try with_reducible rfl
      change wpAnyH _ _ _ _ _ _ _ (Act.put _ _ _) _
      refine wpAnyH_take (i := 17) (v := ?_) rfl (by kernel_rfl) (by kernel_rfl) (by kernel_rfl) (fun _ _ _ h => h) (Or.inl ⟨by rfl, ?_⟩) (HS3.out) ?_
      rotate_left
      · intro wq hS
        have hS' := hS
        try simp only [] at hS'
        go_simp; try with_reducible rfl
      change wpAnyH _ _ _ _ _ _ _ (Act.put _ _ _) _
      go_simp
      refine held_one (i := 18) (by kernel_rfl) rfl (fun K0 hK => ?_)
      go_simp
      refine (alive_any _).mono ?_; rintro e w5 ⟨rfl, hb5⟩
      dsimp only
      have HG5 := Lib.hid (HG3.out.trans (hb5.mono HG3.out.size))
      have HS5 := Lib.hid (HSS.out w5 HG5.out)
      refine hK _ _ HS5.out ?_; clear hK K0 hb5
      go_simp
      refine wpAnyH_take (i := 19) (v := ?_) rfl (by kernel_rfl) (by kernel_rfl) (by kernel_rfl) (fun _ _ _ h => h) (Or.inl ⟨by rfl, ?_⟩) (HS5.out) ?_
      rotate_left
      · intro wq hS
        have hS' := hS
        try simp only [] at hS'
        go_simp; try with_reducible rfl
      change wpAnyH _ _ _ _ _ _ _ (Act.put _ _ _) _
      refine wpAnyH_take (i := 20) (v := ?_) rfl (by kernel_rfl) (by kernel_rfl) (by kernel_rfl) (fun _ _ _ h => h) (Or.inl ⟨by rfl, ?_⟩) (HS5.out) ?_
      rotate_left
      · intro wq hS
        have hS' := hS
        try simp only [] at hS'
        go_simp; try with_reducible rfl
      change wpAnyH _ _ _ _ _ _ _ (Act.put _ _ _) _
      go_simp
      refine ⟨by kernel_rfl, ?_⟩
      go_wp2_with fail
      go_ret
      exact ⟨rfl, HB2.out.trans (HG5.out.mono HB2.out.size)⟩
    · have hbe : ((k' : Int) != 0) = true := by rw [bne_iff_ne]; omega
      clear HBB h0'
      go_wp2_with fail
      refine wp_region_grow (by kernel_rfl) (by kernel_rfl) ?_
      go_big_quiet_step (fail)
      go_big_quiet_step (fail)
      go_big_quiet_step (fail)
      go_big_quiet_step (fail)
      go_big_quiet_step (fail)
      go_big_quiet_step (fail)
      go_big_quiet_step (fail)
      go_big_quiet_step (fail)
      go_big_quiet_step (fail)
      go_big_quiet_step (fail)
      go_big_quiet_step (fail)
      go_big_quiet_step (fail)
      go_big_quiet_step (fail)
      go_big_quiet_step (fail)
      go_big_quiet_step (fail)
      go_big_quiet_step (fail)
      go_big_quiet_step (fail)
      go_big_quiet_step (fail)
      go_big_quiet_step ((go_at_call 14; exact grow_call (alive_any _)))
      go_big_quiet_step (fail)
      go_big_quiet_step (fail)
      refine wpQuiet_nil ?_
      first | (intro _ hw'; obtain ⟨u, hw''⟩ := hw'; subst hw'') | intro u
      go_wp2_with fail
      go_ret
      exact ⟨rfl, HB2.out.trans (u.prop.mono HB2.out.size)⟩
  · have hbe : ((k : Int) != 0) = true := by rw [bne_iff_ne]; omega
    clear HBB h0
    go_wp2_with fail
    refine wp_region_grow (by kernel_rfl) (by kernel_rfl) ?_
    go_big_quiet_step (fail)
    go_big_quiet_step (fail)
    go_big_quiet_step (fail)
    go_big_quiet_step (fail)
    go_big_quiet_step (fail)
    go_big_quiet_step (fail)
    go_big_quiet_step (fail)
    go_big_quiet_step (fail)
    go_big_quiet_step (fail)
    go_big_quiet_step (fail)
    go_big_quiet_step (fail)
    go_big_quiet_step (fail)
    go_big_quiet_step (fail)
    go_big_quiet_step (fail)
    go_big_quiet_step (fail)
    go_big_quiet_step (fail)
    go_big_quiet_step (fail)
    go_big_quiet_step (fail)
    go_big_quiet_step ((go_at_call 14; exact grow_call (alive_any _)))
    go_big_quiet_step (fail)
    go_big_quiet_step (fail)
    refine wpQuiet_nil ?_
    first | (intro _ hw'; obtain ⟨u, hw''⟩ := hw'; subst hw'') | intro u
    go_wp2_with fail
    go_ret
    exact ⟨rfl, HB2.out.trans (u.prop.mono HB2.out.size)⟩
end Go.Proofs.Ytjgegggcbjecbaa
