/- CommitHeads: a commit's bytes with some of the last ones missing, or with one more, are refused. No conditions but the row's own. -/
import Derived.Test.YtjgegggcbjecbaaBox
namespace Go.Proofs.Ytjgegggcbjecbaa
open Go Go.RowKit

theorem cut_mod (cut : Int) (k : Nat) (hk : 0 < k) (hb : k ≤ 140737488355328) : ∃ (x : Int) (j : Nat), j < k ∧ IntKind.i64.wrap (cut.tmod k + k) = x ∧ x.tmod k = j := by
  have h1 : cut.tmod k < k := Int.tmod_lt_of_pos cut (by omega)
  have h2 : -(k : Int) < cut.tmod k := Int.lt_tmod_of_pos cut (by omega)
  have h0 : 0 ≤ cut.tmod k + k := by omega
  refine ⟨cut.tmod k + k, ((cut.tmod k + k) % k).toNat, ?_, IntWalk.i64_in _ (by omega), ?_⟩
  · have h3 := Int.emod_lt_of_pos (cut.tmod k + k) (show (0 : Int) < k by omega)
    have h4 := Int.emod_nonneg (cut.tmod k + k) (show (k : Int) ≠ 0 by omega)
    omega
  · rw [Int.tmod_eq_emod_of_nonneg h0]
    have h4 := Int.emod_nonneg (cut.tmod k + k) (show (k : Int) ≠ 0 by omega)
    omega
theorem encC_pos (m : Cm.Cm) : 0 < (Cm.encC m).length := by
  unfold Cm.encC Cm.encRawCm
  rw [List.length_append]
  have := Wi.num_pos (Cm.ofCm m).1
  omega

set_option maxRecDepth 100000 in
set_option maxHeartbeats 4000000 in
theorem commitHeads_walk (m : Cm.Cm) (v : Value) (A : Option Addr) (c : Nat) (B : Option Addr) (d : Nat) (cut : Int) (w : World) (hI : InCm w v A c B d m) (hm : CmLim m) (_ : -9223372036854775808 ≤ cut ∧ cut ≤ 9223372036854775807) :
    Calls Try.prog 10 #[v, .int .i64 cut] w (Ret (.bool true) w) := by
  obtain ⟨i0, hi, hz0, hz1, hz2⟩ := info_parts infoU8
  obtain ⟨l1, l2, l3, l4⟩ := hm
  have hOK := fun h => hI.ok h
  have ⟨hv, _⟩ := hI
  obtain ⟨X, hX⟩ : ∃ X, X = (#[.slice A m.parents.length c, .string (sB m.author), .string (sB m.note), .slice B m.ops.length d] : Array Value) := ⟨_, rfl⟩
  rw [← hX] at hv
  subst hv
  have HXI := Lib.hid (show (Try.prog.info? 31).map (·.size) = some X.size by rw [hX]; exact infoC4)
  obtain ⟨wa, hwa⟩ : ∃ y, y = w.alloc (.cells X 31) := ⟨_, rfl⟩
  have HK := Lib.hid (show Blk wa w.heap.size 31 X by rw [hwa]; exact Blk.new w _ _)
  have HBW := Lib.hid (show Below w.heap.size w wa by rw [hwa]; exact below_alloc w _)
  have C1 := Lib.hid (pencode_any m _ A B c d wa (hI.later HBW.out) (by omega) (by omega) (by omega) (by omega))
  unfold EncO at C1
  replace hwa := hwa.symm
  clear hX hI
  by_cases h0 : Cm.may Tx.less m = 0
  · have ok := hOK h0
    have hpos := encC_pos m
    have hlen := Cm.encC_len ok
    have hcut := fun (k : Nat) hk => Cm.dec_cut (may := Cm.may Tx.less) (k := k) ok hk
    have hmore := fun x => Cm.dec_more (may := Cm.may Tx.less) x ok
    have hE : encB m = Cm.encC m := by unfold encB; rw [if_pos h0]
    rw [hE, h0] at C1
    obtain ⟨K, hK⟩ : ∃ K, K = Cm.encC m := ⟨_, rfl⟩
    rw [← hK] at C1 hpos hlen hcut hmore
    clear hE hK ok hOK h0
    obtain ⟨x, j, hj, hx1, hx2⟩ := cut_mod cut K.length hpos (by omega)
    have HCUT := Lib.hid (hcut j hj)
    obtain ⟨y, hy⟩ : ∃ y, y = UInt8.ofNat j := ⟨_, rfl⟩
    have HMR := Lib.hid (hmore y)
    have hbd : ((K.length : Int) == 0) = false := by rw [beq_eq_false_iff_ne]; omega
    have hnz : ¬ (K.length : Int) = 0 := by omega
    have hwb : IntKind.u8.wrap (j : Int) = (y.toNat : Int) := by rw [hy, IntKind.wrap_u8, UInt8.toNat_ofNat']; omega
    have hjI : (j : Int) ≤ (K.length : Int) := by omega
    have hj0 : 0 ≤ (j : Int) := by omega
    have hjl : (K.take j).length = j := by rw [List.length_take]; omega
    have HJL := Lib.hid hjl
    clear hcut hmore hy hjl
    go_enter Try.func10, Try.ntmps10
    go_wp2_with (refine at_lod 31 (.tmp 2) rfl ?_; go_must (refine wpList_load_boxed (by rfl) 31 (.tmp 2) rfl w.heap.size rfl X HK.out _ Try.underlying31 rfl HXI.out ?_); go_wp2_with fail)
    refine C1.out.mono ?_; rintro e w1 ⟨A1, c1, rfl, hc1, ho1, hb1⟩
    obtain ⟨g1, c1', hv1, -, -⟩ := own_form' ho1 hpos
    obtain ⟨rfl, rfl⟩ : A1 = some ⟨g1, 0, none⟩ ∧ c1 = c1' := by injection hv1 with e1 _ e3; exact ⟨e1, e3⟩
    have HR1 := Lib.hid (Rd.of_own ho1)
    have HB1 := Lib.hid (HBW.out.trans (hb1.mono HBW.out.size))
    have hjc : (j : Int) ≤ (c1 : Int) := by omega
    have hr1 := HR1.out.take (k := j) (by omega)
    rw [← bv_take] at hr1
    have C2 := Lib.hid (fun (A : Option Addr) (hA : A = some ⟨g1, 0, none⟩) => pdecode_any A c1 (K.take j) w1 (by rw [HJL.out, hA]; exact hr1) (by rw [HJL.out]; omega) (by omega))
    unfold DecO at C2
    rw [HCUT.out, HJL.out] at C2
    simp only [okM, errM] at C2
    clear ho1 hb1 hr1 hv1 C1
    go_wp2_with fail
    refine (C2.out _ rfl).mono ?_; rintro e w2 ⟨hb2, v2, hown, rfl⟩
    obtain ⟨Y, hv2, hYS, hYA, hYI⟩ := hown.cells
    subst hv2
    have HYS := Lib.hid hYS
    have HYA := Lib.hid hYA
    have HYI := Lib.hid hYI
    obtain ⟨w3, hw3⟩ : ∃ y, y = w2.alloc (.cells Y 31) := ⟨_, rfl⟩
    have hb3 : Below w2.heap.size w2 w3 := by rw [hw3]; exact below_alloc w2 _
    have hb13 := hb2.trans (hb3.mono hb2.size)
    have HB3 := Lib.hid (HB1.out.trans (hb13.mono HB1.out.size))
    have HR3 := Lib.hid (HR1.out.later hb13)
    replace hw3 := hw3.symm
    clear hb2 hb3 hb13 hown hYS hYA hYI C2
    go_wp2_with (refine at_sto 31 (.tmp 7) (.tmp 43) rfl ?_; go_must (refine wpList_store_row rfl 31 (.tmp 7) (.tmp 43) rfl w2.heap.size Y rfl rfl 31 _ (heap_alloc_new w2 _) HYI.out (by rw [HYS.out]; rfl) HYA.out ?_); rw [World.setRow_alloc_new, hw3]; go_wp2_with (first
      | (at_builtin; (refine wp_app _ rfl (.tmp 46) (.tmp 47) 35 35 rfl w3.heap.size 5 i0 _ 1 Try.underlying35 hi hz0 hz1 hz2 rfl (.slice (some ⟨w3.heap.size, 0, none⟩) 0 0) 0 [] rfl (World.ownsRow_made w3 #[] 0 (Nat.le_refl _) (Nat.zero_le _) rfl) (.slice (some ⟨g1, 0, none⟩) K.length c1) K.length (bv K) rfl ((HR3.out.alloc (Nat.le_refl _) _).src Try.underlying35 c1 (bv_one K)) (by unfold maxLen; omega) (by omega) (by simp) ?_); intro v1 w4 ho4 hg4 hat4; rw [Nat.zero_add, List.nil_append] at ho4; have hs4 : w3.heap.size + 1 ≤ w4.heap.size := (by have := hg4.size; simpa using this))
      | (at_builtin; go_must (refine wp_app _ rfl (.tmp 48) (.tmp 51) 35 35 rfl w3.heap.size 5 i0 _ 1 Try.underlying35 hi hz0 hz1 hz2 rfl v1 K.length (bv K) rfl (ho4.alloc _) _ 1 (bv [y]) rfl (new_src Try.underlying35 w4 (bv [y]) 1 1 5 (0, 0) rfl (bv_one [y])) (by unfold maxLen; omega) (by omega) (by simp; omega) ?_); intro v5 w5 ho5 hg5 hat5; obtain ⟨g5, c5, hv5, hn5, hm5⟩ := own_form' ho5 (by omega); subst hv5; go_wp2_with fail)))
    have hb4 : Below w3.heap.size w3 w4 := ((Below.refl _ _).alloc (Nat.le_refl _) _).grown hg4 (by simp) (fun q hq => Nat.le_of_eq (Option.some.inj hq))
    have hb5 : Below w3.heap.size w3 w5 := (hb4.alloc (by omega) _).grown hg5 (by simp; omega) (fun q hq => (ho4.lt q hq).1)
    have HB5 := Lib.hid (HB3.out.trans (hb5.mono HB3.out.size))
    have hr5 := Rd.of_own ho5
    rw [← bv_append] at hr5
    have hdl : (K ++ [y]).length = K.length + 1 := by simp
    have C3 := Lib.hid (fun (A : Option Addr) (hA : A = some ⟨g5, 0, none⟩) => pdecode_any A c5 (K ++ [y]) w5 (by rw [hdl, hA]; exact hr5) (by rw [hdl]; exact hn5) hm5)
    unfold DecO at C3
    rw [HMR.out, hdl] at C3
    simp only [okM, errM] at C3
    clear ho4 hg4 hat4 ho5 hg5 hat5 hb4 hb5 hr5 hdl
    refine (C3.out _ rfl).mono ?_; rintro e w6 ⟨hb6, v6, hown, rfl⟩
    obtain ⟨Z, hv6, hZS, hZA, hZI⟩ := hown.cells
    subst hv6
    have HZS := Lib.hid hZS
    have HZA := Lib.hid hZA
    have HZI := Lib.hid hZI
    obtain ⟨w7, hw7⟩ : ∃ y, y = w6.alloc (.cells Z 31) := ⟨_, rfl⟩
    have hb7 : Below w6.heap.size w6 w7 := by rw [hw7]; exact below_alloc w6 _
    have hb57 := hb6.trans (hb7.mono hb6.size)
    have HB7 := Lib.hid (HB5.out.trans (hb57.mono HB5.out.size))
    replace hw7 := hw7.symm
    clear hb6 hb7 hb57 hown hZS hZA hZI C3
    go_wp2_with (refine at_sto 31 (.tmp 9) (.tmp 54) rfl ?_; go_must (refine wpList_store_row rfl 31 (.tmp 9) (.tmp 54) rfl w6.heap.size Z rfl rfl 31 _ (heap_alloc_new w6 _) HZI.out (by rw [HZS.out]; rfl) HZA.out ?_); rw [World.setRow_alloc_new, hw7]; go_wp2_with fail)
    refine (alive_any _).mono ?_; rintro e w8 ⟨rfl, hb8⟩
    go_wp2_with fail
    go_ret
    exact ⟨rfl, HB7.out.trans (hb8.mono HB7.out.size)⟩
  · obtain ⟨k, hk⟩ : ∃ k, k = Cm.may Tx.less m := ⟨_, rfl⟩
    have hE : encB m = [] := by unfold encB; rw [if_neg h0]
    rw [hE, ← hk] at C1
    have hbe : ((k : Int) != 0) = true := by rw [bne_iff_ne]; omega
    clear hE hk h0 hOK
    go_enter Try.func10, Try.ntmps10
    go_wp2_with (refine at_lod 31 (.tmp 2) rfl ?_; go_must (refine wpList_load_boxed (by rfl) 31 (.tmp 2) rfl w.heap.size rfl X HK.out _ Try.underlying31 rfl HXI.out ?_); go_wp2_with fail)
    refine C1.out.mono ?_; rintro e w1 ⟨A1, c1, rfl, hc1, ho1, hb1⟩
    have HB1 := Lib.hid (HBW.out.trans (hb1.mono HBW.out.size))
    clear ho1 hb1 C1
    go_wp2_with fail
    refine (alive_any _).mono ?_; rintro e w7 ⟨rfl, hb7⟩
    go_wp2_with fail
    go_ret
    exact ⟨rfl, HB1.out.trans (hb7.mono HB1.out.size)⟩
end Go.Proofs.Ytjgegggcbjecbaa
