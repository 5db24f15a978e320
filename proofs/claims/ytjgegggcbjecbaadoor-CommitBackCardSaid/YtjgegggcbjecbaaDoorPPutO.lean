/- The program's putOp. -/
import Derived.Test.YtjgegggcbjecbaaDoorPPut
namespace Go.Proofs.YtjgegggcbjecbaaDoor
open Go Go.RowKit

theorem encOp_eq {x : Cm.Op} (ho : Cm.OpOk x) : Cm.encOp x = Wi.num (Cm.headN x) ++ ((if Cm.refK x.at_ = 2 then x.at_.commit else []) ++ ((if Cm.refK x.at_ = 1 ∨ Cm.refK x.at_ = 2 then Wi.num x.at_.n.toNat else []) ++ (if x.kind = 1 then [x.byte] else []))) := by
  unfold Cm.encOp Cm.encRaw
  obtain ⟨h1, h2, h3, h4⟩ := Cm.headN_spec x
  have e1 : (Cm.ofOp x).1 = Cm.headN x := rfl
  have e2 : (Cm.ofOp x).2.1 = if Cm.refK x.at_ = 2 then x.at_.commit else Cm.zero32 := rfl
  have e3 : (Cm.ofOp x).2.2.1 = if Cm.refK x.at_ = 1 ∨ Cm.refK x.at_ = 2 then x.at_.n.toNat else 0 := rfl
  have e4 : (Cm.ofOp x).2.2.2 = if x.kind = 1 then [x.byte] else [] := rfl
  rw [e1, e2, e3, e4, h4, h2]
  rcases Cm.refK_cases x.at_ with hk | hk | hk | hk <;> rcases ho.kind with hq | ⟨hq, -⟩ <;> rw [hk, hq] <;> simp
/-- A part of a row, as what is to be appended. -/
theorem src_part {P : Program} {tx e : TypeId} (hk : P.underlying tx = some (.slice e)) {w : World} {g o : Nat} {d : List UInt8} (h : w.rangeAt g o (bv d)) (c : Nat) : Src P 1 tx (.slice (some ⟨g, o, none⟩) d.length c) d.length (bv d) w :=
  Src.ofSlice w hk ⟨g, o, none⟩ d.length c (bv d) (by rw [bv_length, Nat.mul_one]) (fun j u hu => by rw [Addr.add_lit]; exact h j u hu) (bv_one d)

set_option maxRecDepth 100000 in
set_option maxHeartbeats 4000000 in
theorem putOp_any (B : Nat) (L : List UInt8) (v : Value) (x : Cm.Op) (w : World) (hX : w.ownsRow B 5 1 v L.length (bv L)) (hB : B ≤ w.heap.size) (hL : L.length ≤ 900000) (hd : dimOp x) (ho : Cm.OpOk x) :
    Calls Tryd.prog 39 #[v, opV x] w (PutR B (L ++ Cm.encOp x) w) := by
  unfold opV
  obtain ⟨i0, hi, hz0, hz1, hz2⟩ := info_parts infoU8
  obtain ⟨wa, hwa⟩ : ∃ y, y = w.alloc (.cells (opCells x).toArray 55) := ⟨_, rfl⟩
  have hba : Below w.heap.size w wa := by rw [hwa]; exact below_alloc w _
  have HX := Lib.hid (show BoxO x w.heap.size wa from ⟨by rw [hwa]; exact Blk.new w _ _, hd⟩)
  have HP := Lib.hid ((PutS.refl hX).later hB hba)
  have hBa : B ≤ wa.heap.size := Nat.le_trans hB hba.size
  have HBA := Lib.hid hBa
  have HFN := Lib.hid (firstNumber_any x wa hd)
  have HXS := Lib.hid (opA_len hd)
  have HRL := Lib.hid (show (Tryd.prog.info? 53).map (·.size) = some (refCells x.at_).length by rw [refCells_len hd.1]; exact infoR34)
  have HF := Lib.hid (fun w => isFar_any x.at_ w hd.1)
  have HZ := Lib.hid (fun w => isRoot_any x.at_ w hd.1)
  have HRB := Lib.hid (show ∀ (w : World) g, BoxO x g w → w.rangeAt g 3 (bv x.at_.commit) from fun w g h j u hu => by
    have := h.rng (1 + j) u (refCells_dig hu)
    rwa [show 2 + (1 + j) = 3 + j by omega] at this)
  unfold opV at HFN
  unfold refV at HF HZ
  obtain ⟨X, hXX⟩ : ∃ X, X = (opCells x).toArray := ⟨_, rfl⟩
  have HXE := Lib.hid hXX
  have HXB := Lib.hid (show Blk wa w.heap.size 55 X by rw [hXX]; exact HX.out.blk)
  rw [← hXX] at hwa HFN HXS ⊢
  have HXI := Lib.hid (show (Tryd.prog.info? 55).map (·.size) = some X.size by rw [HXS.out]; exact infoO37)
  replace hwa := hwa.symm
  have HE := Lib.hid (encOp_eq ho)
  obtain ⟨E, hE⟩ : ∃ E, E = Cm.encOp x := ⟨_, rfl⟩
  rw [← hE] at HE ⊢
  have hh := (Cm.headN_spec x).1
  obtain ⟨N, hN⟩ : ∃ N, N = Cm.headN x := ⟨_, rfl⟩
  rw [← hN] at HE HFN hh
  have hn9 := Wi.num_len_nine (n := N) (by omega)
  have HC32 := Lib.hid hd.1
  have HOK := Lib.hid ho
  have hlim := ho.lim
  obtain ⟨kd, lf, r, by_⟩ := x
  simp only [] at HRL HF HZ HRB HE HC32 hlim
  have hk3 := ho.ref
  have hkc := Cm.refK_cases r
  have hkind := ho.kind
  have HRO := Lib.hid (fun h => Cm.refK_own (r := r) h)
  have HRF := Lib.hid (fun h => Cm.refK_far (r := r) h)
  simp only [] at hk3 hkind
  obtain ⟨k, hk⟩ : ∃ k, k = Cm.refK r := ⟨_, rfl⟩
  rw [← hk] at HF HZ HE hkc hk3 HRO HRF
  clear hE hN hXX hk hX hd ho hba hBa
  rcases hkc with hk | hk | hk | hk
  · subst hk
    rw [decide_eq_false (show ¬ 0 = 2 by decide)] at HF
    rw [decide_eq_true (rfl : 0 = 0)] at HZ
    clear hk3
    rcases hkind with hkd | ⟨hkd, -⟩
    · subst hkd
      have HC := Lib.hid (pputNum_any B L v N wa HP.out.own HBA.out (by omega) (by omega))
      go_enter Tryd.func39, Tryd.ntmps39
      go_wp2_with (refine at_lod 55 (.tmp 3) rfl ?_; go_must (refine wpList_load_row rfl 55 (.tmp 3) rfl w.heap.size rfl _ X (0, 0) _ HXB.out Tryd.underlying55 rfl HXI.out ?_))
      refine HFN.out.mono ?_; rintro e w1 ⟨rfl, hb1⟩
      have HX1 := Lib.hid (HX.out.later hb1)
      have HP1 := Lib.hid (HP.out.later hB hb1)
      have HC1 := Lib.hid (pputNum_any B L v N w1 HP1.out.own (Nat.le_trans hB HP1.out.hb.size) (by omega) (by omega))
      clear hb1 hwa HFN HXB HC
      go_wp2_with fail
      refine HC1.out.mono ?_; rintro e w2 ⟨v2, rfl, hp2⟩
      have HX2 := Lib.hid (show BoxO _ w.heap.size w2 from ⟨hp2.stay _ _ _ (by decide) HX1.out.blk, HX1.out.dim⟩)
      have HP2 := Lib.hid (HP1.out.trans hp2)
      obtain ⟨L2, hL2⟩ : ∃ L2, L2 = L ++ Wi.num N := ⟨_, rfl⟩
      have hl2 : L2.length ≤ 900009 := by rw [hL2, List.length_append]; omega
      have HE2 := Lib.hid hL2
      rw [← hL2] at HP2
      clear hp2 HC1 hL2
      go_wp2_with (refine at_lod 53 (.tmp 9) rfl ?_; go_must (refine wpList_load_mid rfl 53 (.tmp 9) rfl w.heap.size 2 rfl _ _ HX2.out.rng Tryd.underlying53 rfl HRL.out ?_))
      refine (HF.out _).mono ?_; rintro e w3 ⟨rfl, hb3⟩
      have HX3 := Lib.hid (HX2.out.later hb3)
      have HP3 := Lib.hid (HP2.out.later hB hb3)
      have hB3 : B ≤ w3.heap.size := Nat.le_trans hB HP3.out.hb.size
      clear hb3
      go_wp2_with (refine at_lod 53 (.tmp 17) rfl ?_; go_must (refine wpList_load_mid rfl 53 (.tmp 17) rfl w.heap.size 2 rfl _ _ HX3.out.rng Tryd.underlying53 rfl HRL.out ?_))
      refine (HZ.out _).mono ?_; rintro e w5 ⟨rfl, hb5⟩
      have HX5 := Lib.hid (HX3.out.later hb5)
      have HP5 := Lib.hid (HP3.out.later hB hb5)
      have hB5 : B ≤ w5.heap.size := Nat.le_trans hB HP5.out.hb.size
      clear hb5
      have c0 := HX5.out.c0
      have c36 := HX5.out.c36
      simp only [] at c0 c36
      go_wp2_with (at_builtin; go_must (refine wp_app _ rfl (.tmp 29) (.tmp 32) 27 27 rfl B 5 i0 _ 1 Tryd.underlying27 hi hz0 hz1 hz2 rfl v2 L2.length (bv L2) rfl (HP5.out.own.alloc _) _ 1 (bv [by_]) rfl (new_src Tryd.underlying27 w5 (bv [by_]) 1 1 5 (0, 0) rfl (bv_one _)) (by unfold maxLen; omega) (by omega) (by simp; omega) ?_); intro v7 w7 ho7 hg7 _; have HO7 := Lib.hid ho7; have HG7 := Lib.hid hg7; clear ho7 hg7)
      go_ret
      have HPA := HP5.out.later hB (below_alloc w5 (.cells (bv [by_]).toArray 5))
      have hf := HPA.app (N := [by_]) hB (by rw [List.length_append, bv_append]; exact HO7.out) HG7.out
      refine ⟨_, rfl, ?_⟩
      rw [HE2.out] at hf
      rw [HE.out]
      have hq : L ++ Wi.num N ++ [by_] = L ++ (Wi.num N ++ ((if 0 = 2 then r.commit else []) ++ ((if 0 = 1 ∨ 0 = 2 then Wi.num r.n.toNat else []) ++ (if (1 : Int) = 1 then [by_] else [])))) := by simp
      rw [hq] at hf
      exact hf
    · subst hkd
      have HC := Lib.hid (pputNum_any B L v N wa HP.out.own HBA.out (by omega) (by omega))
      go_enter Tryd.func39, Tryd.ntmps39
      go_wp2_with (refine at_lod 55 (.tmp 3) rfl ?_; go_must (refine wpList_load_row rfl 55 (.tmp 3) rfl w.heap.size rfl _ X (0, 0) _ HXB.out Tryd.underlying55 rfl HXI.out ?_))
      refine HFN.out.mono ?_; rintro e w1 ⟨rfl, hb1⟩
      have HX1 := Lib.hid (HX.out.later hb1)
      have HP1 := Lib.hid (HP.out.later hB hb1)
      have HC1 := Lib.hid (pputNum_any B L v N w1 HP1.out.own (Nat.le_trans hB HP1.out.hb.size) (by omega) (by omega))
      clear hb1 hwa HFN HXB HC
      go_wp2_with fail
      refine HC1.out.mono ?_; rintro e w2 ⟨v2, rfl, hp2⟩
      have HX2 := Lib.hid (show BoxO _ w.heap.size w2 from ⟨hp2.stay _ _ _ (by decide) HX1.out.blk, HX1.out.dim⟩)
      have HP2 := Lib.hid (HP1.out.trans hp2)
      obtain ⟨L2, hL2⟩ : ∃ L2, L2 = L ++ Wi.num N := ⟨_, rfl⟩
      have hl2 : L2.length ≤ 900009 := by rw [hL2, List.length_append]; omega
      have HE2 := Lib.hid hL2
      rw [← hL2] at HP2
      clear hp2 HC1 hL2
      go_wp2_with (refine at_lod 53 (.tmp 9) rfl ?_; go_must (refine wpList_load_mid rfl 53 (.tmp 9) rfl w.heap.size 2 rfl _ _ HX2.out.rng Tryd.underlying53 rfl HRL.out ?_))
      refine (HF.out _).mono ?_; rintro e w3 ⟨rfl, hb3⟩
      have HX3 := Lib.hid (HX2.out.later hb3)
      have HP3 := Lib.hid (HP2.out.later hB hb3)
      have hB3 : B ≤ w3.heap.size := Nat.le_trans hB HP3.out.hb.size
      clear hb3
      go_wp2_with (refine at_lod 53 (.tmp 17) rfl ?_; go_must (refine wpList_load_mid rfl 53 (.tmp 17) rfl w.heap.size 2 rfl _ _ HX3.out.rng Tryd.underlying53 rfl HRL.out ?_))
      refine (HZ.out _).mono ?_; rintro e w5 ⟨rfl, hb5⟩
      have HX5 := Lib.hid (HX3.out.later hb5)
      have HP5 := Lib.hid (HP3.out.later hB hb5)
      have hB5 : B ≤ w5.heap.size := Nat.le_trans hB HP5.out.hb.size
      clear hb5
      have c0 := HX5.out.c0
      have c36 := HX5.out.c36
      simp only [] at c0 c36
      go_wp2_with fail
      go_ret
      refine ⟨_, rfl, ?_⟩
      have hf := HP5.out
      rw [HE2.out] at hf
      rw [HE.out]
      have hq : L ++ Wi.num N = L ++ (Wi.num N ++ ((if 0 = 2 then r.commit else []) ++ ((if 0 = 1 ∨ 0 = 2 then Wi.num r.n.toNat else []) ++ (if (2 : Int) = 1 then [by_] else [])))) := by simp
      rw [hq] at hf
      exact hf
  · subst hk
    rw [decide_eq_false (show ¬ 1 = 2 by decide)] at HF
    rw [decide_eq_false (show ¬ 1 = 0 by decide)] at HZ
    clear hk3
    rcases hkind with hkd | ⟨hkd, -⟩
    · subst hkd
      have HC := Lib.hid (pputNum_any B L v N wa HP.out.own HBA.out (by omega) (by omega))
      go_enter Tryd.func39, Tryd.ntmps39
      go_wp2_with (refine at_lod 55 (.tmp 3) rfl ?_; go_must (refine wpList_load_row rfl 55 (.tmp 3) rfl w.heap.size rfl _ X (0, 0) _ HXB.out Tryd.underlying55 rfl HXI.out ?_))
      refine HFN.out.mono ?_; rintro e w1 ⟨rfl, hb1⟩
      have HX1 := Lib.hid (HX.out.later hb1)
      have HP1 := Lib.hid (HP.out.later hB hb1)
      have HC1 := Lib.hid (pputNum_any B L v N w1 HP1.out.own (Nat.le_trans hB HP1.out.hb.size) (by omega) (by omega))
      clear hb1 hwa HFN HXB HC
      go_wp2_with fail
      refine HC1.out.mono ?_; rintro e w2 ⟨v2, rfl, hp2⟩
      have HX2 := Lib.hid (show BoxO _ w.heap.size w2 from ⟨hp2.stay _ _ _ (by decide) HX1.out.blk, HX1.out.dim⟩)
      have HP2 := Lib.hid (HP1.out.trans hp2)
      obtain ⟨L2, hL2⟩ : ∃ L2, L2 = L ++ Wi.num N := ⟨_, rfl⟩
      have hl2 : L2.length ≤ 900009 := by rw [hL2, List.length_append]; omega
      have HE2 := Lib.hid hL2
      rw [← hL2] at HP2
      clear hp2 HC1 hL2
      go_wp2_with (refine at_lod 53 (.tmp 9) rfl ?_; go_must (refine wpList_load_mid rfl 53 (.tmp 9) rfl w.heap.size 2 rfl _ _ HX2.out.rng Tryd.underlying53 rfl HRL.out ?_))
      refine (HF.out _).mono ?_; rintro e w3 ⟨rfl, hb3⟩
      have HX3 := Lib.hid (HX2.out.later hb3)
      have HP3 := Lib.hid (HP2.out.later hB hb3)
      have hB3 : B ≤ w3.heap.size := Nat.le_trans hB HP3.out.hb.size
      clear hb3
      go_wp2_with (refine at_lod 53 (.tmp 17) rfl ?_; go_must (refine wpList_load_mid rfl 53 (.tmp 17) rfl w.heap.size 2 rfl _ _ HX3.out.rng Tryd.underlying53 rfl HRL.out ?_))
      refine (HZ.out _).mono ?_; rintro e w5 ⟨rfl, hb5⟩
      have HX5 := Lib.hid (HX3.out.later hb5)
      have HP5 := Lib.hid (HP3.out.later hB hb5)
      have hB5 : B ≤ w5.heap.size := Nat.le_trans hB HP5.out.hb.size
      clear hb5
      have c35 := HX5.out.c35
      obtain ⟨n, hn⟩ : ∃ n : Nat, r.n = (n : Int) := ⟨r.n.toNat, by have := HRO.out (by first | rfl | trivial); omega⟩
      have hn2 : n ≤ 2000 := by omega
      have HEN := Lib.hid (show r.n.toNat = n by omega)
      have hn9' := Wi.num_len_nine (n := n) (by omega)
      have HC6 := Lib.hid (pputNum_any B L2 v2 n w5 HP5.out.own hB5 (by omega) (by omega))
      simp only [hn] at c35
      go_wp2_with fail
      refine HC6.out.mono ?_; rintro e w6 ⟨v6, rfl, hp6⟩
      have HX6 := Lib.hid (show BoxO _ w.heap.size w6 from ⟨hp6.stay _ _ _ (by decide) HX5.out.blk, HX5.out.dim⟩)
      have HP6 := Lib.hid (HP5.out.trans hp6)
      obtain ⟨L6, hL6⟩ : ∃ L6, L6 = L2 ++ Wi.num n := ⟨_, rfl⟩
      have hl6 : L6.length ≤ 900060 := by rw [hL6, List.length_append]; omega
      have HE6 := Lib.hid hL6
      rw [← hL6] at HP6
      have hB6 : B ≤ w6.heap.size := Nat.le_trans hB HP6.out.hb.size
      clear hp6 HC6 hL6 c35
      have c0 := HX6.out.c0
      have c36 := HX6.out.c36
      simp only [] at c0 c36
      go_wp2_with (at_builtin; go_must (refine wp_app _ rfl (.tmp 29) (.tmp 32) 27 27 rfl B 5 i0 _ 1 Tryd.underlying27 hi hz0 hz1 hz2 rfl v6 L6.length (bv L6) rfl (HP6.out.own.alloc _) _ 1 (bv [by_]) rfl (new_src Tryd.underlying27 w6 (bv [by_]) 1 1 5 (0, 0) rfl (bv_one _)) (by unfold maxLen; omega) (by omega) (by simp; omega) ?_); intro v7 w7 ho7 hg7 _; have HO7 := Lib.hid ho7; have HG7 := Lib.hid hg7; clear ho7 hg7)
      go_ret
      have HPA := HP6.out.later hB (below_alloc w6 (.cells (bv [by_]).toArray 5))
      have hf := HPA.app (N := [by_]) hB (by rw [List.length_append, bv_append]; exact HO7.out) HG7.out
      refine ⟨_, rfl, ?_⟩
      rw [HE6.out] at hf
      rw [HE2.out] at hf
      rw [HE.out]
      have hq : L ++ Wi.num N ++ Wi.num n ++ [by_] = L ++ (Wi.num N ++ ((if 1 = 2 then r.commit else []) ++ ((if 1 = 1 ∨ 1 = 2 then Wi.num r.n.toNat else []) ++ (if (1 : Int) = 1 then [by_] else [])))) := by simp [HEN.out]
      rw [hq] at hf
      exact hf
    · subst hkd
      have HC := Lib.hid (pputNum_any B L v N wa HP.out.own HBA.out (by omega) (by omega))
      go_enter Tryd.func39, Tryd.ntmps39
      go_wp2_with (refine at_lod 55 (.tmp 3) rfl ?_; go_must (refine wpList_load_row rfl 55 (.tmp 3) rfl w.heap.size rfl _ X (0, 0) _ HXB.out Tryd.underlying55 rfl HXI.out ?_))
      refine HFN.out.mono ?_; rintro e w1 ⟨rfl, hb1⟩
      have HX1 := Lib.hid (HX.out.later hb1)
      have HP1 := Lib.hid (HP.out.later hB hb1)
      have HC1 := Lib.hid (pputNum_any B L v N w1 HP1.out.own (Nat.le_trans hB HP1.out.hb.size) (by omega) (by omega))
      clear hb1 hwa HFN HXB HC
      go_wp2_with fail
      refine HC1.out.mono ?_; rintro e w2 ⟨v2, rfl, hp2⟩
      have HX2 := Lib.hid (show BoxO _ w.heap.size w2 from ⟨hp2.stay _ _ _ (by decide) HX1.out.blk, HX1.out.dim⟩)
      have HP2 := Lib.hid (HP1.out.trans hp2)
      obtain ⟨L2, hL2⟩ : ∃ L2, L2 = L ++ Wi.num N := ⟨_, rfl⟩
      have hl2 : L2.length ≤ 900009 := by rw [hL2, List.length_append]; omega
      have HE2 := Lib.hid hL2
      rw [← hL2] at HP2
      clear hp2 HC1 hL2
      go_wp2_with (refine at_lod 53 (.tmp 9) rfl ?_; go_must (refine wpList_load_mid rfl 53 (.tmp 9) rfl w.heap.size 2 rfl _ _ HX2.out.rng Tryd.underlying53 rfl HRL.out ?_))
      refine (HF.out _).mono ?_; rintro e w3 ⟨rfl, hb3⟩
      have HX3 := Lib.hid (HX2.out.later hb3)
      have HP3 := Lib.hid (HP2.out.later hB hb3)
      have hB3 : B ≤ w3.heap.size := Nat.le_trans hB HP3.out.hb.size
      clear hb3
      go_wp2_with (refine at_lod 53 (.tmp 17) rfl ?_; go_must (refine wpList_load_mid rfl 53 (.tmp 17) rfl w.heap.size 2 rfl _ _ HX3.out.rng Tryd.underlying53 rfl HRL.out ?_))
      refine (HZ.out _).mono ?_; rintro e w5 ⟨rfl, hb5⟩
      have HX5 := Lib.hid (HX3.out.later hb5)
      have HP5 := Lib.hid (HP3.out.later hB hb5)
      have hB5 : B ≤ w5.heap.size := Nat.le_trans hB HP5.out.hb.size
      clear hb5
      have c35 := HX5.out.c35
      obtain ⟨n, hn⟩ : ∃ n : Nat, r.n = (n : Int) := ⟨r.n.toNat, by have := HRO.out (by first | rfl | trivial); omega⟩
      have hn2 : n ≤ 2000 := by omega
      have HEN := Lib.hid (show r.n.toNat = n by omega)
      have hn9' := Wi.num_len_nine (n := n) (by omega)
      have HC6 := Lib.hid (pputNum_any B L2 v2 n w5 HP5.out.own hB5 (by omega) (by omega))
      simp only [hn] at c35
      go_wp2_with fail
      refine HC6.out.mono ?_; rintro e w6 ⟨v6, rfl, hp6⟩
      have HX6 := Lib.hid (show BoxO _ w.heap.size w6 from ⟨hp6.stay _ _ _ (by decide) HX5.out.blk, HX5.out.dim⟩)
      have HP6 := Lib.hid (HP5.out.trans hp6)
      obtain ⟨L6, hL6⟩ : ∃ L6, L6 = L2 ++ Wi.num n := ⟨_, rfl⟩
      have hl6 : L6.length ≤ 900060 := by rw [hL6, List.length_append]; omega
      have HE6 := Lib.hid hL6
      rw [← hL6] at HP6
      have hB6 : B ≤ w6.heap.size := Nat.le_trans hB HP6.out.hb.size
      clear hp6 HC6 hL6 c35
      have c0 := HX6.out.c0
      have c36 := HX6.out.c36
      simp only [] at c0 c36
      go_wp2_with fail
      go_ret
      refine ⟨_, rfl, ?_⟩
      have hf := HP6.out
      rw [HE6.out] at hf
      rw [HE2.out] at hf
      rw [HE.out]
      have hq : L ++ Wi.num N ++ Wi.num n = L ++ (Wi.num N ++ ((if 1 = 2 then r.commit else []) ++ ((if 1 = 1 ∨ 1 = 2 then Wi.num r.n.toNat else []) ++ (if (2 : Int) = 1 then [by_] else [])))) := by simp [HEN.out]
      rw [hq] at hf
      exact hf
  · subst hk
    rw [decide_eq_true (rfl : 2 = 2)] at HF
    rw [decide_eq_false (show ¬ 2 = 0 by decide)] at HZ
    clear hk3
    rcases hkind with hkd | ⟨hkd, -⟩
    · subst hkd
      have HC := Lib.hid (pputNum_any B L v N wa HP.out.own HBA.out (by omega) (by omega))
      go_enter Tryd.func39, Tryd.ntmps39
      go_wp2_with (refine at_lod 55 (.tmp 3) rfl ?_; go_must (refine wpList_load_row rfl 55 (.tmp 3) rfl w.heap.size rfl _ X (0, 0) _ HXB.out Tryd.underlying55 rfl HXI.out ?_))
      refine HFN.out.mono ?_; rintro e w1 ⟨rfl, hb1⟩
      have HX1 := Lib.hid (HX.out.later hb1)
      have HP1 := Lib.hid (HP.out.later hB hb1)
      have HC1 := Lib.hid (pputNum_any B L v N w1 HP1.out.own (Nat.le_trans hB HP1.out.hb.size) (by omega) (by omega))
      clear hb1 hwa HFN HXB HC
      go_wp2_with fail
      refine HC1.out.mono ?_; rintro e w2 ⟨v2, rfl, hp2⟩
      have HX2 := Lib.hid (show BoxO _ w.heap.size w2 from ⟨hp2.stay _ _ _ (by decide) HX1.out.blk, HX1.out.dim⟩)
      have HP2 := Lib.hid (HP1.out.trans hp2)
      obtain ⟨L2, hL2⟩ : ∃ L2, L2 = L ++ Wi.num N := ⟨_, rfl⟩
      have hl2 : L2.length ≤ 900009 := by rw [hL2, List.length_append]; omega
      have HE2 := Lib.hid hL2
      rw [← hL2] at HP2
      clear hp2 HC1 hL2
      go_wp2_with (refine at_lod 53 (.tmp 9) rfl ?_; go_must (refine wpList_load_mid rfl 53 (.tmp 9) rfl w.heap.size 2 rfl _ _ HX2.out.rng Tryd.underlying53 rfl HRL.out ?_))
      refine (HF.out _).mono ?_; rintro e w3 ⟨rfl, hb3⟩
      have HX3 := Lib.hid (HX2.out.later hb3)
      have HP3 := Lib.hid (HP2.out.later hB hb3)
      have hB3 : B ≤ w3.heap.size := Nat.le_trans hB HP3.out.hb.size
      clear hb3
      have hCl : r.commit.length ≤ 32 := by rw [HC32.out]; exact Nat.le_refl _
      go_wp2_with (first | (at_builtin; go_must (refine wp_app _ rfl (.tmp 12) (.tmp 15) 27 27 rfl B 5 i0 _ 1 Tryd.underlying27 hi hz0 hz1 hz2 rfl v2 L2.length (bv L2) rfl HP3.out.own _ r.commit.length (bv r.commit) (by rw [HC32.out]; rfl) (src_part Tryd.underlying27 (HRB.out _ _ HX3.out) 32) (by unfold maxLen; omega) (by omega) hB3 ?_); intro v4 w4 ho4 hg4 _; rw [← List.length_append, ← bv_append] at ho4; have HP4 := Lib.hid (HP3.out.app hB ho4 hg4); have HX4 := Lib.hid (show BoxO _ w.heap.size w4 from ⟨HX3.out.blk.grown hg4 (fun e => put_own_ne HP3.out.own HX3.out.blk (by decide) e.symm), HX3.out.dim⟩); clear ho4 hg4) | (refine at_lod 53 (.tmp 17) rfl ?_; go_must (refine wpList_load_mid rfl 53 (.tmp 17) rfl w.heap.size 2 rfl _ _ HX4.out.rng Tryd.underlying53 rfl HRL.out ?_)))
      obtain ⟨L4, hL4⟩ : ∃ L4, L4 = L2 ++ r.commit := ⟨_, rfl⟩
      have hl4 : L4.length ≤ 900041 := by rw [hL4, List.length_append]; omega
      have HE4 := Lib.hid hL4
      rw [← hL4] at HP4
      clear hL4 HX3 HP3
      refine (HZ.out _).mono ?_; rintro e w5 ⟨rfl, hb5⟩
      have HX5 := Lib.hid (HX4.out.later hb5)
      have HP5 := Lib.hid (HP4.out.later hB hb5)
      have hB5 : B ≤ w5.heap.size := Nat.le_trans hB HP5.out.hb.size
      clear hb5
      have c35 := HX5.out.c35
      obtain ⟨n, hn⟩ : ∃ n : Nat, r.n = (n : Int) := ⟨r.n.toNat, by have := HRF.out (by first | rfl | trivial); omega⟩
      have hn2 : n ≤ 2000 := by omega
      have HEN := Lib.hid (show r.n.toNat = n by omega)
      have hn9' := Wi.num_len_nine (n := n) (by omega)
      have HC6 := Lib.hid (pputNum_any B L4 v4 n w5 HP5.out.own hB5 (by omega) (by omega))
      simp only [hn] at c35
      go_wp2_with fail
      refine HC6.out.mono ?_; rintro e w6 ⟨v6, rfl, hp6⟩
      have HX6 := Lib.hid (show BoxO _ w.heap.size w6 from ⟨hp6.stay _ _ _ (by decide) HX5.out.blk, HX5.out.dim⟩)
      have HP6 := Lib.hid (HP5.out.trans hp6)
      obtain ⟨L6, hL6⟩ : ∃ L6, L6 = L4 ++ Wi.num n := ⟨_, rfl⟩
      have hl6 : L6.length ≤ 900060 := by rw [hL6, List.length_append]; omega
      have HE6 := Lib.hid hL6
      rw [← hL6] at HP6
      have hB6 : B ≤ w6.heap.size := Nat.le_trans hB HP6.out.hb.size
      clear hp6 HC6 hL6 c35
      have c0 := HX6.out.c0
      have c36 := HX6.out.c36
      simp only [] at c0 c36
      go_wp2_with (at_builtin; go_must (refine wp_app _ rfl (.tmp 29) (.tmp 32) 27 27 rfl B 5 i0 _ 1 Tryd.underlying27 hi hz0 hz1 hz2 rfl v6 L6.length (bv L6) rfl (HP6.out.own.alloc _) _ 1 (bv [by_]) rfl (new_src Tryd.underlying27 w6 (bv [by_]) 1 1 5 (0, 0) rfl (bv_one _)) (by unfold maxLen; omega) (by omega) (by simp; omega) ?_); intro v7 w7 ho7 hg7 _; have HO7 := Lib.hid ho7; have HG7 := Lib.hid hg7; clear ho7 hg7)
      go_ret
      have HPA := HP6.out.later hB (below_alloc w6 (.cells (bv [by_]).toArray 5))
      have hf := HPA.app (N := [by_]) hB (by rw [List.length_append, bv_append]; exact HO7.out) HG7.out
      refine ⟨_, rfl, ?_⟩
      rw [HE6.out] at hf
      rw [HE4.out] at hf
      rw [HE2.out] at hf
      rw [HE.out]
      have hq : L ++ Wi.num N ++ r.commit ++ Wi.num n ++ [by_] = L ++ (Wi.num N ++ ((if 2 = 2 then r.commit else []) ++ ((if 2 = 1 ∨ 2 = 2 then Wi.num r.n.toNat else []) ++ (if (1 : Int) = 1 then [by_] else [])))) := by simp [HEN.out]
      rw [hq] at hf
      exact hf
    · subst hkd
      have HC := Lib.hid (pputNum_any B L v N wa HP.out.own HBA.out (by omega) (by omega))
      go_enter Tryd.func39, Tryd.ntmps39
      go_wp2_with (refine at_lod 55 (.tmp 3) rfl ?_; go_must (refine wpList_load_row rfl 55 (.tmp 3) rfl w.heap.size rfl _ X (0, 0) _ HXB.out Tryd.underlying55 rfl HXI.out ?_))
      refine HFN.out.mono ?_; rintro e w1 ⟨rfl, hb1⟩
      have HX1 := Lib.hid (HX.out.later hb1)
      have HP1 := Lib.hid (HP.out.later hB hb1)
      have HC1 := Lib.hid (pputNum_any B L v N w1 HP1.out.own (Nat.le_trans hB HP1.out.hb.size) (by omega) (by omega))
      clear hb1 hwa HFN HXB HC
      go_wp2_with fail
      refine HC1.out.mono ?_; rintro e w2 ⟨v2, rfl, hp2⟩
      have HX2 := Lib.hid (show BoxO _ w.heap.size w2 from ⟨hp2.stay _ _ _ (by decide) HX1.out.blk, HX1.out.dim⟩)
      have HP2 := Lib.hid (HP1.out.trans hp2)
      obtain ⟨L2, hL2⟩ : ∃ L2, L2 = L ++ Wi.num N := ⟨_, rfl⟩
      have hl2 : L2.length ≤ 900009 := by rw [hL2, List.length_append]; omega
      have HE2 := Lib.hid hL2
      rw [← hL2] at HP2
      clear hp2 HC1 hL2
      go_wp2_with (refine at_lod 53 (.tmp 9) rfl ?_; go_must (refine wpList_load_mid rfl 53 (.tmp 9) rfl w.heap.size 2 rfl _ _ HX2.out.rng Tryd.underlying53 rfl HRL.out ?_))
      refine (HF.out _).mono ?_; rintro e w3 ⟨rfl, hb3⟩
      have HX3 := Lib.hid (HX2.out.later hb3)
      have HP3 := Lib.hid (HP2.out.later hB hb3)
      have hB3 : B ≤ w3.heap.size := Nat.le_trans hB HP3.out.hb.size
      clear hb3
      have hCl : r.commit.length ≤ 32 := by rw [HC32.out]; exact Nat.le_refl _
      go_wp2_with (first | (at_builtin; go_must (refine wp_app _ rfl (.tmp 12) (.tmp 15) 27 27 rfl B 5 i0 _ 1 Tryd.underlying27 hi hz0 hz1 hz2 rfl v2 L2.length (bv L2) rfl HP3.out.own _ r.commit.length (bv r.commit) (by rw [HC32.out]; rfl) (src_part Tryd.underlying27 (HRB.out _ _ HX3.out) 32) (by unfold maxLen; omega) (by omega) hB3 ?_); intro v4 w4 ho4 hg4 _; rw [← List.length_append, ← bv_append] at ho4; have HP4 := Lib.hid (HP3.out.app hB ho4 hg4); have HX4 := Lib.hid (show BoxO _ w.heap.size w4 from ⟨HX3.out.blk.grown hg4 (fun e => put_own_ne HP3.out.own HX3.out.blk (by decide) e.symm), HX3.out.dim⟩); clear ho4 hg4) | (refine at_lod 53 (.tmp 17) rfl ?_; go_must (refine wpList_load_mid rfl 53 (.tmp 17) rfl w.heap.size 2 rfl _ _ HX4.out.rng Tryd.underlying53 rfl HRL.out ?_)))
      obtain ⟨L4, hL4⟩ : ∃ L4, L4 = L2 ++ r.commit := ⟨_, rfl⟩
      have hl4 : L4.length ≤ 900041 := by rw [hL4, List.length_append]; omega
      have HE4 := Lib.hid hL4
      rw [← hL4] at HP4
      clear hL4 HX3 HP3
      refine (HZ.out _).mono ?_; rintro e w5 ⟨rfl, hb5⟩
      have HX5 := Lib.hid (HX4.out.later hb5)
      have HP5 := Lib.hid (HP4.out.later hB hb5)
      have hB5 : B ≤ w5.heap.size := Nat.le_trans hB HP5.out.hb.size
      clear hb5
      have c35 := HX5.out.c35
      obtain ⟨n, hn⟩ : ∃ n : Nat, r.n = (n : Int) := ⟨r.n.toNat, by have := HRF.out (by first | rfl | trivial); omega⟩
      have hn2 : n ≤ 2000 := by omega
      have HEN := Lib.hid (show r.n.toNat = n by omega)
      have hn9' := Wi.num_len_nine (n := n) (by omega)
      have HC6 := Lib.hid (pputNum_any B L4 v4 n w5 HP5.out.own hB5 (by omega) (by omega))
      simp only [hn] at c35
      go_wp2_with fail
      refine HC6.out.mono ?_; rintro e w6 ⟨v6, rfl, hp6⟩
      have HX6 := Lib.hid (show BoxO _ w.heap.size w6 from ⟨hp6.stay _ _ _ (by decide) HX5.out.blk, HX5.out.dim⟩)
      have HP6 := Lib.hid (HP5.out.trans hp6)
      obtain ⟨L6, hL6⟩ : ∃ L6, L6 = L4 ++ Wi.num n := ⟨_, rfl⟩
      have hl6 : L6.length ≤ 900060 := by rw [hL6, List.length_append]; omega
      have HE6 := Lib.hid hL6
      rw [← hL6] at HP6
      have hB6 : B ≤ w6.heap.size := Nat.le_trans hB HP6.out.hb.size
      clear hp6 HC6 hL6 c35
      have c0 := HX6.out.c0
      have c36 := HX6.out.c36
      simp only [] at c0 c36
      go_wp2_with fail
      go_ret
      refine ⟨_, rfl, ?_⟩
      have hf := HP6.out
      rw [HE6.out] at hf
      rw [HE4.out] at hf
      rw [HE2.out] at hf
      rw [HE.out]
      have hq : L ++ Wi.num N ++ r.commit ++ Wi.num n = L ++ (Wi.num N ++ ((if 2 = 2 then r.commit else []) ++ ((if 2 = 1 ∨ 2 = 2 then Wi.num r.n.toNat else []) ++ (if (2 : Int) = 1 then [by_] else [])))) := by simp [HEN.out]
      rw [hq] at hf
      exact hf
  · exact absurd hk hk3
end Go.Proofs.YtjgegggcbjecbaaDoor
