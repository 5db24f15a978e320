/- The program's putNum and firstNumber. -/
import Derived.Test.YtjgegggcbjecbaaDoorPMayB
import Derived.Test.YtjgegggcbjecbaaDoorByts
import Derived.Test.YtjgegggcbjecbaaDoorNums2
namespace Go.Proofs.YtjgegggcbjecbaaDoor
open Go Go.RowKit

/-- Bytes put behind others, in a row of the call's own: what lies in blocks of another kind stays. -/
structure PutS (B : Nat) (L : List UInt8) (v : Value) (w w' : World) : Prop where
  own : w'.ownsRow B 5 1 v L.length (bv L)
  hb : Below B w w'
  stay : ∀ g t cs, t ≠ 5 → Blk w g t cs → Blk w' g t cs
def PutR (B : Nat) (L : List UInt8) (w : World) (e : Ending) (w' : World) : Prop := ∃ v, e = .returned v ∧ PutS B L v w w'
theorem put_own_ne {B g : Nat} {L : List UInt8} {v : Value} {cs : Array Value} {t : TypeId} {w : World} (ho : w.ownsRow B 5 1 v L.length (bv L)) (hg : Blk w g t cs) (ht : t ≠ 5) : v.ownBlock ≠ some g := by
  rcases ho.2 with ⟨rfl, _⟩ | ⟨q, cap, cur, rfl, _, hq, _⟩
  · simp [Value.ownBlock]
  · intro h
    simp only [Value.ownBlock, Option.some.injEq] at h
    subst h
    unfold Blk at hg
    rw [hq] at hg
    simp only [Option.some.injEq, Obj.cells.injEq] at hg
    exact ht hg.2.1.symm
theorem PutS.refl {B : Nat} {L : List UInt8} {v : Value} {w : World} (ho : w.ownsRow B 5 1 v L.length (bv L)) : PutS B L v w w := ⟨ho, Below.refl _ _, fun _ _ _ _ h => h⟩
/-- Behind what turned nothing that was there. -/
theorem PutS.later {B : Nat} {L : List UInt8} {v : Value} {w w1 w2 : World} (h : PutS B L v w w1) (hB : B ≤ w.heap.size) (hb : Below w1.heap.size w1 w2) : PutS B L v w w2 :=
  ⟨own_below h.own hb, h.hb.trans (hb.mono (Nat.le_trans hB h.hb.size)), fun g t cs ht hk => (h.stay g t cs ht hk).later hb⟩
theorem PutS.trans {B : Nat} {L1 L2 : List UInt8} {v1 v2 : Value} {w w1 w2 : World} (h1 : PutS B L1 v1 w w1) (h2 : PutS B L2 v2 w1 w2) : PutS B L2 v2 w w2 :=
  ⟨h2.own, h1.hb.trans h2.hb, fun g t cs ht hk => h2.stay g t cs ht (h1.stay g t cs ht hk)⟩
/-- Behind an append. -/
theorem PutS.app {B : Nat} {L N : List UInt8} {v v' : Value} {w w1 w2 : World} (h : PutS B L v w w1) (hB : B ≤ w.heap.size) (ho : w2.ownsRow B 5 1 v' (L ++ N).length (bv (L ++ N))) (hg : w1.grownBy w2 v.ownBlock) : PutS B (L ++ N) v' w w2 :=
  ⟨ho, h.hb.grown hg (Nat.le_trans hB h.hb.size) (fun q hq => (h.own.lt q hq).1), fun g t cs ht hk => (h.stay g t cs ht hk).grown hg (fun e => put_own_ne h.own (h.stay g t cs ht hk) ht e.symm)⟩

set_option maxRecDepth 100000 in
set_option maxHeartbeats 4000000 in
theorem pputNum_any (B : Nat) (L : List UInt8) (v : Value) (n : Nat) (w : World) (hX : w.ownsRow B 5 1 v L.length (bv L)) (hB : B ≤ w.heap.size) (hL : L.length ≤ 1000000) (hn : n < 9223372036854775808) :
    Calls Tryd.prog 37 #[v, .int .i64 (n : Int)] w (PutR B (L ++ Wi.num n) w) := by
  obtain ⟨i0, hi, hz0, hz1, hz2⟩ := info_parts infoU8
  have h9 := Wi.num_len_nine hn
  have C := Lib.hid (num_any n w hn)
  have HX := Lib.hid (PutS.refl hX)
  clear hX
  obtain ⟨N, hN⟩ : ∃ N, N = Wi.num n := ⟨_, rfl⟩
  rw [← hN] at C h9 ⊢
  clear hN
  go_enter Tryd.func37, Tryd.ntmps37
  go_wp2_with fail
  refine C.out.mono ?_; rintro e w1 ⟨A, c, rfl, hc, hr, hb1⟩
  have HX1 := Lib.hid (HX.out.later hB hb1)
  have HR := Lib.hid hr
  have hBs : B ≤ w1.heap.size := Nat.le_trans hB hb1.size
  clear hb1 hr
  go_wp2_with (at_builtin; go_must (refine wp_app _ rfl (.tmp 12) (.tmp 13) 27 27 rfl B 5 i0 _ 1 Tryd.underlying27 hi hz0 hz1 hz2 rfl v L.length (bv L) rfl HX1.out.own _ N.length (bv N) rfl (HR.out.src Tryd.underlying27 c (bv_one N)) (by unfold maxLen; omega) (by omega) hBs ?_); intro v2 w2 ho2 hg2 _; rw [← List.length_append, ← bv_append] at ho2; have HH := Lib.hid (HX1.out.app hB ho2 hg2); clear ho2 hg2)
  go_ret
  exact ⟨_, rfl, HH.out⟩

set_option maxRecDepth 100000 in
set_option maxHeartbeats 4000000 in
theorem firstNumber_any (x : Cm.Op) (w : World) (hd : dimOp x) :
    Calls Tryd.prog 63 #[opV x] w (Ret (.int .i64 (Cm.headN x : Int)) w) := by
  unfold opV
  obtain ⟨wa, hwa⟩ : ∃ y, y = w.alloc (.cells (opCells x).toArray 55) := ⟨_, rfl⟩
  have HX := Lib.hid (show BoxO x w.heap.size wa from ⟨by rw [hwa]; exact Blk.new w _ _, hd⟩)
  have HB := Lib.hid (show Below w.heap.size w wa by rw [hwa]; exact below_alloc w _)
  have HRL := Lib.hid (show (Tryd.prog.info? 53).map (·.size) = some (refCells x.at_).length by rw [refCells_len hd.1]; exact infoR34)
  have HO := Lib.hid (fun w => isOwn_any x.at_ w hd.1)
  have HF := Lib.hid (fun w => isFar_any x.at_ w hd.1)
  unfold refV at HO HF
  have HN := Lib.hid (show (Cm.headN x : Int) = (if x.kind = 2 then 1 else 0) + (if x.left = true then 2 else 0) + (if Cm.refK x.at_ = 1 then 4 else if Cm.refK x.at_ = 2 then 8 else 0) by
    unfold Cm.headN
    repeat' split
    all_goals simp)
  obtain ⟨hN, hhn⟩ : ∃ n : Int, n = (Cm.headN x : Int) := ⟨_, rfl⟩
  obtain ⟨X, hX⟩ : ∃ X, X = (opCells x).toArray := ⟨_, rfl⟩
  rw [← hX] at hwa ⊢
  rw [← hhn] at HN ⊢
  replace hwa := hwa.symm
  have c0 := HX.out.c0
  have c1 := HX.out.c1
  have hkc := Cm.refK_cases x.at_
  obtain ⟨kd, lf, r, by_⟩ := x
  simp only [] at HRL HO HF HN c0 c1 hkc
  obtain ⟨k, hk⟩ : ∃ k, k = Cm.refK r := ⟨_, rfl⟩
  rw [← hk] at HO HF HN hkc
  clear hX hd hk hhn
  by_cases h2 : kd = 2
  · subst h2
    cases lf
    all_goals
      by_cases k1 : k = 1
      · subst k1
        go_enter Tryd.func63, Tryd.ntmps63
        go_wp2_with (refine at_lod 53 (.tmp 14) rfl ?_; go_must (refine wpList_load_mid rfl 53 (.tmp 14) rfl w.heap.size 2 rfl _ _ HX.out.rng Tryd.underlying53 rfl HRL.out ?_))
        refine (HO.out _).mono ?_; rintro e w1 ⟨rfl, hb1⟩
        have HB1 := Lib.hid (HB.out.trans (hb1.mono HB.out.size))
        clear hb1 hwa c0 c1
        go_wp2_with fail
        go_ret
        exact ⟨by rw [HN.out]; rfl, HB1.out⟩
      · rw [decide_eq_false k1] at HO
        go_enter Tryd.func63, Tryd.ntmps63
        go_wp2_with (refine at_lod 53 (.tmp 14) rfl ?_; go_must (refine wpList_load_mid rfl 53 (.tmp 14) rfl w.heap.size 2 rfl _ _ HX.out.rng Tryd.underlying53 rfl HRL.out ?_))
        refine (HO.out _).mono ?_; rintro e w1 ⟨rfl, hb1⟩
        have HX1 := Lib.hid (HX.out.later hb1)
        have HB1 := Lib.hid (HB.out.trans (hb1.mono HB.out.size))
        clear hb1 hwa c0 c1
        go_wp2_with (refine at_lod 53 (.tmp 20) rfl ?_; go_must (refine wpList_load_mid rfl 53 (.tmp 20) rfl w.heap.size 2 rfl _ _ HX1.out.rng Tryd.underlying53 rfl HRL.out ?_))
        refine (HF.out _).mono ?_; rintro e w2 ⟨rfl, hb2⟩
        have HB2 := Lib.hid (HB1.out.trans (hb2.mono HB1.out.size))
        clear hb2
        rw [if_neg k1] at HN
        by_cases k2 : k = 2
        · subst k2
          go_wp2_with fail
          go_ret
          exact ⟨by rw [HN.out]; rfl, HB2.out⟩
        · rw [decide_eq_false k2]
          rw [if_neg k2] at HN
          go_wp2_with fail
          go_ret
          exact ⟨by rw [HN.out]; rfl, HB2.out⟩
  · have e2 : (kd == 2) = false := by rw [beq_eq_false_iff_ne]; exact h2
    rw [if_neg h2] at HN
    clear h2
    cases lf
    all_goals
      by_cases k1 : k = 1
      · subst k1
        go_enter Tryd.func63, Tryd.ntmps63
        go_wp2_with (refine at_lod 53 (.tmp 14) rfl ?_; go_must (refine wpList_load_mid rfl 53 (.tmp 14) rfl w.heap.size 2 rfl _ _ HX.out.rng Tryd.underlying53 rfl HRL.out ?_))
        refine (HO.out _).mono ?_; rintro e w1 ⟨rfl, hb1⟩
        have HB1 := Lib.hid (HB.out.trans (hb1.mono HB.out.size))
        clear hb1 hwa c0 c1
        go_wp2_with fail
        go_ret
        exact ⟨by rw [HN.out]; rfl, HB1.out⟩
      · rw [decide_eq_false k1] at HO
        go_enter Tryd.func63, Tryd.ntmps63
        go_wp2_with (refine at_lod 53 (.tmp 14) rfl ?_; go_must (refine wpList_load_mid rfl 53 (.tmp 14) rfl w.heap.size 2 rfl _ _ HX.out.rng Tryd.underlying53 rfl HRL.out ?_))
        refine (HO.out _).mono ?_; rintro e w1 ⟨rfl, hb1⟩
        have HX1 := Lib.hid (HX.out.later hb1)
        have HB1 := Lib.hid (HB.out.trans (hb1.mono HB.out.size))
        clear hb1 hwa c0 c1
        go_wp2_with (refine at_lod 53 (.tmp 20) rfl ?_; go_must (refine wpList_load_mid rfl 53 (.tmp 20) rfl w.heap.size 2 rfl _ _ HX1.out.rng Tryd.underlying53 rfl HRL.out ?_))
        refine (HF.out _).mono ?_; rintro e w2 ⟨rfl, hb2⟩
        have HB2 := Lib.hid (HB1.out.trans (hb2.mono HB1.out.size))
        clear hb2
        rw [if_neg k1] at HN
        by_cases k2 : k = 2
        · subst k2
          go_wp2_with fail
          go_ret
          exact ⟨by rw [HN.out]; rfl, HB2.out⟩
        · rw [decide_eq_false k2]
          rw [if_neg k2] at HN
          go_wp2_with fail
          go_ret
          exact ⟨by rw [HN.out]; rfl, HB2.out⟩
end Go.Proofs.YtjgegggcbjecbaaDoor
