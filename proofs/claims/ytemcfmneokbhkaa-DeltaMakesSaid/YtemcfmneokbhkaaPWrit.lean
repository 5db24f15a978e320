/- The program's writer of a delta: number, ofOwn, ofBase. -/
import Derived.Test.YtemcfmneokbhkaaPAppl
import Derived.Test.YtemcfmneokbhkaaBlk
namespace Go.Proofs.Ytemcfmneokbhkaa
open Go Go.RowKit

/-- A writer in block B: the bytes so far are a row of the call's own. -/
structure Wr (B : Nat) (L : List UInt8) (v : Value) (w : World) : Prop where
  blk : Blk w B 36 #[v]
  own : w.ownsRow B 5 1 v L.length (bv L)

theorem wr_own_ne {B g : Nat} {L : List UInt8} {v : Value} {cs : Array Value} {t : TypeId} {w : World} (ho : w.ownsRow B 5 1 v L.length (bv L)) (hg : Blk w g t cs) (ht : t ≠ 5) : v.ownBlock ≠ some g := by
  rcases ho.2 with ⟨rfl, _⟩ | ⟨q, cap, cur, rfl, _, hq, _⟩
  · simp [Value.ownBlock]
  · intro h
    simp only [Value.ownBlock, Option.some.injEq] at h
    subst h
    unfold Blk at hg
    rw [hq] at hg
    simp only [Option.some.injEq, Obj.cells.injEq] at hg
    exact ht hg.2.1.symm
theorem Wr.later {B : Nat} {L : List UInt8} {v : Value} {w w' : World} (h : Wr B L v w) (hb : Below w.heap.size w w') : Wr B L v w' := ⟨h.blk.later hb, own_below h.own hb⟩
theorem Wr.ne {B : Nat} {L : List UInt8} {v : Value} {w : World} (h : Wr B L v w) : v.ownBlock ≠ some B := wr_own_ne h.own h.blk (by decide)
theorem Wr.size {B : Nat} {L : List UInt8} {v : Value} {w : World} (h : Wr B L v w) : B < w.heap.size := h.blk.lt

/-- What a write leaves. -/
structure WHeld (B : Nat) (L : List UInt8) (w : World) (v : Value) (w' : World) : Prop where
  box : Wr B L v w'
  hb : Below B w w'
  stay : ∀ g t cs, t ≠ 5 → g ≠ B → Blk w g t cs → Blk w' g t cs

theorem WHeld.trans {B : Nat} {L1 L2 : List UInt8} {v1 v2 : Value} {w w1 w2 : World} (h1 : WHeld B L1 w v1 w1) (h2 : WHeld B L2 w1 v2 w2) : WHeld B L2 w v2 w2 :=
  ⟨h2.box, h1.hb.trans h2.hb, fun g t cs ht hg h => h2.stay g t cs ht hg (h1.stay g t cs ht hg h)⟩
theorem WHeld.first {B : Nat} {L : List UInt8} {v : Value} {w w1 w2 : World} (hb : Below w.heap.size w w1) (hB : B ≤ w.heap.size) (h : WHeld B L w1 v w2) : WHeld B L w v w2 :=
  ⟨h.box, (hb.mono hB).trans h.hb, fun g t cs ht hg hk => h.stay g t cs ht hg (hk.later hb)⟩
theorem wheld_next {B : Nat} {L L' : List UInt8} {v v' : Value} {w w1 w2 : World} (h : Wr B L v w) (hb : Below w.heap.size w w1) (ho : w2.ownsRow B 5 1 v' L'.length (bv L')) (hg : w1.grownBy w2 v.ownBlock) : WHeld B L' w v' (w2.setCell ⟨B, 0, none⟩ v') := by
  have hB1 : Below B w w1 := hb.mono (Nat.le_of_lt h.size)
  have hbk2 : Blk w2 B 36 #[v] := (h.blk.later hb).grown hg (fun e => h.ne e.symm)
  have hne' : v'.ownBlock ≠ some B := wr_own_ne ho hbk2 (by decide)
  have hB2 : Below B w w2 := hB1.grown hg (Nat.le_trans (Nat.le_of_lt h.size) hb.size) (fun q hq => (h.own.lt q hq).1)
  refine ⟨⟨hbk2.set_ 0 v', ?_⟩, hB2.setCell (p := ⟨B, 0, none⟩) (Nat.le_refl _) v', fun g t cs h1 h0 h2 => ?_⟩
  · exact ho.kept (row := some B) ⟨rfl, rfl, rfl, by simp [World.setCell], fun k _ hk => Below.heap_setCell _ _ _ _ (fun e => hk (by simp [e]))⟩ (Or.inr hne')
  · exact ((h2.later hb).grown hg (fun e => wr_own_ne h.own h2 h1 e.symm)).far (p := ⟨B, 0, none⟩) h0 v'

set_option maxRecDepth 100000 in
set_option maxHeartbeats 4000000 in
theorem number_any (B : Nat) (L : List UInt8) (v : Value) (n : Nat) (w : World) (hX : Wr B L v w) (hL : L.length ≤ 100000) (hn : n < 9223372036854775808) :
    Calls Try.prog 17 #[.pointer (some ⟨B, 0, none⟩), .int .i64 (n : Int)] w fun e w' => e = .returned (.tuple #[]) ∧ ∃ v', WHeld B (L ++ Wi.num n) w v' w' := by
  obtain ⟨i0, hi, hz0, hz1, hz2⟩ := info_parts infoU8
  have h9 := Wi.num_len_nine hn
  have C := Lib.hid (num_any n w hn)
  have HX := Lib.hid hX
  clear hX
  obtain ⟨N, hN⟩ : ∃ N, N = Wi.num n := ⟨_, rfl⟩
  rw [← hN] at C h9 ⊢
  clear hN
  go_enter Try.func17, Try.ntmps17
  go_wp2_with fail
  refine C.out.mono ?_; rintro e w1 ⟨A, c, rfl, hc, hr, hb1⟩
  have HX1 := Lib.hid (HX.out.later hb1)
  have HB1 := Lib.hid hb1
  have HR := Lib.hid hr
  have cB : w1.cell? ⟨B, 0, none⟩ = some v := HX1.out.blk.cell 0
  have hBs : B ≤ w1.heap.size := Nat.le_of_lt HX1.out.size
  clear hb1 hr
  go_wp2_with (at_builtin; go_must (refine wp_app _ rfl (.tmp 15) (.tmp 16) 22 22 rfl B 5 i0 _ 1 Try.underlying22 hi hz0 hz1 hz2 rfl v L.length (bv L) rfl HX1.out.own _ N.length (bv N) rfl (HR.out.src Try.underlying22 c (bv_one N)) (by unfold maxLen; omega) (by omega) hBs ?_); intro v2 w2 ho2 hg2 _; rw [← List.length_append, ← bv_append] at ho2; obtain ⟨A2, k2, hv2, -, -, -⟩ := own_form ho2; subst hv2; have HH := Lib.hid (wheld_next HX.out HB1.out ho2 hg2); have hb2 := HX1.out.blk.grown hg2 (fun e => HX1.out.ne e.symm); have c2 := hb2.cell 0; have f2 := hb2.frozen 0; simp only [List.getElem?_toArray, List.getElem?_cons_zero] at c2; clear ho2 hg2 hb2 cB)
  go_end0
  have hh := HH.out
  simp only [List.length_append] at hh
  exact ⟨rfl, _, hh⟩

set_option maxRecDepth 100000 in
set_option maxHeartbeats 4000000 in
theorem ofOwn_any (B : Nat) (L s : List UInt8) (v : Value) (A : Option Addr) (c : Nat) (w : World) (hX : Wr B L v w) (hL : L.length ≤ 50000) (hr : Rd w B A s.length (bv s)) (hs : s.length ≤ 4096) :
    Calls Try.prog 20 #[.pointer (some ⟨B, 0, none⟩), .slice A s.length c] w fun e w' => e = .returned (.tuple #[]) ∧ ∃ v', WHeld B (L ++ (Wi.num (2 * s.length) ++ s)) w v' w' := by
  obtain ⟨i0, hi, hz0, hz1, hz2⟩ := info_parts infoU8
  have h9 := Wi.num_len_nine (n := 2 * s.length) (by omega)
  have hw2 : IntKind.i64.wrap (2 * (s.length : Int)) = 2 * (s.length : Int) := IntWalk.i64_in _ (by omega)
  have C := Lib.hid (number_any B L v (2 * s.length) w hX (by omega) (by omega))
  have HR := Lib.hid hr
  have HAS := Lib.hid (List.append_assoc L (Wi.num (2 * s.length)) s)
  have hsl : s.length = s.length := rfl
  obtain ⟨N, hN⟩ : ∃ N, N = L ++ Wi.num (2 * s.length) := ⟨_, rfl⟩
  have hNl : N.length ≤ 60000 := by rw [hN, List.length_append]; omega
  rw [← hN] at C HAS
  rw [← HAS.out]
  rw [Int.natCast_mul] at C
  have hci : ((2 : Nat) : Int) = 2 := rfl
  rw [hci] at C
  clear hN hX hr hsl hci h9
  go_enter Try.func20, Try.ntmps20
  go_wp2_with fail
  refine C.out.mono ?_; rintro e w1 ⟨rfl, v1, hh⟩
  have HH1 := Lib.hid hh
  have hX1 := hh.box
  have cB : w1.cell? ⟨B, 0, none⟩ = some v1 := hX1.blk.cell 0
  have hBs : B ≤ w1.heap.size := Nat.le_of_lt hX1.size
  have HX1 := Lib.hid hX1
  have HR1 := Lib.hid (HR.out.below hh.hb)
  clear hh hX1
  go_wp2_with (at_builtin; go_must (refine wp_app _ rfl (.tmp 14) (.tmp 15) 22 22 rfl B 5 i0 _ 1 Try.underlying22 hi hz0 hz1 hz2 rfl v1 N.length (bv N) rfl HX1.out.own _ s.length (bv s) rfl (HR1.out.src Try.underlying22 c (bv_one s)) (by unfold maxLen; omega) (by omega) hBs ?_); intro v2 w2 ho2 hg2 _; rw [← List.length_append, ← bv_append] at ho2; obtain ⟨A2, k2, hv2, -, -, -⟩ := own_form ho2; subst hv2; have HH2 := Lib.hid (wheld_next HX1.out (Below.refl _ w1) ho2 hg2); have hb2 := HX1.out.blk.grown hg2 (fun e => HX1.out.ne e.symm); have c2 := hb2.cell 0; have f2 := hb2.frozen 0; simp only [List.getElem?_toArray, List.getElem?_cons_zero] at c2; clear ho2 hg2 hb2 cB)
  go_end0
  have hh := HH2.out
  simp only [List.length_append] at hh
  exact ⟨rfl, _, HH1.out.trans hh⟩

set_option maxRecDepth 100000 in
set_option maxHeartbeats 4000000 in
theorem ofBase_any (B : Nat) (L : List UInt8) (v : Value) (k n : Nat) (w : World) (hX : Wr B L v w) (hL : L.length ≤ 50000) (hk : k ≤ 4096) (hn : n ≤ 4096) :
    Calls Try.prog 21 #[.pointer (some ⟨B, 0, none⟩), .agg #[.int .i64 (k : Int), .int .i64 (n : Int)]] w fun e w' => e = .returned (.tuple #[]) ∧ ∃ v', WHeld B (L ++ (Wi.num (2 * n + 1) ++ Wi.num k)) w v' w' := by
  have h9 := Wi.num_len_nine (n := 2 * n + 1) (by omega)
  have hw2 : IntKind.i64.wrap (2 * (n : Int)) = 2 * (n : Int) := IntWalk.i64_in _ (by omega)
  have hw3 : IntKind.i64.wrap (2 * (n : Int) + 1) = ((2 * n + 1 : Nat) : Int) := by rw [Int.natCast_add, Int.natCast_mul]; exact IntWalk.i64_in _ (by omega)
  obtain ⟨wa, hwa⟩ : ∃ y, y = w.alloc (.cells #[.int .i64 (k : Int), .int .i64 (n : Int)] 57) := ⟨_, rfl⟩
  have hAl : Below w.heap.size w wa := by rw [hwa]; exact below_alloc w _
  have hS : Blk wa w.heap.size 57 #[.int .i64 (k : Int), .int .i64 (n : Int)] := by rw [hwa]; exact Blk.new w _ _
  have s1 := hS.cell 1
  simp only [List.getElem?_toArray, List.getElem?_cons_zero, List.getElem?_cons_succ] at s1
  have HS := Lib.hid hS
  have HAL := Lib.hid hAl
  have HBW := Lib.hid (Nat.le_of_lt hX.size)
  have hne : w.heap.size ≠ B := Nat.ne_of_gt hX.size
  have HNE := Lib.hid hne
  have C := Lib.hid (number_any B L v (2 * n + 1) wa (hX.later hAl) (by omega) (by omega))
  have HAS := Lib.hid (List.append_assoc L (Wi.num (2 * n + 1)) (Wi.num k))
  obtain ⟨N, hN⟩ : ∃ N, N = L ++ Wi.num (2 * n + 1) := ⟨_, rfl⟩
  have hNl : N.length ≤ 60000 := by rw [hN, List.length_append]; omega
  rw [← hN] at C HAS
  rw [← HAS.out]
  have C2 := Lib.hid (fun w v h => number_any B N v k w h (by omega) (by omega))
  obtain ⟨m, hm⟩ : ∃ m, m = 2 * n + 1 := ⟨_, rfl⟩
  rw [← hm] at C hw3
  replace hwa := hwa.symm
  clear hN hX h9 hm hS hAl hne
  go_enter Try.func21, Try.ntmps21
  go_wp2_with fail
  refine C.out.mono ?_; rintro e w1 ⟨rfl, v1, hh⟩
  have HH1 := Lib.hid hh
  have hS1 := hh.stay _ _ _ (by decide) HNE.out HS.out
  have c0 := hS1.cell 0
  simp only [List.getElem?_toArray, List.getElem?_cons_zero] at c0
  have C3 := Lib.hid (C2.out w1 v1 hh.box)
  clear hh hS1 hwa s1
  go_wp2_with fail
  refine C3.out.mono ?_; rintro e w2 ⟨rfl, v2, hh⟩
  have HH2 := Lib.hid hh
  clear hh
  go_wp2_with fail
  go_end0
  exact ⟨rfl, _, (HH1.out.trans HH2.out).first HAL.out HBW.out⟩
end Go.Proofs.Ytemcfmneokbhkaa
