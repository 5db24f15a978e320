/- The contract of the program's words. -/
import Derived.Test.YtkgkllpecpcgjaaDoorStill
import Derived.Outline
namespace Go.Proofs.YtkgkllpecpcgjaaDoor
open Go Go.RowKit

theorem infoW64 : (Tryd.prog.info? 64).map (·.size) = some 64 := by kernel_rfl

/-- Four bytes one behind the other are their sum. -/
theorem or_word {a b c d : Nat} (ha : a < 256) (hb : b < 256) (hc : c < 256) (hd : d < 256) :
    ((a * 16777216 ||| b * 65536) ||| c * 256) ||| d = Sh.add (Sh.add (Sh.add (a * 16777216) (b * 65536)) (c * 256)) d := by
  have h1 : a * 16777216 ||| b * 65536 = a * 16777216 + b * 65536 := by
    have := Nat.two_pow_add_eq_or_of_lt (i := 24) (b := b * 65536) (by omega) a
    rw [Nat.mul_comm] at this; exact this.symm
  have h2 : (a * 16777216 + b * 65536) ||| c * 256 = a * 16777216 + b * 65536 + c * 256 := by
    have := Nat.two_pow_add_eq_or_of_lt (i := 16) (b := c * 256) (by omega) (a * 256 + b)
    rw [show 2 ^ 16 * (a * 256 + b) = a * 16777216 + b * 65536 by omega] at this; exact this.symm
  have h3 : (a * 16777216 + b * 65536 + c * 256) ||| d = a * 16777216 + b * 65536 + c * 256 + d := by
    have := Nat.two_pow_add_eq_or_of_lt (i := 8) (b := d) (by omega) (a * 65536 + b * 256 + c)
    rw [show 2 ^ 8 * (a * 65536 + b * 256 + c) = a * 16777216 + b * 65536 + c * 256 by omega] at this; exact this.symm
  rw [h1, h2, h3]
  unfold Sh.add
  omega

set_option maxRecDepth 100000 in
set_option maxHeartbeats 4000000 in
theorem words_any (b : List UInt8) (w : World) (hb : b.length = 64) :
    Calls Tryd.prog 37 #[.agg (bv b).toArray] w fun e w' => e = .returned (.agg (uv (Sh.words b 64)).toArray) ∧ Below w.heap.size w w' := by
  go_enter Tryd.func37, Tryd.ntmps37
  go_wp2_with fail
  go_loopw [8] (fun i wr => ∃ k : Nat, k ≤ 16 ∧ i = .int .i64 (k : Int) ∧ Blk wr w.heap.size 50 (bv b).toArray ∧ Blk wr (w.heap.size + 1) 64 (wz [] 64) ∧ Blk wr (w.heap.size + 1 + 1) 64 (wz (Sh.words b k) 64) ∧ Below w.heap.size w wr) (fun i _ => 16 - (intOf i).toNat)
  case atStart =>
    have s1 : (w.alloc (.cells (bv b).toArray 50)).heap.size = w.heap.size + 1 := by simp
    have s2 : ((w.alloc (.cells (bv b).toArray 50)).alloc (.cells (wz [] 64) 64)).heap.size = w.heap.size + 1 + 1 := by simp
    exact ⟨0, Nat.zero_le _, rfl, ((Blk.new w _ _).alloc _).alloc _, s1 ▸ (Blk.new (w.alloc (.cells (bv b).toArray 50)) _ (wz [] 64)).alloc _, s2 ▸ Blk.new ((w.alloc (.cells (bv b).toArray 50)).alloc (.cells (wz [] 64) 64)) _ (wz [] 64), (((Below.refl _ _).alloc (Nat.le_refl _) _).alloc (by simp) _).alloc (by simp; omega) _⟩
  case round =>
    obtain ⟨k, hk, rfl, hgb, hgr, hgw, hbk⟩ := hrel
    by_cases hlt : k < 16
    · have HX := Lib.hid (show Sh.words b (k + 1) = Sh.words b k ++ [Sh.word4 b k] by rw [Sh.words, if_pos hlt])
      unfold Sh.word4 at HX
      obtain ⟨p, hp⟩ : ∃ p, p = 4 * k := ⟨_, rfl⟩
      rw [← hp] at HX
      have hp1 : IntKind.i64.wrap (4 * (k : Int)) = (p : Int) := by rw [IntWalk.i64_in _ (by omega)]; omega
      obtain ⟨p1, e1⟩ : ∃ p1, p1 = p + 1 := ⟨_, rfl⟩
      obtain ⟨p2, e2⟩ : ∃ p2, p2 = p + 2 := ⟨_, rfl⟩
      obtain ⟨p3, e3⟩ : ∃ p3, p3 = p + 3 := ⟨_, rfl⟩
      rw [← e1, ← e2, ← e3] at HX
      have hq0 : (p : Int) < 64 := by omega
      have hq1 : (p1 : Int) < 64 := by omega
      have hq2 : (p2 : Int) < 64 := by omega
      have hq3 : (p3 : Int) < 64 := by omega
      have hr1 : IntKind.i64.wrap ((p : Int) + 1) = (p1 : Int) := by rw [IntWalk.i64_in _ (by omega)]; omega
      have hr2 : IntKind.i64.wrap ((p : Int) + 2) = (p2 : Int) := by rw [IntWalk.i64_in _ (by omega)]; omega
      have hr3 : IntKind.i64.wrap ((p : Int) + 3) = (p3 : Int) := by rw [IntWalk.i64_in _ (by omega)]; omega
      clear hp e1 e2 e3
      have e0 := bv_at b (p := p) (by omega)
      have e1 := bv_at b (p := p1) (by omega)
      have e2 := bv_at b (p := p2) (by omega)
      have e3 := bv_at b (p := p3) (by omega)
      have b0 := Sh.byteAt_lt b p
      have b1 := Sh.byteAt_lt b p1
      have b2 := Sh.byteAt_lt b p2
      have b3 := Sh.byteAt_lt b p3
      generalize Sh.byteAt b p = x0 at *
      generalize Sh.byteAt b p1 = x1 at *
      generalize Sh.byteAt b p2 = x2 at *
      generalize Sh.byteAt b p3 = x3 at *
      have HX2 := HX.out
      rw [← or_word b0 b1 b2 b3] at HX2
      have v0 : IntKind.u32.wrap (x0 : Int) = (x0 : Int) := IntWalk.u32_in _ (by omega)
      have v1 : IntKind.u32.wrap (x1 : Int) = (x1 : Int) := IntWalk.u32_in _ (by omega)
      have v2 : IntKind.u32.wrap (x2 : Int) = (x2 : Int) := IntWalk.u32_in _ (by omega)
      have v3 : IntKind.u32.wrap (x3 : Int) = (x3 : Int) := IntWalk.u32_in _ (by omega)
      obtain ⟨y0, f0⟩ : ∃ y0, y0 = x0 * 16777216 := ⟨_, rfl⟩
      obtain ⟨y1, f1⟩ : ∃ y1, y1 = x1 * 65536 := ⟨_, rfl⟩
      obtain ⟨y2, f2⟩ : ∃ y2, y2 = x2 * 256 := ⟨_, rfl⟩
      rw [← f0, ← f1, ← f2] at HX2
      have v4 : IntKind.u32.wrap ((x0 : Int) * 16777216) = (y0 : Int) := by rw [IntWalk.u32_in _ (by omega)]; omega
      have v5 : IntKind.u32.wrap ((x1 : Int) * 65536) = (y1 : Int) := by rw [IntWalk.u32_in _ (by omega)]; omega
      have v6 : IntKind.u32.wrap ((x2 : Int) * 256) = (y2 : Int) := by rw [IntWalk.u32_in _ (by omega)]; omega
      have g0 : y0 < 4294967296 := by omega
      have g1 : y1 < 4294967296 := by omega
      have g2 : y2 < 4294967296 := by omega
      have g3 : x3 < 4294967296 := by omega
      clear f0 f1 f2 HX
      have v7 := u32_or_nat y0 y1 g0 g1
      have g4 : y0 ||| y1 < 4294967296 := Nat.or_lt_two_pow (n := 32) g0 g1
      generalize y0 ||| y1 = z1 at *
      have v8 := u32_or_nat z1 y2 g4 g2
      have g5 : z1 ||| y2 < 4294967296 := Nat.or_lt_two_pow (n := 32) g4 g2
      generalize z1 ||| y2 = z2 at *
      have v9 := u32_or_nat z2 x3 g5 g3
      generalize z2 ||| x3 = x4 at *
      have HX := Lib.hid HX2
      clear HX2
      have hl := Sh.words_length b k
      have HL := Lib.hid hl
      have hk64 : (k : Int) < 64 := by omega
      have hgbd := hgb.drew
      have hgrd := hgr.drew
      have hgwd := hgw.drew
      have hbkd := hbk.drew
      have c0 := (hgbd.cell p).trans e0
      have c1 := (hgbd.cell p1).trans e1
      have c2 := (hgbd.cell p2).trans e2
      have c3 := (hgbd.cell p3).trans e3
      have cw := (hgwd.cell k).trans (wz_in (p := k) (by omega) (by omega))
      have fw := hgwd.frozen k
      clear e0 e1 e2 e3
      go_wp2_with fail
      refine still_tail 31 (by kernel_rfl) (by kernel_rfl) ?_
      simp only [List.take_succ_cons, List.take_zero, List.drop_succ_cons, List.drop_zero]
      generalize World.drew wr = wd at *
      refine wpStill_step (fun K hK => ?_); go_simp; refine hK _ ?_; clear hK K
      refine wpStill_step (fun K hK => ?_); go_simp; refine hK _ ?_; clear hK K
      refine wpStill_step (fun K hK => ?_); go_simp; refine hK _ ?_; clear hK K
      refine wpStill_step (fun K hK => ?_); go_simp; refine hK _ ?_; clear hK K
      refine wpStill_step (fun K hK => ?_); go_simp; refine hK _ ?_; clear hK K
      refine wpStill_step (fun K hK => ?_); go_simp; refine hK _ ?_; clear hK K
      refine wpStill_step (fun K hK => ?_); go_simp; refine hK _ ?_; clear hK K
      refine wpStill_step (fun K hK => ?_); go_simp; refine hK _ ?_; clear hK K
      refine wpStill_step (fun K hK => ?_); go_simp; refine hK _ ?_; clear hK K
      refine wpStill_step (fun K hK => ?_); go_simp; refine hK _ ?_; clear hK K
      refine wpStill_step (fun K hK => ?_); go_simp; refine hK _ ?_; clear hK K
      refine wpStill_step (fun K hK => ?_); go_simp; refine hK _ ?_; clear hK K
      refine wpStill_step (fun K hK => ?_); go_simp; refine hK _ ?_; clear hK K
      refine wpStill_step (fun K hK => ?_); go_simp; refine hK _ ?_; clear hK K
      refine wpStill_step (fun K hK => ?_); go_simp; refine hK _ ?_; clear hK K
      refine wpStill_step (fun K hK => ?_); go_simp; refine hK _ ?_; clear hK K
      refine wpStill_step (fun K hK => ?_); go_simp; refine hK _ ?_; clear hK K
      refine wpStill_step (fun K hK => ?_); go_simp; refine hK _ ?_; clear hK K
      refine wpStill_step (fun K hK => ?_); go_simp; refine hK _ ?_; clear hK K
      refine wpStill_step (fun K hK => ?_); go_simp; refine hK _ ?_; clear hK K
      refine wpStill_step (fun K hK => ?_); go_simp; refine hK _ ?_; clear hK K
      refine wpStill_step (fun K hK => ?_); go_simp; refine hK _ ?_; clear hK K
      refine wpStill_step (fun K hK => ?_); go_simp; refine hK _ ?_; clear hK K
      refine wpStill_step (fun K hK => ?_); go_simp; refine hK _ ?_; clear hK K
      refine wpStill_step (fun K hK => ?_); go_simp; refine hK _ ?_; clear hK K
      refine wpStill_step (fun K hK => ?_); go_simp; refine hK _ ?_; clear hK K
      refine wpStill_step (fun K hK => ?_); go_simp; refine hK _ ?_; clear hK K
      refine wpStill_step (fun K hK => ?_); go_simp; refine hK _ ?_; clear hK K
      refine wpStill_step (fun K hK => ?_); go_simp; refine hK _ ?_; clear hK K
      refine wpStill_step (fun K hK => ?_); go_simp; refine hK _ ?_; clear hK K
      refine wpStill_step (fun K hK => ?_); go_simp; refine hK _ ?_; clear hK K
      refine wpStill_nil ?_
      go_wp2_with fail
      go_roundw
      case rel => exact ⟨k + 1, by omega, by go_num, hgbd.far (by simp; omega) _, hgrd.far (by simp) _, by rw [HX.out, ← wz_set (by rw [HL.out]; omega), HL.out]; exact hgwd.set_ k _, hbkd.setCell (by simp; omega) _⟩
      case measure => simp [intOf]; omega
    · obtain rfl : k = 16 := by omega
      clear hk hlt
      rw [show ((16 : Nat) : Int) = 16 from rfl]
      go_wp2_with fail
      go_loopw [5] (fun i wr => ∃ k : Nat, 16 ≤ k ∧ k ≤ 64 ∧ i = .int .i64 (k : Int) ∧ Blk wr (w.heap.size + 1) 64 (wz [] 64) ∧ Blk wr (w.heap.size + 1 + 1) 64 (wz (Sh.words b k) 64) ∧ Below w.heap.size w wr) (fun i _ => 64 - (intOf i).toNat)
      case atStart => exact ⟨16, Nat.le_refl _, by omega, rfl, hgr, hgw, hbk⟩
      case round =>
        obtain ⟨k, hk0, hk, rfl, hgr, hgw, hbk⟩ := hrel
        by_cases hlt : k < 64
        · have HX := Lib.hid (show Sh.words b (k + 1) = Sh.words b k ++ [Sh.next (Sh.words b k) k] by rw [Sh.words, if_neg (by omega)])
          unfold Sh.next at HX
          have hws := Sh.words_ws b k
          have hwl := Sh.words_length b k
          have HL := Lib.hid hwl
          obtain ⟨j1, e1⟩ : ∃ j, j = k - 15 := ⟨_, rfl⟩
          obtain ⟨j2, e2⟩ : ∃ j, j = k - 2 := ⟨_, rfl⟩
          obtain ⟨j3, e3⟩ : ∃ j, j = k - 16 := ⟨_, rfl⟩
          obtain ⟨j4, e4⟩ : ∃ j, j = k - 7 := ⟨_, rfl⟩
          rw [← e1, ← e2, ← e3, ← e4] at HX
          have r1 : IntKind.i64.wrap ((k : Int) - 15) = (j1 : Int) := by rw [IntWalk.i64_in _ (by omega)]; omega
          have r2 : IntKind.i64.wrap ((k : Int) - 2) = (j2 : Int) := by rw [IntWalk.i64_in _ (by omega)]; omega
          have r3 : IntKind.i64.wrap ((k : Int) - 16) = (j3 : Int) := by rw [IntWalk.i64_in _ (by omega)]; omega
          have r4 : IntKind.i64.wrap ((k : Int) - 7) = (j4 : Int) := by rw [IntWalk.i64_in _ (by omega)]; omega
          have l1 : (j1 : Int) < 64 := by omega
          have l2 : (j2 : Int) < 64 := by omega
          have l3 : (j3 : Int) < 64 := by omega
          have l4 : (j4 : Int) < 64 := by omega
          have l5 : (k : Int) < 64 := by omega
          have c1 := (hgw.cell j1).trans (wz_at (p := j1) (by omega))
          have c2 := (hgw.cell j2).trans (wz_at (p := j2) (by omega))
          have c3 := (hgw.cell j3).trans (wz_at (p := j3) (by omega))
          have c4 := (hgw.cell j4).trans (wz_at (p := j4) (by omega))
          have b1 := hws.at j1
          have b2 := hws.at j2
          have b3 := hws.at j3
          have b4 := hws.at j4
          generalize (Sh.words b k).getD j1 0 = x1 at *
          generalize (Sh.words b k).getD j2 0 = x2 at *
          generalize (Sh.words b k).getD j3 0 = x3 at *
          generalize (Sh.words b k).getD j4 0 = x4 at *
          have T1 := Lib.hid (fun w : World => pturn_any x1 7 w b1 (by decide) (by decide))
          have T2 := Lib.hid (fun w : World => pturn_any x1 18 w b1 (by decide) (by decide))
          have m1 := Sh.turn_lt 7 b1
          have m2 := Sh.turn_lt 18 b1
          unfold Sh.mixX at HX
          generalize Sh.turn x1 7 = t1 at *
          generalize Sh.turn x1 18 = t2 at *
          have q1 := u32_xor_nat t1 t2 m1 m2
          have m3 := Sh.xor_lt m1 m2
          generalize t1 ^^^ t2 = t3 at *
          have q2 : bits .xor .u32 (t3 : Int) ((x1 : Int) / 8) = ((t3 ^^^ x1 / 8 : Nat) : Int) := by rw [show (x1 : Int) / 8 = ((x1 / 8 : Nat) : Int) by omega]; exact u32_xor_nat _ _ m3 (by omega)
          have m4 : t3 ^^^ x1 / 8 < 4294967296 := Sh.xor_lt m3 (by omega)
          generalize t3 ^^^ x1 / 8 = X1 at *
          have T3 := Lib.hid (fun w : World => pturn_any x2 17 w b2 (by decide) (by decide))
          have T4 := Lib.hid (fun w : World => pturn_any x2 19 w b2 (by decide) (by decide))
          have m5 := Sh.turn_lt 17 b2
          have m6 := Sh.turn_lt 19 b2
          unfold Sh.mixY at HX
          generalize Sh.turn x2 17 = t5 at *
          generalize Sh.turn x2 19 = t6 at *
          have q3 := u32_xor_nat t5 t6 m5 m6
          have m7 := Sh.xor_lt m5 m6
          generalize t5 ^^^ t6 = t7 at *
          have q4 : bits .xor .u32 (t7 : Int) ((x2 : Int) / 1024) = ((t7 ^^^ x2 / 1024 : Nat) : Int) := by rw [show (x2 : Int) / 1024 = ((x2 / 1024 : Nat) : Int) by omega]; exact u32_xor_nat _ _ m7 (by omega)
          generalize t7 ^^^ x2 / 1024 = X2 at *
          have v1 := add_wrap x3 X1
          generalize Sh.add x3 X1 = z1 at *
          have v2 := add_wrap z1 x4
          generalize Sh.add z1 x4 = z2 at *
          have v3 := add_wrap z2 X2
          generalize Sh.add z2 X2 = z3 at *
          clear e1 e2 e3 e4
          go_wp2_with fail
          have c1d := (World.cell?_drew wr _).trans c1
          have c2d := (World.cell?_drew wr _).trans c2
          have hgrd := hgr.drew
          have hgwd := hgw.drew
          have hbkd := hbk.drew
          have c3d := (World.cell?_drew wr _).trans c3
          have c4d := (World.cell?_drew wr _).trans c4
          have cwd := (hgwd.cell k).trans (wz_in (p := k) (by omega) (by omega))
          have fwd := hgwd.frozen k
          clear c1 c2 c3 c4
          refine still_all (by kernel_rfl) (by kernel_rfl) ?_
          generalize World.drew wr = wd at *
          refine wpStill_step (fun K hK => ?_); go_simp; refine hK _ ?_; clear hK K
          refine wpStill_step (fun K hK => ?_); go_simp; refine hK _ ?_; clear hK K
          refine wpStill_step (fun K hK => ?_); go_simp; refine hK _ ?_; clear hK K
          refine wpStill_step (fun K hK => ?_); go_simp; refine hK _ ?_; clear hK K
          refine wpStill_step (fun K hK => ?_); go_simp; refine hK _ ?_; clear hK K
          refine wpStill_step (fun K hK => ?_); go_simp; refine hK _ ?_; clear hK K
          refine wpStill_step (fun K hK => ?_); go_simp; refine hK _ ?_; clear hK K
          refine wpStill_step (fun K hK => ?_); go_simp; refine hK _ ?_; clear hK K
          refine wpStill_step (fun K hK => ?_); go_simp; refine hK _ ?_; clear hK K
          refine wpStill_step (fun K hK => ?_); go_simp; refine hK _ ?_; clear hK K
          refine wpStill_nil ?_
          have T1' := T1.out wd.drew
          have T2' := T2.out wd.drew
          have T3' := T3.out wd.drew
          have T4' := T4.out wd.drew
          have S1 := Lib.hid T1'
          have S2 := Lib.hid T2'
          have S3 := Lib.hid T3'
          have S4 := Lib.hid T4'
          clear T1' T2' T3' T4'
          have c3e := (World.cell?_drew wd _).trans c3d
          have c4e := (World.cell?_drew wd _).trans c4d
          have hgre := hgrd.drew
          have hgwe := hgwd.drew
          have hbke := hbkd.drew
          have cwe := (World.cell?_drew wd _).trans cwd
          have fwe := (World.frozen?_drew wd _).trans fwd
          clear c1d c2d c3d c4d hgrd hgwd hbkd hgr hgw hbk cwd fwd
          go_wp2_with fail
          refine still_tail 29 (by kernel_rfl) (by kernel_rfl) ?_
          simp only [List.take_succ_cons, List.take_zero, List.drop_succ_cons, List.drop_zero]
          generalize World.drew wd = we at *
          refine wpStill_step (fun K hK => ?_); go_simp; refine hK _ ?_; clear hK K
          refine wpStill_step (fun K hK => ?_); go_simp; refine hK _ ?_; clear hK K
          refine wpStill_step (fun K hK => ?_); go_simp; refine hK _ ?_; clear hK K
          refine wpStill_step (fun K hK => ?_); go_simp; refine hK _ ?_; clear hK K
          refine wpStill_step (fun K hK => ?_); go_simp; refine hK _ ?_; clear hK K
          refine wpStill_step (fun K hK => ?_); go_simp; refine hK _ ?_; clear hK K
          refine wpStill_step (fun K hK => ?_); go_simp; refine ⟨_, still_same S1.out, hK _ ?_⟩; clear hK K
          refine wpStill_step (fun K hK => ?_); go_simp; refine hK _ ?_; clear hK K
          refine wpStill_step (fun K hK => ?_); go_simp; refine ⟨_, still_same S2.out, hK _ ?_⟩; clear hK K
          refine wpStill_step (fun K hK => ?_); go_simp; refine hK _ ?_; clear hK K
          refine wpStill_step (fun K hK => ?_); go_simp; refine hK _ ?_; clear hK K
          refine wpStill_step (fun K hK => ?_); go_simp; refine hK _ ?_; clear hK K
          refine wpStill_step (fun K hK => ?_); go_simp; refine hK _ ?_; clear hK K
          refine wpStill_step (fun K hK => ?_); go_simp; refine hK _ ?_; clear hK K
          refine wpStill_step (fun K hK => ?_); go_simp; refine hK _ ?_; clear hK K
          refine wpStill_step (fun K hK => ?_); go_simp; refine hK _ ?_; clear hK K
          refine wpStill_step (fun K hK => ?_); go_simp; refine hK _ ?_; clear hK K
          refine wpStill_step (fun K hK => ?_); go_simp; refine hK _ ?_; clear hK K
          refine wpStill_step (fun K hK => ?_); go_simp; refine hK _ ?_; clear hK K
          refine wpStill_step (fun K hK => ?_); go_simp; refine hK _ ?_; clear hK K
          refine wpStill_step (fun K hK => ?_); go_simp; refine ⟨_, still_same S3.out, hK _ ?_⟩; clear hK K
          refine wpStill_step (fun K hK => ?_); go_simp; refine hK _ ?_; clear hK K
          refine wpStill_step (fun K hK => ?_); go_simp; refine ⟨_, still_same S4.out, hK _ ?_⟩; clear hK K
          refine wpStill_step (fun K hK => ?_); go_simp; refine hK _ ?_; clear hK K
          refine wpStill_step (fun K hK => ?_); go_simp; refine hK _ ?_; clear hK K
          refine wpStill_step (fun K hK => ?_); go_simp; refine hK _ ?_; clear hK K
          refine wpStill_step (fun K hK => ?_); go_simp; refine hK _ ?_; clear hK K
          refine wpStill_step (fun K hK => ?_); go_simp; refine hK _ ?_; clear hK K
          refine wpStill_step (fun K hK => ?_); go_simp; refine hK _ ?_; clear hK K
          refine wpStill_nil ?_
          go_wp2_with fail
          go_roundw
          case rel => exact ⟨k + 1, by omega, by omega, by go_num, hgre.far (by simp) _, by rw [HX.out, ← wz_set (by rw [HL.out]; omega), HL.out]; exact hgwe.set_ k _, hbke.setCell (by simp; omega) _⟩
          case measure => simp [intOf]; omega
        · obtain rfl : k = 64 := by omega
          clear hk hk0 hlt
          rw [show ((64 : Nat) : Int) = 64 from rfl]
          have hwl := Sh.words_length b 64
          rw [wz_full hwl] at hgw
          obtain ⟨W, hW⟩ : ∃ W, W = Sh.words b 64 := ⟨_, rfl⟩
          rw [← hW] at hgw hwl
          have HW := Lib.hid hW
          have hs : (uv W).toArray.size = 64 := by rw [uv_size]; exact hwl
          have HS := Lib.hid hs
          have hal := uv_all W
          have HA := Lib.hid hal
          have hz : (wz [] 64).size = 64 := wz_size (by decide)
          have HZ := Lib.hid hz
          clear hs hal hz hwl hW
          obtain ⟨C, hC⟩ : ∃ C, C = (uv W).toArray := ⟨_, rfl⟩
          rw [← hC] at hgw HS HA
          have HC := Lib.hid hC
          clear hC
          generalize wz [] 64 = Z at *
          go_wp2_with (first
            | (refine wpList_load_row rfl 64 (.tmp 3) rfl _ rfl _ C _ _ hgw Tryd.underlying64 rfl (by rw [HS.out]; exact infoW64) ?_)
            | (refine wpList_store_row rfl 64 (.tmp 2) (.tmp 84) rfl _ C rfl rfl _ Z hgr (by rw [HS.out]; exact infoW64) (by rw [HS.out, HZ.out]) HA.out ?_))
          exact bodyPost_ret (v := .agg C) (results_cell_row rfl _ _ (w.heap.size + 1) _ C _ _ rfl (hgr.row C) Tryd.underlying64 rfl (by rw [HS.out]; exact infoW64)) rfl ⟨by rw [HC.out, HW.out], below_setRow hbk (by omega) _⟩
end Go.Proofs.YtkgkllpecpcgjaaDoor
