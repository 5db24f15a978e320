/- The contract of the program's next: the state behind one more block. -/
import Derived.Test.YtkgkllpecpcgjaaDoorPWords
namespace Go.Proofs.YtkgkllpecpcgjaaDoor
open Go Go.RowKit

theorem infoS8 : (Tryd.prog.info? 48).map (·.size) = some 8 := by kernel_rfl
theorem infoB64 : (Tryd.prog.info? 50).map (·.size) = some 64 := by kernel_rfl

/-- The table of the rounds' constants lies where the program's text lays it. -/
def KT (w : World) : Prop := ∀ i, i < 64 → w.cell? ⟨0, i, none⟩ = some (.int .u32 (Sh.K.getD i 0 : Int))
theorem KT.lt {w : World} (h : KT w) : 0 < w.heap.size := World.block_lt_of_cell? _ _ (h 0 (by decide))
theorem KT.below {w w' : World} {B : Nat} (h : KT w) (hb : Below B w w') (hB : 0 < B) : KT w' := fun i hi => (hb.cell (p := ⟨0, i, none⟩) hB).trans (h i hi)
theorem KT.later {w w' : World} (h : KT w) (hb : Below w.heap.size w w') : KT w' := h.below hb h.lt
theorem KT.drew {w : World} (h : KT w) : KT w.drew := h

theorem list8 {l : List Nat} (h : l.length = 8) : l = [l.getD 0 0, l.getD 1 0, l.getD 2 0, l.getD 3 0, l.getD 4 0, l.getD 5 0, l.getD 6 0, l.getD 7 0] := by
  match l, h with
  | [_, _, _, _, _, _, _, _], _ => rfl

set_option maxRecDepth 100000 in
set_option maxHeartbeats 8000000 in
theorem next_any (s : List Nat) (b : List UInt8) (w : World) (hs : s.length = 8) (hws : Sh.Ws s) (hb : b.length = 64) (hk : KT w) :
    Calls Tryd.prog 33 #[.agg (uv s).toArray, .agg (bv b).toArray] w fun e w' => e = .returned (.agg (uv (Sh.mix s b)).toArray) ∧ Below w.heap.size w w' := by
  have h8 := uv_size s
  rw [hs] at h8
  have H8 := Lib.hid h8
  have h64 := bv_size b
  rw [hb] at h64
  have H64 := Lib.hid h64
  have HW0 := Lib.hid (fun W : World => words_any b W hb)
  have HKT := Lib.hid hk
  have hglt := hk.lt
  have hat := fun (p : Nat) (h : p < s.length) => uv_at' s h
  rw [hs] at hat
  have a0 := hat 0 (by decide)
  have a1 := hat 1 (by decide)
  have a2 := hat 2 (by decide)
  have a3 := hat 3 (by decide)
  have a4 := hat 4 (by decide)
  have a5 := hat 5 (by decide)
  have a6 := hat 6 (by decide)
  have a7 := hat 7 (by decide)
  have hww := Sh.words_ws b 64
  have hwl := Sh.words_length b 64
  obtain ⟨W, hW⟩ : ∃ W, W = Sh.words b 64 := ⟨_, rfl⟩
  rw [← hW] at HW0 hww hwl
  have hok := Sh.St.of_ok hws
  have hMIX : Sh.mix s b = (Sh.St.of s).onto (Sh.rounds W (Sh.St.of s) 64) := by rw [hW]; rfl
  obtain ⟨S0, hS0⟩ : ∃ S0, S0 = Sh.St.of s := ⟨_, rfl⟩
  rw [← hS0] at hMIX hok
  rw [show s.getD 0 0 = S0.a by rw [hS0]; rfl] at a0
  rw [show s.getD 1 0 = S0.b by rw [hS0]; rfl] at a1
  rw [show s.getD 2 0 = S0.c by rw [hS0]; rfl] at a2
  rw [show s.getD 3 0 = S0.d by rw [hS0]; rfl] at a3
  rw [show s.getD 4 0 = S0.e by rw [hS0]; rfl] at a4
  rw [show s.getD 5 0 = S0.f by rw [hS0]; rfl] at a5
  rw [show s.getD 6 0 = S0.g by rw [hS0]; rfl] at a6
  rw [show s.getD 7 0 = S0.h by rw [hS0]; rfl] at a7
  have HMIX := Lib.hid hMIX
  have HS := Lib.hid (fun (w' : World) (B : Nat) (h : Blk w' B 48 (uv s).toArray) => And.intro ((h.cell 0).trans a0) (And.intro ((h.cell 1).trans a1) (And.intro ((h.cell 2).trans a2) (And.intro ((h.cell 3).trans a3) (And.intro ((h.cell 4).trans a4) (And.intro ((h.cell 5).trans a5) (And.intro ((h.cell 6).trans a6) ((h.cell 7).trans a7))))))))
  have hW64 := uv_size W
  rw [hwl] at hW64
  have HW64 := Lib.hid hW64
  have HWA := Lib.hid (uv_all W)
  have HWL := Lib.hid hwl
  clear hs hb hat a0 a1 a2 a3 a4 a5 a6 a7 hMIX hS0 hW hwl hW64 h8 h64 hk
  obtain ⟨C, hC⟩ : ∃ C, C = (bv b).toArray := ⟨_, rfl⟩
  obtain ⟨S, hS⟩ : ∃ S, S = (uv s).toArray := ⟨_, rfl⟩
  rw [← hC] at HW0 H64 ⊢
  rw [← hS] at HS H8 ⊢
  clear hC hS
  go_enter Tryd.func33, Tryd.ntmps33
  have s1 : (w.alloc (.cells S 48)).heap.size = w.heap.size + 1 := by simp
  have hS0 : Blk ((w.alloc (.cells S 48)).alloc (.cells C 50)) w.heap.size 48 S := (Blk.new w _ _).alloc _
  have hB0 : Blk ((w.alloc (.cells S 48)).alloc (.cells C 50)) (w.heap.size + 1) 50 C := s1 ▸ Blk.new (w.alloc (.cells S 48)) 50 C
  have hW1 : Below w.heap.size w ((w.alloc (.cells S 48)).alloc (.cells C 50)) := ((Below.refl _ _).alloc (Nat.le_refl _) _).alloc (by simp) _
  have hsz1 : ((w.alloc (.cells S 48)).alloc (.cells C 50)).heap.size = w.heap.size + 1 + 1 := by simp
  have HSZ := Lib.hid hsz1
  clear s1 hsz1
  go_wp2_with (first
    | (refine wpList_load_row rfl 50 (.tmp 3) rfl _ rfl _ C _ _ (hB0.alloc _) Tryd.underlying50 rfl (by rw [H64.out]; exact infoB64) ?_
       generalize hwa : World.alloc (World.alloc (World.alloc w _) _) _ = wa
       have hSa : Blk wa w.heap.size 48 S := by rw [← hwa]; exact hS0.alloc _
       have hRa : ∃ Z, Blk wa (w.heap.size + 1 + 1) 48 Z ∧ Z.size = 8 := by rw [← hwa]; exact ⟨_, HSZ.out ▸ Blk.new _ _ _, rfl⟩
       have hba : Below w.heap.size w wa := by rw [← hwa]; exact hW1.alloc hW1.size _
       clear hwa)
    | (go_at_call 37; refine (HW0.out _).mono ?_; rintro e w1 ⟨rfl, hb1⟩
       have hb2 := hba.trans (hb1.mono hba.size)
       have hSb := hSa.later hb1)
    | (refine wpList_store_row rfl 64 (.tmp 5) (.tmp 18) rfl _ (uv W).toArray rfl rfl _ _ (Blk.new _ _ _) (by rw [HW64.out]; exact infoW64) (by rw [HW64.out]; rfl) HWA.out ?_
       generalize hwc : World.setRow _ _ _ = wc))
  have hltS := hSb.lt
  obtain ⟨Z, hZa, hZ8⟩ := hRa
  have HZ8 := Lib.hid hZ8
  have hZb := hZa.later hb1
  have hltZ := hZb.lt
  have hWc : Blk wc w1.heap.size 64 (uv W).toArray := by rw [← hwc]; exact (Blk.new w1 _ _).row _
  have hSc : Blk wc w.heap.size 48 S := by rw [← hwc]; exact (hSb.alloc _).farRow (by omega) _
  have hZc : Blk wc (w.heap.size + 1 + 1) 48 Z := by rw [← hwc]; exact (hZb.alloc _).farRow (by omega) _
  have hbc : Below w.heap.size w wc := by rw [← hwc]; exact below_setRow (hb2.alloc hb2.size _) hb2.size _
  have hKc := HKT.out.below hbc hglt
  clear hwc hSa hba hb1 hSb hZa hZ8 hZb hS0 hB0 hW1
  have HKc := Lib.hid hKc.drew
  clear hKc
  have hWc := hWc.drew
  have hSc := hSc.drew
  have hZc := hZc.drew
  have hbc := hbc.drew
  obtain ⟨k0, k1, k2, k3, k4, k5, k6, k7⟩ := HS.out _ _ hSc
  refine still_all (by kernel_rfl) (by kernel_rfl) ?_
  generalize World.drew wc = wd at *
  refine wpStill_step (fun K hK => ?_); go_simp; refine hK _ ?_; clear hK K
  refine wpStill_step (fun K hK => ?_); go_simp; refine hK _ ?_; clear hK K
  refine wpStill_step (fun K hK => ?_); go_simp; refine hK _ ?_; clear hK K
  refine wpStill_step (fun K hK => ?_); go_simp; refine hK _ ?_; clear hK K
  refine wpStill_step (fun K hK => ?_); go_simp; refine hK _ ?_; clear hK K
  refine wpStill_step (fun K hK => ?_); go_simp; refine hK _ ?_; clear hK K
  refine wpStill_step (fun K hK => ?_); go_simp; refine hK _ ?_; clear hK K
  refine wpStill_step (fun K hK => ?_); go_simp; refine hK _ ?_; clear hK K
  refine wpStill_step (fun K hK => ?_); go_simp; refine hK _ ?_; clear hK K
  refine wpStill_step (fun K hK => ?_); go_simp; refine hK _ ?_; clear hK K
  refine wpStill_step (fun K hK => ?_); go_simp; refine hK _ ?_; clear hK K
  refine wpStill_step (fun K hK => ?_); go_simp; refine hK _ ?_; clear hK K
  refine wpStill_step (fun K hK => ?_); go_simp; refine hK _ ?_; clear hK K
  refine wpStill_step (fun K hK => ?_); go_simp; refine hK _ ?_; clear hK K
  refine wpStill_step (fun K hK => ?_); go_simp; refine hK _ ?_; clear hK K
  refine wpStill_step (fun K hK => ?_); go_simp; refine hK _ ?_; clear hK K
  refine wpStill_step (fun K hK => ?_); go_simp; refine hK _ ?_; clear hK K
  refine wpStill_step (fun K hK => ?_); go_simp; refine hK _ ?_; clear hK K
  refine wpStill_step (fun K hK => ?_); go_simp; refine hK _ ?_; clear hK K
  refine wpStill_step (fun K hK => ?_); go_simp; refine hK _ ?_; clear hK K
  refine wpStill_step (fun K hK => ?_); go_simp; refine hK _ ?_; clear hK K
  refine wpStill_step (fun K hK => ?_); go_simp; refine hK _ ?_; clear hK K
  refine wpStill_step (fun K hK => ?_); go_simp; refine hK _ ?_; clear hK K
  refine wpStill_step (fun K hK => ?_); go_simp; refine hK _ ?_; clear hK K
  refine wpStill_nil ?_
  obtain ⟨g, hg⟩ : ∃ g, g = w1.heap.size := ⟨_, rfl⟩
  rw [← hg]
  rw [← hg] at hWc hltS hltZ
  have hgb : w.heap.size ≤ g := by omega
  clear hg hb2 k0 k1 k2 k3 k4 k5 k6 k7
  go_wp2_with fail
  go_loopw [6, 7, 8, 9, 10, 11, 12, 13, 35] (fun va vb vc vd ve vf vg vh i wr => ∃ (k a b1 c1 d e f g1 h : Nat), k ≤ 64 ∧ Sh.rounds W S0 k = ⟨a, b1, c1, d, e, f, g1, h⟩ ∧ va = .int .u32 (a : Int) ∧ vb = .int .u32 (b1 : Int) ∧ vc = .int .u32 (c1 : Int) ∧ vd = .int .u32 (d : Int) ∧ ve = .int .u32 (e : Int) ∧ vf = .int .u32 (f : Int) ∧ vg = .int .u32 (g1 : Int) ∧ vh = .int .u32 (h : Int) ∧ i = .int .i64 (k : Int) ∧ Blk wr g 64 (uv W).toArray ∧ Blk wr w.heap.size 48 S ∧ Blk wr (w.heap.size + 1 + 1) 48 Z ∧ Hid (KT wr) ∧ Below w.heap.size w wr) (fun _ _ _ _ _ _ _ _ i _ => 64 - (intOf i).toNat)
  case atStart => exact ⟨0, S0.a, S0.b, S0.c, S0.d, S0.e, S0.f, S0.g, S0.h, Nat.zero_le _, rfl, rfl, rfl, rfl, rfl, rfl, rfl, rfl, rfl, rfl, hWc, hSc, hZc, HKc, hbc⟩
  case round =>
    obtain ⟨k, a, b1, c1, d, e, f, g1, h, hk, hst, rfl, rfl, rfl, rfl, rfl, rfl, rfl, rfl, rfl, hWr, hSr, hZr, HKr, hbr⟩ := hrel
    have hso := Sh.rounds_ok W hok k
    rw [hst] at hso
    obtain ⟨ha, hbb, hcc, hd, he, hf, hg, hh⟩ := hso
    simp only [] at ha hbb hcc hd he hf hg hh
    by_cases hlt : k < 64
    · have HX := Lib.hid (show Sh.rounds W S0 (k + 1) = Sh.St.step ⟨a, b1, c1, d, e, f, g1, h⟩ (Sh.K.getD k 0) (W.getD k 0) by rw [Sh.rounds, hst])
      unfold Sh.St.step Sh.St.t Sh.St.u Sh.sumE Sh.sumA Sh.chs Sh.maj at HX
      simp only [] at HX
      have T1 := Lib.hid (pturn_any e 6 wr.drew he (by decide) (by decide))
      have T2 := Lib.hid (pturn_any e 11 wr.drew he (by decide) (by decide))
      have T3 := Lib.hid (pturn_any e 25 wr.drew he (by decide) (by decide))
      have T4 := Lib.hid (fun w : World => pturn_any a 2 w ha (by decide) (by decide))
      have T5 := Lib.hid (fun w : World => pturn_any a 13 w ha (by decide) (by decide))
      have T6 := Lib.hid (fun w : World => pturn_any a 22 w ha (by decide) (by decide))
      have o1 := Sh.turn_lt 2 ha
      have o2 := Sh.turn_lt 13 ha
      have o3 := Sh.turn_lt 22 ha
      have hWr := hWr.drew
      have hSr := hSr.drew
      have hZr := hZr.drew
      have hbr := hbr.drew
      have cw := (hWr.cell k).trans (uv_at' W (p := k) (by rw [HWL.out]; exact hlt))
      have HKr := Lib.hid HKr.out.drew
      have ck := HKr.out k hlt
      have bw := hww.at k
      have hk64 : (k : Int) < 64 := by omega
      generalize W.getD k 0 = wk at *
      have m1 := Sh.turn_lt 6 he
      have m2 := Sh.turn_lt 11 he
      have m3 := Sh.turn_lt 25 he
      generalize Sh.turn e 6 = u1 at *
      generalize Sh.turn e 11 = u2 at *
      generalize Sh.turn e 25 = u3 at *
      have q1 := u32_xor_nat u1 u2 m1 m2
      have m4 := Sh.xor_lt m1 m2
      generalize u1 ^^^ u2 = u4 at *
      have q2 := u32_xor_nat u4 u3 m4 m3
      generalize u4 ^^^ u3 = u5 at *
      have v1 := add_wrap h u5
      have En1 := Lib.hid (show Sh.add h u5 = (h + u5) % 4294967296 from rfl)
      generalize Sh.add h u5 = n1 at *
      have q3 := u32_and_nat e f he hf
      have m5 : e &&& f < 4294967296 := Sh.and_lt hf
      generalize e &&& f = p1 at *
      have q4 := not_u32 he
      have m6 : 4294967295 - e < 4294967296 := by omega
      generalize 4294967295 - e = p2 at *
      have q5 := u32_and_nat p2 g1 m6 hg
      have m7 : p2 &&& g1 < 4294967296 := Sh.and_lt hg
      generalize p2 &&& g1 = p3 at *
      have q6 := u32_xor_nat p1 p3 m5 m7
      generalize p1 ^^^ p3 = p4 at *
      have v2 := add_wrap n1 p4
      have En2 := Lib.hid (show Sh.add n1 p4 = (n1 + p4) % 4294967296 from rfl)
      generalize Sh.add n1 p4 = n2 at *
      have v3 := add_wrap n2 (Sh.K.getD k 0)
      generalize Sh.K.getD k 0 = kk at *
      have En3 := Lib.hid (show Sh.add n2 kk = (n2 + kk) % 4294967296 from rfl)
      generalize Sh.add n2 kk = n3 at *
      have v4 := add_wrap n3 wk
      have En4 := Lib.hid (show Sh.add n3 wk = (n3 + wk) % 4294967296 from rfl)
      generalize Sh.add n3 wk = n4 at *
      generalize Sh.turn a 2 = t1 at *
      generalize Sh.turn a 13 = t2 at *
      generalize Sh.turn a 22 = t3 at *
      have x1 := u32_xor_nat t1 t2 o1 o2
      have o4 := Sh.xor_lt o1 o2
      generalize t1 ^^^ t2 = t4 at *
      have x2 := u32_xor_nat t4 t3 o4 o3
      generalize t4 ^^^ t3 = t5 at *
      have x3 := u32_and_nat a b1 ha hbb
      have o5 : a &&& b1 < 4294967296 := Sh.and_lt hbb
      generalize a &&& b1 = t6 at *
      have x4 := u32_and_nat a c1 ha hcc
      have o6 : a &&& c1 < 4294967296 := Sh.and_lt hcc
      generalize a &&& c1 = t7 at *
      have x5 := u32_xor_nat t6 t7 o5 o6
      have o7 := Sh.xor_lt o5 o6
      generalize t6 ^^^ t7 = t8 at *
      have x6 := u32_and_nat b1 c1 hbb hcc
      have o8 : b1 &&& c1 < 4294967296 := Sh.and_lt hcc
      generalize b1 &&& c1 = t9 at *
      have x7 := u32_xor_nat t8 t9 o7 o8
      generalize t8 ^^^ t9 = t10 at *
      have x8 := add_wrap t5 t10
      have Et11 := Lib.hid (show Sh.add t5 t10 = (t5 + t10) % 4294967296 from rfl)
      generalize Sh.add t5 t10 = t11 at *
      have x9 := add_wrap d n4
      have Ed2 := Lib.hid (show Sh.add d n4 = (d + n4) % 4294967296 from rfl)
      generalize Sh.add d n4 = d2 at *
      have x10 := add_wrap n4 t11
      have Ea2 := Lib.hid (show Sh.add n4 t11 = (n4 + t11) % 4294967296 from rfl)
      generalize Sh.add n4 t11 = a2 at *
      clear hst
      go_wp2_with fail
      refine still_all (by kernel_rfl) (by kernel_rfl) ?_
      generalize World.drew wr = wd at *
      refine wpStill_step (fun K hK => ?_); go_simp; refine hK _ ?_; clear hK K
      refine wpStill_step (fun K hK => ?_); go_simp; refine hK _ ?_; clear hK K
      refine wpStill_step (fun K hK => ?_); go_simp; refine ⟨_, still_same T1.out, hK _ ?_⟩; clear hK K
      refine wpStill_step (fun K hK => ?_); go_simp; refine hK _ ?_; clear hK K
      refine wpStill_step (fun K hK => ?_); go_simp; refine ⟨_, still_same T2.out, hK _ ?_⟩; clear hK K
      refine wpStill_step (fun K hK => ?_); go_simp; refine hK _ ?_; clear hK K
      refine wpStill_step (fun K hK => ?_); go_simp; refine hK _ ?_; clear hK K
      refine wpStill_step (fun K hK => ?_); go_simp; refine ⟨_, still_same T3.out, hK _ ?_⟩; clear hK K
      refine wpStill_step (fun K hK => ?_); go_simp; refine hK _ ?_; clear hK K
      refine wpStill_step (fun K hK => ?_); go_simp; refine hK _ ?_; clear hK K
      refine wpStill_step (fun K hK => ?_); go_simp; refine hK _ ?_; clear hK K
      refine wpStill_step (fun K hK => ?_); go_simp; refine hK _ ?_; clear hK K
      refine wpStill_step (fun K hK => ?_); go_simp; refine hK _ ?_; clear hK K
      refine wpStill_step (fun K hK => ?_); go_simp; refine hK _ ?_; clear hK K
      refine wpStill_step (fun K hK => ?_); go_simp; refine hK _ ?_; clear hK K
      refine wpStill_step (fun K hK => ?_); go_simp; refine hK _ ?_; clear hK K
      refine wpStill_step (fun K hK => ?_); go_simp; refine hK _ ?_; clear hK K
      refine wpStill_step (fun K hK => ?_); go_simp; refine hK _ ?_; clear hK K
      refine wpStill_step (fun K hK => ?_); go_simp; refine hK _ ?_; clear hK K
      refine wpStill_step (fun K hK => ?_); go_simp; refine hK _ ?_; clear hK K
      refine wpStill_step (fun K hK => ?_); go_simp; refine hK _ ?_; clear hK K
      refine wpStill_step (fun K hK => ?_); go_simp; refine hK _ ?_; clear hK K
      refine wpStill_step (fun K hK => ?_); go_simp; refine hK _ ?_; clear hK K
      refine wpStill_step (fun K hK => ?_); go_simp; refine hK _ ?_; clear hK K
      refine wpStill_step (fun K hK => ?_); go_simp; refine hK _ ?_; clear hK K
      refine wpStill_step (fun K hK => ?_); go_simp; refine hK _ ?_; clear hK K
      refine wpStill_step (fun K hK => ?_); go_simp; refine hK _ ?_; clear hK K
      refine wpStill_step (fun K hK => ?_); go_simp; refine hK _ ?_; clear hK K
      refine wpStill_nil ?_
      go_wp2_with fail
      refine (T4.out _).mono ?_; rintro e' w' ⟨rfl, rfl⟩
      go_wp2_with fail
      refine (T5.out _).mono ?_; rintro e' w' ⟨rfl, rfl⟩
      go_wp2_with fail
      refine (T6.out _).mono ?_; rintro e' w' ⟨rfl, rfl⟩
      go_wp2_with fail
      go_roundw
      case rel =>
        exact ⟨k + 1, a2, a, b1, c1, d2, e, f, g1, by omega, HX.out, rfl, rfl, rfl, rfl, rfl, rfl, rfl, rfl, by go_num, hWr, hSr, hZr, HKr, hbr⟩
      case measure => simp [intOf]; omega
    · obtain rfl : k = 64 := by omega
      have HM := HMIX.out
      rw [hst] at HM
      unfold Sh.St.onto at HM
      simp only [] at HM
      have v0 := add_wrap S0.a a
      generalize Sh.add S0.a a = z0 at *
      have v1 := add_wrap S0.b b1
      generalize Sh.add S0.b b1 = z1 at *
      have v2 := add_wrap S0.c c1
      generalize Sh.add S0.c c1 = z2 at *
      have v3 := add_wrap S0.d d
      generalize Sh.add S0.d d = z3 at *
      have v4 := add_wrap S0.e e
      generalize Sh.add S0.e e = z4 at *
      have v5 := add_wrap S0.f f
      generalize Sh.add S0.f f = z5 at *
      have v6 := add_wrap S0.g g1
      generalize Sh.add S0.g g1 = z6 at *
      have v7 := add_wrap S0.h h
      generalize Sh.add S0.h h = z7 at *
      have HMM := Lib.hid HM
      obtain ⟨k0, k1, k2, k3, k4, k5, k6, k7⟩ := HS.out _ _ hSr
      clear hst hlt hk HM HMIX
      go_wp2_with (refine wpList_store_row rfl 48 (.tmp 4) (.tmp 130) rfl _ (uv [z0, z1, z2, z3, z4, z5, z6, z7]).toArray rfl rfl _ Z hZr infoS8 (by rw [HZ8.out]; rfl) (uv_all _) ?_)
      exact bodyPost_ret (v := .agg (uv [z0, z1, z2, z3, z4, z5, z6, z7]).toArray) (results_cell_row rfl _ _ (w.heap.size + 1 + 1) _ _ _ _ rfl (hZr.row _) Tryd.underlying48 rfl infoS8) rfl ⟨by rw [HMM.out], below_setRow hbr (by omega) _⟩
end Go.Proofs.YtkgkllpecpcgjaaDoor
