/- The walk of DigestPlays, where what is read is of bounded bulk. -/
import Derived.Test.YtkgkllpecpcgjaaDoorPlays
import Derived.Deep.OwnRows
namespace Go.Proofs.YtkgkllpecpcgjaaDoor
open Go Go.RowKit

theorem make_two (w : World) : (Instr.makeSlice 37 (.int .i64 2) (.int .i64 2)).run Tryd.prog w = .ok (.slice (some ⟨w.heap.size, 0, none⟩) 2 2) (w.alloc (.cells #[.slice none 0 0, .slice none 0 0] 22)) := by
  have hinfo : (Tryd.prog.info? 22).map (fun i => (i.zero, i.size, i.bytes)) = some (some (.slice none 0 0), 1, 24) := by kernel_rfl
  have h := run_make_row' (P := Tryd.prog) 37 22 (.slice none 0 0) 24 Tryd.underlying37 hinfo rfl .i64 .i64 2 (by decide) (by decide) w
  have hm : madeCells #[Value.slice none 0 0] 2 = #[.slice none 0 0, .slice none 0 0] := by apply Array.ext'; rw [toList_madeCells_one]; rfl
  rw [hm] at h
  exact h

/-- What a round of the loop finds: so many steps taken. -/
def PlRel (L : List Step) (w : World) (GH GA : Nat) (i : Value) (wr : World) : Prop :=
  ∃ (k g0 g1 : Nat) (F0 F1 : List UInt8) (A0 A1 : Option Addr) (c0 c1 : Nat), k ≤ L.length ∧ i = .int .i64 (k : Int) ∧ PlG w GH GA g0 g1 F0 F1 F0 F1 A0 A1 c0 c1 wr ∧ F0.length ≤ (said (L.take k)).length ∧ F1.length ≤ (said (L.take k)).length

set_option maxRecDepth 100000 in
set_option maxHeartbeats 4000000 in
theorem digestPlays_walk (A : Option Addr) (c : Nat) (L : List Step) (w : World) (hr : RdS w w.heap.size A L.length L) (hn : L.length ≤ 1048576) (hx : ∀ s ∈ L, Lies w w.heap.size s.bit) (hl : (said L).length ≤ 1048576) (hk : KT w) :
    Calls Tryd.prog 7 #[.slice A L.length c] w fun e w' => e = .returned (.bool true) ∧ Below w.heap.size w w' := by
  obtain ⟨i0, hi, hz0, hz1, hz2⟩ := info_parts infoU8
  have HR := Lib.hid hr
  have HX := Lib.hid hx
  have HK := Lib.hid hk
  have hglt := hk.lt
  have NW := Lib.hid new_any
  clear hr hx hk
  go_enter Tryd.func7, Tryd.ntmps7
  go_wp2_with fail
  refine (NW.out w).mono ?_; rintro e w1 ⟨g0, rfl, hg0, hH0, hb1⟩
  go_wp2_with fail
  refine (NW.out w1).mono ?_; rintro e w2 ⟨g1, rfl, hg1, hH1, hb2⟩
  have hH0' := Blk.later hH0 hb2
  have hlt0 := Blk.lt hH0
  have hB2 := hb1.trans (hb2.mono hb1.size)
  have hg01 : g0 ≠ g1 := by omega
  have hs1 := hb1.size
  clear hb1 hb2 hH0
  have hmk := make_two
  have hP0 := (Blk.new w2 34 #[.pointer (some ⟨g0, 0, none⟩), .pointer (some ⟨g1, 0, none⟩)]).alloc (.cells #[.slice none 0 0, .slice none 0 0] 22)
  have c0 := hP0.cell 0
  have c1 := hP0.cell 1
  simp only [List.getElem?_toArray, List.getElem?_cons_zero, List.getElem?_cons_succ] at c0 c1
  go_wp2_with fail
  have hA0 := Blk.new (w2.alloc (.cells #[.pointer (some ⟨g0, 0, none⟩), .pointer (some ⟨g1, 0, none⟩)] 34)) 22 #[.slice none 0 0, .slice none 0 0]
  have hB3 := (hB2.alloc hB2.size (.cells #[.pointer (some ⟨g0, 0, none⟩), .pointer (some ⟨g1, 0, none⟩)] 34)).alloc (by simp; have := hB2.size; omega) (.cells #[.slice none 0 0, .slice none 0 0] 22)
  have hG3 : PlG w w2.heap.size (w2.heap.size + 1) g0 g1 [] [] [] [] none none 0 0 ((w2.alloc (.cells #[.pointer (some ⟨g0, 0, none⟩), .pointer (some ⟨g1, 0, none⟩)] 34)).alloc (.cells #[.slice none 0 0, .slice none 0 0] 22)) := {
    h0 := (Blk.alloc (Blk.alloc hH0' _) _)
    h1 := (Blk.alloc (Blk.alloc hH1 _) _)
    hne := hg01
    hg0 := hg0
    hg1 := by omega
    hH := hP0
    hGH := hB2.size
    hA := by have := hA0; rwa [show (w2.alloc (.cells #[.pointer (some ⟨g0, 0, none⟩), .pointer (some ⟨g1, 0, none⟩)] 34)).heap.size = w2.heap.size + 1 by simp] at this
    hGA := by have := hB2.size; omega
    o0 := World.ownsRow_nil _ _ _ _
    o1 := World.ownsRow_nil _ _ _ _
    hd := fun q hq => by cases hq
    hB := hB3 }
  refine (alive_any _ (HK.out.below hB3 hglt)).mono ?_; rintro e w3 ⟨rfl, hb3⟩
  have hG := hG3.later hb3
  obtain ⟨GH, hGH⟩ : ∃ G, G = w2.heap.size := ⟨_, rfl⟩
  obtain ⟨GA, hGA⟩ : ∃ G, G = w2.heap.size + 1 := ⟨_, rfl⟩
  rw [← hGH] at hG
  rw [show GH + 1 = GA by omega] at hG
  clear hb3 hG3 hB3 hA0 hP0 c0 c1 hmk hH0' hH1 hlt0 hg0 hg1 hg01 hs1
  go_wp2_with fail
  rw [← hGA, ← hGH]
  clear hGH hGA hB2
  go_loopw [30] (fun i wr => PlRel L w GH GA i wr) (fun i _ => L.length - (intOf i).toNat)
  case atStart => exact ⟨0, g0, g1, [], [], none, none, 0, 0, Nat.zero_le _, rfl, hG, Nat.zero_le _, Nat.zero_le _⟩
  clear hG
  case round =>
    obtain ⟨k, g0', g1', F0, F1, A0, A1, c0, c1, hk, rfl, hG, hF0, hF1⟩ := hrel
    by_cases hlt : k < L.length
    · have hltI : (k : Int) < (L.length : Int) := by omega
      obtain ⟨ad, hA, -, hcell⟩ := (HR.out.below hG.hB).2 (by omega)
      subst hA
      obtain ⟨s, hs⟩ : ∃ s, s = L[k] := ⟨_, rfl⟩
      have hLk : L[k]? = some s := by rw [List.getElem?_eq_getElem hlt, hs]
      have e0 := hcell k s hLk 0 _ rfl
      have e1 := hcell k s hLk 1 _ rfl
      have e2 := hcell k s hLk 2 _ rfl
      have q1 : ad.add (k * 3 + 1) = ⟨(ad.add (k * 3)).block, (ad.add (k * 3)).off + 1, none⟩ := by rw [← add_add']; simp [Addr.add]
      have q2 : ad.add (k * 3 + 2) = ⟨(ad.add (k * 3)).block, (ad.add (k * 3)).off + 2, none⟩ := by rw [← add_add']; simp [Addr.add]
      rw [q1] at e1
      rw [q2] at e2
      rw [Nat.add_zero] at e0
      clear hcell q1 q2
      obtain ⟨kd, two, ab, cb, lb⟩ := s
      simp only [bitv] at e0 e1 e2
      have hSK : (said (L.take k)).length + lb.length = (said (L.take (k + 1))).length := by
        have h1 := flat_succ (L.map (·.bit)) k (by simpa using hlt)
        unfold said
        rw [List.map_take, List.map_take, h1, List.length_append]
        congr 1
        rw [List.getElem_map, ← hs]
      have hSB : (said (L.take (k + 1))).length ≤ 1048576 := by
        have h1 := flat_length_take (L.map (·.bit)) (k + 1)
        rw [← List.map_take] at h1
        exact Nat.le_trans h1 hl
      obtain ⟨hx1, hx2, hx3⟩ := HX.out _ (List.getElem_mem hlt)
      rw [← hs] at hx1 hx2 hx3
      simp only [] at hx1 hx2 hx3
      have HX3 := Lib.hid hx3
      have HS0 := Lib.hid hF0
      have HS1 := Lib.hid hF1
      have hF0b : F0.length + lb.length ≤ 1048576 := by omega
      have hF1b : F1.length + lb.length ≤ 1048576 := by omega
      clear hx3 hs hLk hF0 hF1
      obtain ⟨wa, hwa⟩ : ∃ x, x = wr.alloc (.cells #[.int .i64 kd, .bool two, .slice ab lb.length cb] 39) := ⟨_, rfl⟩
      have hS : Blk wa wr.heap.size 39 #[.int .i64 kd, .bool two, .slice ab lb.length cb] := by rw [hwa]; exact Blk.new wr _ _
      have hGa : PlG w GH GA g0' g1' F0 F1 F0 F1 A0 A1 c0 c1 wa := by rw [hwa]; exact hG.later ((Below.refl _ _).alloc (Nat.le_refl _) _)
      have s0 := hS.cell 0
      have s1 := hS.cell 1
      have s2 := hS.cell 2
      have p0 := hGa.hH.cell 0
      have p1 := hGa.hH.cell 1
      have r0 := hGa.hA.cell 0
      have r1 := hGa.hA.cell 1
      simp only [List.getElem?_toArray, List.getElem?_cons_zero, List.getElem?_cons_succ] at s0 s1 s2 p0 p1 r0 r1
      have hKa : KT wa := HK.out.below hGa.hB hglt
      have HGA := Lib.hid hGa
      have HS := Lib.hid hS
      have HKA := Lib.hid hKa
      have hga : wr.heap.size < wa.heap.size := Blk.lt hS
      clear hG hGa hS hKa
      replace hwa := hwa.symm
      cases two
      case false =>
        by_cases k0 : kd = 0
        · subst k0
          have t2 : (wa.alloc (.cells #[] 5)).cell? ⟨wr.heap.size, 2, none⟩ = some (.slice ab lb.length cb) := ((HS.out.alloc _).cell 2).trans rfl
          have hb0 : Below w.heap.size w (wa.alloc (.cells #[] 5)) := HGA.out.hB.alloc HGA.out.hB.size _
          have HX4 := Lib.hid (HX3.out.below hb0)
          clear p0 p1 r0 r1
          go_wp2_with (at_builtin; go_must (refine wp_app' _ rfl (.tmp 40) (.tmp 42) 22 22 rfl wa.heap.size 5 i0 _ 1 Tryd.underlying22 hi hz0 hz1 hz2 rfl (.slice (some ⟨wa.heap.size, 0, none⟩) 0 0) 0 [] rfl (World.ownsRow_made wa #[] 0 (Nat.le_refl _) (Nat.zero_le _) rfl) (.slice ab lb.length cb) lb.length (bv lb) rfl (HX4.out.src Tryd.underlying22 cb (bv_one lb)) (by unfold maxLen; omega) (by omega) (by simp) ?_); intro v1 w1 ho1 hb1; rw [Nat.zero_add, List.nil_append] at ho1; have hb1' := ((Below.refl wa.heap.size wa).alloc (Nat.le_refl _) (.cells #[] 5)).trans hb1; obtain ⟨Ab, cb', hv1, hcb, hcm, -⟩ := own_form ho1; subst hv1; have HG1 := Lib.hid (HGA.out.later hb1'); have p1 := HG1.out.hH.cell 0; simp only [List.getElem?_toArray, List.getElem?_cons_zero] at p1; clear hb1)
          have WR := Lib.hid (write_any F0 lb g0' Ab cb' w1 HG1.out.h0 (HK.out.below HG1.out.hB hglt) (Rd.of_own ho1) (fun x _ hA hq => own_ne ho1 HG1.out.h0 (by decide) (by rw [hA]; exact congrArg some hq)) ⟨hcb, by simpa [maxLen] using hcm⟩ (by omega))
          refine WR.out.mono ?_; rintro e w2 ⟨rfl, hH2, hg2⟩
          have hG2 := PlG.wrote0 HG1.out hH2 hg2
          have ho2 := ho1.kept hg2 (.inr (own_ne ho1 HG1.out.h0 (by decide)))
          have hs2 : wa.heap.size ≤ w2.heap.size := Nat.le_trans hb1'.size hg2.size
          have hS2 := (HS.out.later hb1').grown hg2 (fun e => Blk.ne_ (HS.out.later hb1') HG1.out.h0 (by decide) (Option.some.inj e))
          have HO2 := Lib.hid ho2.drew
          have HG2 := Lib.hid (hG2.later (Below.refl _ _).drew)
          have hdr : w2.drew.heap.size = w2.heap.size := rfl
          have u0 : w2.drew.cell? ⟨GA, 0, none⟩ = some (.slice A0 F0.length c0) := (HG2.out.hA.cell 0).trans rfl
          have u1 : w2.drew.cell? ⟨wr.heap.size, 2, none⟩ = some (.slice ab lb.length cb) := (hS2.drew.cell 2).trans rfl
          have HSD := Lib.hid (And.intro u0 u1)
          have HS2 := Lib.hid hS2.drew
          clear ho1 p1 WR hH2 hg2 hG2 ho2 hS2 t2 s0 s1 s2 e0 e1 e2 hwa u0 u1 HX4 hb0 hb1' hcm
          go_wp2_with fail
          refine wp_region_any (by kernel_rfl) ?_
          change wpAny _ _ _ _ _ _ _ (World.drew _)
          refine wpAny_of_zed (S := fun x => x.cell? ⟨GA, 0, none⟩ = some (.slice A0 F0.length c0) ∧ x.cell? ⟨wr.heap.size, 2, none⟩ = some (.slice ab lb.length cb)) (z := 10) _ _ _ _ ?_
          refine zed_take (i := 0) (v := ?_) rfl (by kernel_rfl) (by kernel_rfl) (by kernel_rfl) (by kernel_rfl) (fun _ _ _ h => h) (Or.inl ⟨by rfl, ?_⟩) (HSD.out) ?_
          rotate_left
          · intro wq hS
            have hS' := hS
            try simp only [] at hS'
            go_simp; try with_reducible rfl
          change wpAnyZ _ _ _ _ _ _ _ _ (Act.put _ _ _) _
          refine zed_take (i := 1) (v := ?_) rfl (by kernel_rfl) (by kernel_rfl) (by kernel_rfl) (by kernel_rfl) (fun _ _ _ h => h) (Or.inl ⟨by rfl, ?_⟩) (HSD.out) ?_
          rotate_left
          · intro wq hS
            have hS' := hS
            try simp only [] at hS'
            go_simp; try with_reducible rfl
          change wpAnyZ _ _ _ _ _ _ _ _ (Act.put _ _ _) _
          refine zed_take (i := 2) (v := ?_) rfl (by kernel_rfl) (by kernel_rfl) (by kernel_rfl) (by kernel_rfl) (fun _ _ _ h => h) (Or.inl ⟨by rfl, ?_⟩) (HSD.out) ?_
          rotate_left
          · intro wq hS
            have hS' := hS
            try simp only [] at hS'
            go_simp; try with_reducible rfl
          change wpAnyZ _ _ _ _ _ _ _ _ (Act.put _ _ _) _
          refine zed_take (i := 3) (v := ?_) rfl (by kernel_rfl) (by kernel_rfl) (by kernel_rfl) (by kernel_rfl) (fun _ _ _ h => h) (Or.inl ⟨by rfl, ?_⟩) (HSD.out) ?_
          rotate_left
          · intro wq hS
            have hS' := hS
            try simp only [] at hS'
            go_simp; try with_reducible rfl
          change wpAnyZ _ _ _ _ _ _ _ _ (Act.put _ _ _) _
          refine zed_take (i := 4) (v := ?_) rfl (by kernel_rfl) (by kernel_rfl) (by kernel_rfl) (by kernel_rfl) (fun _ _ _ h => h) (Or.inl ⟨by rfl, ?_⟩) (HSD.out) ?_
          rotate_left
          · intro wq hS
            have hS' := hS
            try simp only [] at hS'
            go_simp; try with_reducible rfl
          change wpAnyZ _ _ _ _ _ _ _ _ (Act.put _ _ _) _
          refine zed_take (i := 5) (v := ?_) rfl (by kernel_rfl) (by kernel_rfl) (by kernel_rfl) (by kernel_rfl) (fun _ _ _ h => h) (Or.inl ⟨by rfl, ?_⟩) (HSD.out) ?_
          rotate_left
          · intro wq hS
            have hS' := hS
            try simp only [] at hS'
            go_simp; try with_reducible rfl
          change wpAnyZ _ _ _ _ _ _ _ _ (Act.put _ _ _) _
          refine zed_take (i := 6) (v := ?_) rfl (by kernel_rfl) (by kernel_rfl) (by kernel_rfl) (by kernel_rfl) (fun _ _ _ h => h) (Or.inl ⟨by rfl, ?_⟩) (HSD.out) ?_
          rotate_left
          · intro wq hS
            have hS' := hS
            try simp only [] at hS'
            go_simp; try with_reducible rfl
          change wpAnyZ _ _ _ _ _ _ _ _ (Act.put _ _ _) _
          refine zed_take (i := 7) (v := ?_) rfl (by kernel_rfl) (by kernel_rfl) (by kernel_rfl) (by kernel_rfl) (fun _ _ _ h => h) (Or.inl ⟨by rfl, ?_⟩) (HSD.out) ?_
          rotate_left
          · intro wq hS
            have hS' := hS
            try simp only [] at hS'
            go_simp; try with_reducible rfl
          change wpAnyZ _ _ _ _ _ _ _ _ (Act.put _ _ _) _
          go_simp
          generalize World.drew w2 = wd at *
          refine zed_op 8 (by kernel_rfl) rfl rfl (fun K hK => ?_)
          refine op_appG wd (.tmp 55) (.tmp 57) 22 22 rfl w.heap.size 5 i0 _ 1 Tryd.underlying22 hi hz0 hz1 hz2 rfl (.slice A0 F0.length c0) F0.length (bv F0) rfl HG2.out.o0 (.slice ab lb.length cb) lb.length (bv lb) rfl ((HX3.out.below HG2.out.hB).src Tryd.underlying22 cb (bv_one lb)) (by unfold maxLen; omega) (by omega) HG2.out.hB.size ?_
          intro v3 w3 ho3 hg3 halt
          rw [← bv_append, ← List.length_append] at ho3
          obtain ⟨F3, hF3⟩ : ∃ F3, F3 = F0 ++ lb := ⟨_, rfl⟩
          have HF3 := Lib.hid hF3
          have HFL := Lib.hid (show F3.length = F0.length + lb.length by rw [hF3, List.length_append])
          rw [← hF3] at ho3
          clear hF3
          have hA3 := HG2.out.hA.grown hg3 (fun e => own_ne HG2.out.o0 HG2.out.hA (by decide) e.symm)
          have hS3 := HS2.out.grown hg3 (fun e => own_ne HG2.out.o0 HS2.out (by decide) e.symm)
          refine hK _ _ (fun _ => ⟨(hA3.cell 0).trans rfl, (hS3.cell 2).trans rfl⟩) ?_; clear hK K
          obtain ⟨A3, c3, hv3, -, -, -⟩ := own_form ho3
          subst hv3
          have hS3' := And.intro ((hA3.cell 0).trans rfl : w3.cell? ⟨GA, 0, none⟩ = some (.slice A0 F0.length c0)) ((hS3.cell 2).trans rfl : w3.cell? ⟨wr.heap.size, 2, none⟩ = some (.slice ab lb.length cb))
          go_simp
          refine zed_op 9 (by kernel_rfl) rfl rfl (fun K hK => ?_)
          go_simp
          refine hK _ _ (fun _ => hS3') ?_; clear hK K
          go_simp
          refine zed_op 10 (by kernel_rfl) rfl rfl (fun K hK => wp_store_blk 22 (.tmp 59) (.tmp 58) rfl GA 0 (.slice A3 F3.length c3) rfl rfl 22 _ hA3 (by simp) rfl (by kernel_rfl) (fun w4 hA4 hg4 => hK _ _ (fun h => absurd rfl h) ?_))
          clear hK K
          have hA4' : Blk w4 GA 22 #[.slice A3 F3.length c3, .slice A1 F1.length c1] := hA4
          have hG4 := PlG.grew0 HG2.out ho3 hg3 halt hA4' hg4
          rw [← HF3.out] at hG4
          refine ⟨by kernel_rfl, ?_⟩
          have hO4 := (HO2.out.kept hg3 (by
            cases hq : (Value.slice Ab lb.length cb').ownBlock with
            | none => exact .inl rfl
            | some q => exact .inr (fun e => by have h1 := (HO2.out.lt q hq).1; have h2 := (HGA.out.o0.lt q e.symm).2; omega))).kept hg4 (.inr (own_ne (HO2.out.kept hg3 (by
            cases hq : (Value.slice Ab lb.length cb').ownBlock with
            | none => exact .inl rfl
            | some q => exact .inr (fun e => by have h1 := (HO2.out.lt q hq).1; have h2 := (HGA.out.o0.lt q e.symm).2; omega))) hA3 (by decide)))
          have hN0 : ∀ q, (Value.slice Ab lb.length cb').ownBlock = some q → (Value.slice A3 F3.length c3).ownBlock ≠ some q := fun q hq e => by
            have h1 := HO2.out.lt q hq
            rcases halt with h2 | h2
            · have h3 := (HGA.out.o0.lt q (h2.symm.trans e)).2; omega
            · rw [h2] at e; have h3 := Option.some.inj e; omega
          have hN1 : ∀ q, (Value.slice Ab lb.length cb').ownBlock = some q → (Value.slice A1 F1.length c1).ownBlock ≠ some q := fun q hq e => by
            have h1 := HO2.out.lt q hq
            have h3 := (HGA.out.o1.lt q e).2; omega
          have HN0 := Lib.hid hN0
          have HN1 := Lib.hid hN1
          clear hN0 hN1 HF3 ho3 halt hg3 hg4 hA3 hA4 hA4' hS3 hS3' HSD HO2 HG2 HS2 hdr
          go_wp2_with fail
          go_loopw [62] (fun i wr => ∃ (m : Nat) (xs : List Value), m ≤ lb.length ∧ i = .int .i64 (m : Int) ∧ Bytes lb.length xs ∧ wr.ownsRow wa.heap.size 5 1 (.slice Ab lb.length cb') lb.length xs ∧ PlG w GH GA g0' g1' F3 F1 F3 F1 A3 A1 c3 c1 wr) (fun i _ => lb.length - (intOf i).toNat)
          case atStart => exact ⟨0, bv lb, Nat.zero_le _, rfl, Bytes.bv lb, hO4, hG4⟩
          clear hO4 hG4
          case round =>
            obtain ⟨m, xs, hm, rfl, hxs, ho5, hG5⟩ := hrel
            by_cases hmt : m < lb.length
            · have hmtI : (m : Int) < (lb.length : Int) := by omega
              obtain ⟨z, hz⟩ := hxs m hmt
              obtain ⟨q, rfl⟩ : ∃ q, Ab = some ⟨q, 0, none⟩ := by
                rcases ho5.2 with ⟨h1, -⟩ | ⟨q, cap, cur, h1, -⟩
                · simp only [Value.slice.injEq] at h1; omega
                · cases h1; exact ⟨q, rfl⟩
              have hc5 := (ho5.cellAt m (by omega)).trans hz
              have hf5 := ho5.frozenAt m
              have HX5 := Lib.hid hxs
              have HO5 := Lib.hid ho5
              have HG5 := Lib.hid hG5
              clear hxs hz ho5 hG5
              go_wp2_with fail
              go_roundw
              case rel =>
                exact ⟨m + 1, _, by omega, by go_num, HX5.out.set (by simpa using HO5.out.1) _, (HO5.out.stored m _).1, PlG.inner HG5.out HO5.out HN0.out HN1.out (by have := HGA.out.hB.size; omega) (HO5.out.stored m _).2⟩
              case measure => simp [intOf]; omega
            · have hmtI : ¬ (m : Int) < (lb.length : Int) := by omega
              have HG5 := Lib.hid hG5
              clear hxs ho5 hG5
              go_wp2_with fail
              go_roundw
              case rel => exact ⟨k + 1, g0', g1', F3, F1, A3, A1, c3, c1, by omega, by go_num, HG5.out, by have := HS0.out; have := HFL.out; omega, by have := HS1.out; omega⟩
              case measure => simp [intOf]; omega
        have b0 : (kd == 0) = false := by simpa using k0
        by_cases k1 : kd = 1
        · subst k1
          have PG : ∀ u : Grw wa, u.val.cell? ⟨GH, 0, none⟩ = some (.pointer (some ⟨g0', 0, none⟩)) := fun u => ((HGA.out.later u.prop).hH.cell 0).trans rfl
          have RG : ∀ u : Grw wa, u.val.cell? ⟨GA, 0, none⟩ = some (.slice A0 F0.length c0) := fun u => ((HGA.out.later u.prop).hA.cell 0).trans rfl
          have hFb : F0.length ≤ 1048576 := by omega
          have S1 := Lib.hid (fun u : Grw wa => hsum_any F0 g0' u.val (HGA.out.later u.prop).h0 (HKA.out.grw u) (by omega))
          have S2 := Lib.hid (fun u : Grw wa => rsum_any F0 A0 c0 u.val (Rd.of_own (HGA.out.later u.prop).o0) (by omega))
          have hNE := run_neq_bytes (P := Tryd.prog) Tryd.underlying24 Tryd.underlying5 (by kernel_rfl) (sum_length F0) (sum_length F0)
          rw [show (!decide (Sh.sum F0 = Sh.sum F0)) = false from by simp] at hNE
          generalize (bv (Sh.sum F0)).toArray = Z at *
          clear p0 p1 r0 r1
          go_wp2_with fail
          refine wp_region_grow (by kernel_rfl) (by kernel_rfl) ?_
          go_big_quiet_step (fail)
          go_big_quiet_step (fail)
          go_big_quiet_step (fail)
          go_big_quiet_step (fail)
          go_big_quiet_step ((go_at_call 23; exact grow_call (S1.out _)))
          go_big_quiet_step (fail)
          go_big_quiet_step (fail)
          go_big_quiet_step (fail)
          go_big_quiet_step (fail)
          go_big_quiet_step ((go_at_call 13; exact grow_call (S2.out _)))
          go_big_quiet_step (fail)
          refine wpQuiet_nil ?_
          first | (intro _ hw'; obtain ⟨u, hw''⟩ := hw'; subst hw'') | intro u
          have hu : Below wa.heap.size wa u.val := u.prop
          go_wp2_with fail
          go_roundw
          case rel => exact ⟨k + 1, g0', g1', F0, F1, A0, A1, c0, c1, by omega, by go_num, HGA.out.later hu, by have := HS0.out; omega, by have := HS1.out; omega⟩
          case measure => simp [intOf]; omega
        have b1 : (kd == 1) = false := by simpa using k1
        by_cases k2 : kd = 2
        · subst k2
          have PG : ∀ u : Grw wa, u.val.cell? ⟨GH, 0, none⟩ = some (.pointer (some ⟨g0', 0, none⟩)) := fun u => ((HGA.out.later u.prop).hH.cell 0).trans rfl
          have RG : ∀ u : Grw wa, u.val.cell? ⟨GA, 0, none⟩ = some (.slice A0 F0.length c0) := fun u => ((HGA.out.later u.prop).hA.cell 0).trans rfl
          have S1 := Lib.hid (fun u : Grw wa => len_any u.val g0' F0 (HGA.out.later u.prop).h0)
          have hnn : ((F0.length : Int) != (F0.length : Int)) = false := by simp
          clear p0 p1 r0 r1
          go_wp2_with fail
          refine wp_region_grow (by kernel_rfl) (by kernel_rfl) ?_
          go_big_quiet_step (fail)
          go_big_quiet_step (fail)
          go_big_quiet_step (fail)
          go_big_quiet_step (fail)
          go_big_quiet_step ((go_at_call 24; exact grow_same (S1.out _)))
          go_big_quiet_step (fail)
          go_big_quiet_step (fail)
          go_big_quiet_step (fail)
          go_big_quiet_step (fail)
          go_big_quiet_step (fail)
          go_big_quiet_step (fail)
          refine wpQuiet_nil ?_
          first | (intro _ hw'; obtain ⟨u, hw''⟩ := hw'; subst hw'') | intro u
          have hu : Below wa.heap.size wa u.val := u.prop
          go_wp2_with fail
          go_roundw
          case rel => exact ⟨k + 1, g0', g1', F0, F1, A0, A1, c0, c1, by omega, by go_num, HGA.out.later hu, by have := HS0.out; omega, by have := HS1.out; omega⟩
          case measure => simp [intOf]; omega
        have b2 : (kd == 2) = false := by simpa using k2
        by_cases k3 : kd = 3
        · subst k3
          have CP := Lib.hid (copy_any wa g0' F0 HGA.out.h0)
          have hFb : F0.length ≤ 1048576 := by omega
          go_wp2_with fail
          refine CP.out.mono ?_; rintro e w1 ⟨g', rfl, hg', hH', hb'⟩
          have hP1 := HGA.out.hH.later hb'
          clear p0 p1 r0 r1 s0 s1 s2 hwa
          go_wp2_with (first
            | (refine at_sto 34 (.tmp 108) (.tmp 107) rfl ?_; go_must (refine wpList_store_blk rfl 34 (.tmp 108) (.tmp 107) rfl GH 1 (.pointer (some ⟨g', 0, none⟩)) rfl rfl 34 _ hP1 (by simp) rfl (by kernel_rfl) ?_); intro w2 hP2 hk2 hs2 hb2; have hP2' : Blk w2 GH 34 #[.pointer (some ⟨g0', 0, none⟩), .pointer (some ⟨g', 0, none⟩)] := hP2; have hG2 := PlG.copied1 HGA.out hb' hH' hg' hP2' (only_oth (World.grownBy.refl w1 _) hk2 hs2 (hb2 0 w1 (Nat.zero_le _) (Below.refl 0 w1))); have HG2 := Lib.hid hG2; have q0 := (hG2.hA.alloc (.cells #[] 5)).cell 0; simp only [List.getElem?_toArray, List.getElem?_cons_zero] at q0; clear hP2 hP2' hk2 hs2 hb2 hG2 hH' hb' hP1 hg')
            | (at_builtin; go_must (refine wp_app' _ rfl (.tmp 112) (.tmp 116) 22 22 rfl w2.heap.size 5 i0 _ 1 Tryd.underlying22 hi hz0 hz1 hz2 rfl (.slice (some ⟨w2.heap.size, 0, none⟩) 0 0) 0 [] rfl (World.ownsRow_made w2 #[] 0 (Nat.le_refl _) (Nat.zero_le _) rfl) (.slice A0 F0.length c0) F0.length (bv F0) rfl ((Rd.of_own (HG2.out.o0.alloc (.cells #[] 5))).src Tryd.underlying22 c0 (bv_one F0)) (by unfold maxLen; omega) (by omega) (by simp) ?_); intro v3 w3 ho3 hb3; rw [Nat.zero_add, List.nil_append] at ho3; have hb3' := ((Below.refl w2.heap.size w2).alloc (Nat.le_refl _) (.cells #[] 5)).trans hb3; obtain ⟨A', c', hv3, -, -, -⟩ := own_form ho3; subst hv3; have hA3 := HG2.out.hA.later hb3'; clear hb3 q0)
            | (refine at_sto 22 (.tmp 118) (.tmp 117) rfl ?_; go_must (refine wpList_store_blk rfl 22 (.tmp 118) (.tmp 117) rfl GA 1 (.slice A' F0.length c') rfl rfl 22 _ hA3 (by simp) rfl (by kernel_rfl) ?_); intro w4 hA4 hk4 hs4 hb4; have hA4' : Blk w4 GA 22 #[.slice A0 F0.length c0, .slice A' F0.length c'] := hA4; have hG4 := PlG.made1 HG2.out hb3' ho3 hA4' (only_oth (World.grownBy.refl w3 _) hk4 hs4 (hb4 0 w3 (Nat.zero_le _) (Below.refl 0 w3))); have HG4 := Lib.hid hG4; have q4 := hG4.hH.cell 1; simp only [List.getElem?_toArray, List.getElem?_cons_zero, List.getElem?_cons_succ] at q4; clear hA4 hA4' hk4 hs4 hb4 hG4 ho3 hb3' hA3))
          go_roundw
          case rel => exact ⟨k + 1, g0', g', F0, F0, A0, A', c0, c', by omega, by go_num, HG4.out, by have := HS0.out; omega, by have := HS0.out; omega⟩
          case measure => simp [intOf]; omega
        have b3 : (kd == 3) = false := by simpa using k3
        · go_wp2_with fail
          go_roundw
          case rel => exact ⟨k + 1, g0', g1', F0, F1, A0, A1, c0, c1, by omega, by go_num, HGA.out, by have := HS0.out; omega, by have := HS1.out; omega⟩
          case measure => simp [intOf]; omega
      case true =>
        by_cases k0 : kd = 0
        · subst k0
          have t2 : (wa.alloc (.cells #[] 5)).cell? ⟨wr.heap.size, 2, none⟩ = some (.slice ab lb.length cb) := ((HS.out.alloc _).cell 2).trans rfl
          have hb0 : Below w.heap.size w (wa.alloc (.cells #[] 5)) := HGA.out.hB.alloc HGA.out.hB.size _
          have HX4 := Lib.hid (HX3.out.below hb0)
          clear p0 p1 r0 r1
          go_wp2_with (at_builtin; go_must (refine wp_app' _ rfl (.tmp 40) (.tmp 42) 22 22 rfl wa.heap.size 5 i0 _ 1 Tryd.underlying22 hi hz0 hz1 hz2 rfl (.slice (some ⟨wa.heap.size, 0, none⟩) 0 0) 0 [] rfl (World.ownsRow_made wa #[] 0 (Nat.le_refl _) (Nat.zero_le _) rfl) (.slice ab lb.length cb) lb.length (bv lb) rfl (HX4.out.src Tryd.underlying22 cb (bv_one lb)) (by unfold maxLen; omega) (by omega) (by simp) ?_); intro v1 w1 ho1 hb1; rw [Nat.zero_add, List.nil_append] at ho1; have hb1' := ((Below.refl wa.heap.size wa).alloc (Nat.le_refl _) (.cells #[] 5)).trans hb1; obtain ⟨Ab, cb', hv1, hcb, hcm, -⟩ := own_form ho1; subst hv1; have HG1 := Lib.hid (HGA.out.later hb1'); have p1 := HG1.out.hH.cell 1; simp only [List.getElem?_toArray, List.getElem?_cons_zero, List.getElem?_cons_succ] at p1; clear hb1)
          have WR := Lib.hid (write_any F1 lb g1' Ab cb' w1 HG1.out.h1 (HK.out.below HG1.out.hB hglt) (Rd.of_own ho1) (fun x _ hA hq => own_ne ho1 HG1.out.h1 (by decide) (by rw [hA]; exact congrArg some hq)) ⟨hcb, by simpa [maxLen] using hcm⟩ (by omega))
          refine WR.out.mono ?_; rintro e w2 ⟨rfl, hH2, hg2⟩
          have hG2 := PlG.wrote1 HG1.out hH2 hg2
          have ho2 := ho1.kept hg2 (.inr (own_ne ho1 HG1.out.h1 (by decide)))
          have hs2 : wa.heap.size ≤ w2.heap.size := Nat.le_trans hb1'.size hg2.size
          have hS2 := (HS.out.later hb1').grown hg2 (fun e => Blk.ne_ (HS.out.later hb1') HG1.out.h1 (by decide) (Option.some.inj e))
          have HO2 := Lib.hid ho2.drew
          have HG2 := Lib.hid (hG2.later (Below.refl _ _).drew)
          have hdr : w2.drew.heap.size = w2.heap.size := rfl
          have u0 : w2.drew.cell? ⟨GA, 1, none⟩ = some (.slice A1 F1.length c1) := (HG2.out.hA.cell 1).trans rfl
          have u1 : w2.drew.cell? ⟨wr.heap.size, 2, none⟩ = some (.slice ab lb.length cb) := (hS2.drew.cell 2).trans rfl
          have HSD := Lib.hid (And.intro u0 u1)
          have HS2 := Lib.hid hS2.drew
          clear ho1 p1 WR hH2 hg2 hG2 ho2 hS2 t2 s0 s1 s2 e0 e1 e2 hwa u0 u1 HX4 hb0 hb1' hcm
          go_wp2_with fail
          refine wp_region_any (by kernel_rfl) ?_
          change wpAny _ _ _ _ _ _ _ (World.drew _)
          refine wpAny_of_zed (S := fun x => x.cell? ⟨GA, 1, none⟩ = some (.slice A1 F1.length c1) ∧ x.cell? ⟨wr.heap.size, 2, none⟩ = some (.slice ab lb.length cb)) (z := 10) _ _ _ _ ?_
          refine zed_take (i := 0) (v := ?_) rfl (by kernel_rfl) (by kernel_rfl) (by kernel_rfl) (by kernel_rfl) (fun _ _ _ h => h) (Or.inl ⟨by rfl, ?_⟩) (HSD.out) ?_
          rotate_left
          · intro wq hS
            have hS' := hS
            try simp only [] at hS'
            go_simp; try with_reducible rfl
          change wpAnyZ _ _ _ _ _ _ _ _ (Act.put _ _ _) _
          refine zed_take (i := 1) (v := ?_) rfl (by kernel_rfl) (by kernel_rfl) (by kernel_rfl) (by kernel_rfl) (fun _ _ _ h => h) (Or.inl ⟨by rfl, ?_⟩) (HSD.out) ?_
          rotate_left
          · intro wq hS
            have hS' := hS
            try simp only [] at hS'
            go_simp; try with_reducible rfl
          change wpAnyZ _ _ _ _ _ _ _ _ (Act.put _ _ _) _
          refine zed_take (i := 2) (v := ?_) rfl (by kernel_rfl) (by kernel_rfl) (by kernel_rfl) (by kernel_rfl) (fun _ _ _ h => h) (Or.inl ⟨by rfl, ?_⟩) (HSD.out) ?_
          rotate_left
          · intro wq hS
            have hS' := hS
            try simp only [] at hS'
            go_simp; try with_reducible rfl
          change wpAnyZ _ _ _ _ _ _ _ _ (Act.put _ _ _) _
          refine zed_take (i := 3) (v := ?_) rfl (by kernel_rfl) (by kernel_rfl) (by kernel_rfl) (by kernel_rfl) (fun _ _ _ h => h) (Or.inl ⟨by rfl, ?_⟩) (HSD.out) ?_
          rotate_left
          · intro wq hS
            have hS' := hS
            try simp only [] at hS'
            go_simp; try with_reducible rfl
          change wpAnyZ _ _ _ _ _ _ _ _ (Act.put _ _ _) _
          refine zed_take (i := 4) (v := ?_) rfl (by kernel_rfl) (by kernel_rfl) (by kernel_rfl) (by kernel_rfl) (fun _ _ _ h => h) (Or.inl ⟨by rfl, ?_⟩) (HSD.out) ?_
          rotate_left
          · intro wq hS
            have hS' := hS
            try simp only [] at hS'
            go_simp; try with_reducible rfl
          change wpAnyZ _ _ _ _ _ _ _ _ (Act.put _ _ _) _
          refine zed_take (i := 5) (v := ?_) rfl (by kernel_rfl) (by kernel_rfl) (by kernel_rfl) (by kernel_rfl) (fun _ _ _ h => h) (Or.inl ⟨by rfl, ?_⟩) (HSD.out) ?_
          rotate_left
          · intro wq hS
            have hS' := hS
            try simp only [] at hS'
            go_simp; try with_reducible rfl
          change wpAnyZ _ _ _ _ _ _ _ _ (Act.put _ _ _) _
          refine zed_take (i := 6) (v := ?_) rfl (by kernel_rfl) (by kernel_rfl) (by kernel_rfl) (by kernel_rfl) (fun _ _ _ h => h) (Or.inl ⟨by rfl, ?_⟩) (HSD.out) ?_
          rotate_left
          · intro wq hS
            have hS' := hS
            try simp only [] at hS'
            go_simp; try with_reducible rfl
          change wpAnyZ _ _ _ _ _ _ _ _ (Act.put _ _ _) _
          refine zed_take (i := 7) (v := ?_) rfl (by kernel_rfl) (by kernel_rfl) (by kernel_rfl) (by kernel_rfl) (fun _ _ _ h => h) (Or.inl ⟨by rfl, ?_⟩) (HSD.out) ?_
          rotate_left
          · intro wq hS
            have hS' := hS
            try simp only [] at hS'
            go_simp; try with_reducible rfl
          change wpAnyZ _ _ _ _ _ _ _ _ (Act.put _ _ _) _
          go_simp
          generalize World.drew w2 = wd at *
          refine zed_op 8 (by kernel_rfl) rfl rfl (fun K hK => ?_)
          refine op_appG wd (.tmp 55) (.tmp 57) 22 22 rfl w.heap.size 5 i0 _ 1 Tryd.underlying22 hi hz0 hz1 hz2 rfl (.slice A1 F1.length c1) F1.length (bv F1) rfl HG2.out.o1 (.slice ab lb.length cb) lb.length (bv lb) rfl ((HX3.out.below HG2.out.hB).src Tryd.underlying22 cb (bv_one lb)) (by unfold maxLen; omega) (by omega) HG2.out.hB.size ?_
          intro v3 w3 ho3 hg3 halt
          rw [← bv_append, ← List.length_append] at ho3
          obtain ⟨F3, hF3⟩ : ∃ F3, F3 = F1 ++ lb := ⟨_, rfl⟩
          have HF3 := Lib.hid hF3
          have HFL := Lib.hid (show F3.length = F1.length + lb.length by rw [hF3, List.length_append])
          rw [← hF3] at ho3
          clear hF3
          have hA3 := HG2.out.hA.grown hg3 (fun e => own_ne HG2.out.o1 HG2.out.hA (by decide) e.symm)
          have hS3 := HS2.out.grown hg3 (fun e => own_ne HG2.out.o1 HS2.out (by decide) e.symm)
          refine hK _ _ (fun _ => ⟨(hA3.cell 1).trans rfl, (hS3.cell 2).trans rfl⟩) ?_; clear hK K
          obtain ⟨A3, c3, hv3, -, -, -⟩ := own_form ho3
          subst hv3
          have hS3' := And.intro ((hA3.cell 1).trans rfl : w3.cell? ⟨GA, 1, none⟩ = some (.slice A1 F1.length c1)) ((hS3.cell 2).trans rfl : w3.cell? ⟨wr.heap.size, 2, none⟩ = some (.slice ab lb.length cb))
          go_simp
          refine zed_op 9 (by kernel_rfl) rfl rfl (fun K hK => ?_)
          go_simp
          refine hK _ _ (fun _ => hS3') ?_; clear hK K
          go_simp
          refine zed_op 10 (by kernel_rfl) rfl rfl (fun K hK => wp_store_blk 22 (.tmp 59) (.tmp 58) rfl GA 1 (.slice A3 F3.length c3) rfl rfl 22 _ hA3 (by simp) rfl (by kernel_rfl) (fun w4 hA4 hg4 => hK _ _ (fun h => absurd rfl h) ?_))
          clear hK K
          have hA4' : Blk w4 GA 22 #[.slice A0 F0.length c0, .slice A3 F3.length c3] := hA4
          have hG4 := PlG.grew1 HG2.out ho3 hg3 halt hA4' hg4
          rw [← HF3.out] at hG4
          refine ⟨by kernel_rfl, ?_⟩
          have hO4 := (HO2.out.kept hg3 (by
            cases hq : (Value.slice Ab lb.length cb').ownBlock with
            | none => exact .inl rfl
            | some q => exact .inr (fun e => by have h1 := (HO2.out.lt q hq).1; have h2 := (HGA.out.o1.lt q e.symm).2; omega))).kept hg4 (.inr (own_ne (HO2.out.kept hg3 (by
            cases hq : (Value.slice Ab lb.length cb').ownBlock with
            | none => exact .inl rfl
            | some q => exact .inr (fun e => by have h1 := (HO2.out.lt q hq).1; have h2 := (HGA.out.o1.lt q e.symm).2; omega))) hA3 (by decide)))
          have hN1 : ∀ q, (Value.slice Ab lb.length cb').ownBlock = some q → (Value.slice A3 F3.length c3).ownBlock ≠ some q := fun q hq e => by
            have h1 := HO2.out.lt q hq
            rcases halt with h2 | h2
            · have h3 := (HGA.out.o1.lt q (h2.symm.trans e)).2; omega
            · rw [h2] at e; have h3 := Option.some.inj e; omega
          have hN0 : ∀ q, (Value.slice Ab lb.length cb').ownBlock = some q → (Value.slice A0 F0.length c0).ownBlock ≠ some q := fun q hq e => by
            have h1 := HO2.out.lt q hq
            have h3 := (HGA.out.o0.lt q e).2; omega
          have HN0 := Lib.hid hN0
          have HN1 := Lib.hid hN1
          clear hN0 hN1 HF3 ho3 halt hg3 hg4 hA3 hA4 hA4' hS3 hS3' HSD HO2 HG2 HS2 hdr
          go_wp2_with fail
          go_loopw [62] (fun i wr => ∃ (m : Nat) (xs : List Value), m ≤ lb.length ∧ i = .int .i64 (m : Int) ∧ Bytes lb.length xs ∧ wr.ownsRow wa.heap.size 5 1 (.slice Ab lb.length cb') lb.length xs ∧ PlG w GH GA g0' g1' F0 F3 F0 F3 A0 A3 c0 c3 wr) (fun i _ => lb.length - (intOf i).toNat)
          case atStart => exact ⟨0, bv lb, Nat.zero_le _, rfl, Bytes.bv lb, hO4, hG4⟩
          clear hO4 hG4
          case round =>
            obtain ⟨m, xs, hm, rfl, hxs, ho5, hG5⟩ := hrel
            by_cases hmt : m < lb.length
            · have hmtI : (m : Int) < (lb.length : Int) := by omega
              obtain ⟨z, hz⟩ := hxs m hmt
              obtain ⟨q, rfl⟩ : ∃ q, Ab = some ⟨q, 0, none⟩ := by
                rcases ho5.2 with ⟨h1, -⟩ | ⟨q, cap, cur, h1, -⟩
                · simp only [Value.slice.injEq] at h1; omega
                · cases h1; exact ⟨q, rfl⟩
              have hc5 := (ho5.cellAt m (by omega)).trans hz
              have hf5 := ho5.frozenAt m
              have HX5 := Lib.hid hxs
              have HO5 := Lib.hid ho5
              have HG5 := Lib.hid hG5
              clear hxs hz ho5 hG5
              go_wp2_with fail
              go_roundw
              case rel =>
                exact ⟨m + 1, _, by omega, by go_num, HX5.out.set (by simpa using HO5.out.1) _, (HO5.out.stored m _).1, PlG.inner HG5.out HO5.out HN0.out HN1.out (by have := HGA.out.hB.size; omega) (HO5.out.stored m _).2⟩
              case measure => simp [intOf]; omega
            · have hmtI : ¬ (m : Int) < (lb.length : Int) := by omega
              have HG5 := Lib.hid hG5
              clear hxs ho5 hG5
              go_wp2_with fail
              go_roundw
              case rel => exact ⟨k + 1, g0', g1', F0, F3, A0, A3, c0, c3, by omega, by go_num, HG5.out, by have := HS0.out; omega, by have := HS1.out; have := HFL.out; omega⟩
              case measure => simp [intOf]; omega
        have b0 : (kd == 0) = false := by simpa using k0
        by_cases k1 : kd = 1
        · subst k1
          have PG : ∀ u : Grw wa, u.val.cell? ⟨GH, 1, none⟩ = some (.pointer (some ⟨g1', 0, none⟩)) := fun u => ((HGA.out.later u.prop).hH.cell 1).trans rfl
          have RG : ∀ u : Grw wa, u.val.cell? ⟨GA, 1, none⟩ = some (.slice A1 F1.length c1) := fun u => ((HGA.out.later u.prop).hA.cell 1).trans rfl
          have hFb : F1.length ≤ 1048576 := by omega
          have S1 := Lib.hid (fun u : Grw wa => hsum_any F1 g1' u.val (HGA.out.later u.prop).h1 (HKA.out.grw u) (by omega))
          have S2 := Lib.hid (fun u : Grw wa => rsum_any F1 A1 c1 u.val (Rd.of_own (HGA.out.later u.prop).o1) (by omega))
          have hNE := run_neq_bytes (P := Tryd.prog) Tryd.underlying24 Tryd.underlying5 (by kernel_rfl) (sum_length F1) (sum_length F1)
          rw [show (!decide (Sh.sum F1 = Sh.sum F1)) = false from by simp] at hNE
          generalize (bv (Sh.sum F1)).toArray = Z at *
          clear p0 p1 r0 r1
          go_wp2_with fail
          refine wp_region_grow (by kernel_rfl) (by kernel_rfl) ?_
          go_big_quiet_step (fail)
          go_big_quiet_step (fail)
          go_big_quiet_step (fail)
          go_big_quiet_step (fail)
          go_big_quiet_step ((go_at_call 23; exact grow_call (S1.out _)))
          go_big_quiet_step (fail)
          go_big_quiet_step (fail)
          go_big_quiet_step (fail)
          go_big_quiet_step (fail)
          go_big_quiet_step ((go_at_call 13; exact grow_call (S2.out _)))
          go_big_quiet_step (fail)
          refine wpQuiet_nil ?_
          first | (intro _ hw'; obtain ⟨u, hw''⟩ := hw'; subst hw'') | intro u
          have hu : Below wa.heap.size wa u.val := u.prop
          go_wp2_with fail
          go_roundw
          case rel => exact ⟨k + 1, g0', g1', F0, F1, A0, A1, c0, c1, by omega, by go_num, HGA.out.later hu, by have := HS0.out; omega, by have := HS1.out; omega⟩
          case measure => simp [intOf]; omega
        have b1 : (kd == 1) = false := by simpa using k1
        by_cases k2 : kd = 2
        · subst k2
          have PG : ∀ u : Grw wa, u.val.cell? ⟨GH, 1, none⟩ = some (.pointer (some ⟨g1', 0, none⟩)) := fun u => ((HGA.out.later u.prop).hH.cell 1).trans rfl
          have RG : ∀ u : Grw wa, u.val.cell? ⟨GA, 1, none⟩ = some (.slice A1 F1.length c1) := fun u => ((HGA.out.later u.prop).hA.cell 1).trans rfl
          have S1 := Lib.hid (fun u : Grw wa => len_any u.val g1' F1 (HGA.out.later u.prop).h1)
          have hnn : ((F1.length : Int) != (F1.length : Int)) = false := by simp
          clear p0 p1 r0 r1
          go_wp2_with fail
          refine wp_region_grow (by kernel_rfl) (by kernel_rfl) ?_
          go_big_quiet_step (fail)
          go_big_quiet_step (fail)
          go_big_quiet_step (fail)
          go_big_quiet_step (fail)
          go_big_quiet_step ((go_at_call 24; exact grow_same (S1.out _)))
          go_big_quiet_step (fail)
          go_big_quiet_step (fail)
          go_big_quiet_step (fail)
          go_big_quiet_step (fail)
          go_big_quiet_step (fail)
          go_big_quiet_step (fail)
          refine wpQuiet_nil ?_
          first | (intro _ hw'; obtain ⟨u, hw''⟩ := hw'; subst hw'') | intro u
          have hu : Below wa.heap.size wa u.val := u.prop
          go_wp2_with fail
          go_roundw
          case rel => exact ⟨k + 1, g0', g1', F0, F1, A0, A1, c0, c1, by omega, by go_num, HGA.out.later hu, by have := HS0.out; omega, by have := HS1.out; omega⟩
          case measure => simp [intOf]; omega
        have b2 : (kd == 2) = false := by simpa using k2
        by_cases k3 : kd = 3
        · subst k3
          have CP := Lib.hid (copy_any wa g1' F1 HGA.out.h1)
          have hFb : F1.length ≤ 1048576 := by omega
          go_wp2_with fail
          refine CP.out.mono ?_; rintro e w1 ⟨g', rfl, hg', hH', hb'⟩
          have hP1 := HGA.out.hH.later hb'
          clear p0 p1 r0 r1 s0 s1 s2 hwa
          go_wp2_with (first
            | (refine at_sto 34 (.tmp 108) (.tmp 107) rfl ?_; go_must (refine wpList_store_blk rfl 34 (.tmp 108) (.tmp 107) rfl GH 0 (.pointer (some ⟨g', 0, none⟩)) rfl rfl 34 _ hP1 (by simp) rfl (by kernel_rfl) ?_); intro w2 hP2 hk2 hs2 hb2; have hP2' : Blk w2 GH 34 #[.pointer (some ⟨g', 0, none⟩), .pointer (some ⟨g1', 0, none⟩)] := hP2; have hG2 := PlG.copied0 HGA.out hb' hH' hg' hP2' (only_oth (World.grownBy.refl w1 _) hk2 hs2 (hb2 0 w1 (Nat.zero_le _) (Below.refl 0 w1))); have HG2 := Lib.hid hG2; have q0 := (hG2.hA.alloc (.cells #[] 5)).cell 1; simp only [List.getElem?_toArray, List.getElem?_cons_zero, List.getElem?_cons_succ] at q0; clear hP2 hP2' hk2 hs2 hb2 hG2 hH' hb' hP1 hg')
            | (at_builtin; go_must (refine wp_app' _ rfl (.tmp 112) (.tmp 116) 22 22 rfl w2.heap.size 5 i0 _ 1 Tryd.underlying22 hi hz0 hz1 hz2 rfl (.slice (some ⟨w2.heap.size, 0, none⟩) 0 0) 0 [] rfl (World.ownsRow_made w2 #[] 0 (Nat.le_refl _) (Nat.zero_le _) rfl) (.slice A1 F1.length c1) F1.length (bv F1) rfl ((Rd.of_own (HG2.out.o1.alloc (.cells #[] 5))).src Tryd.underlying22 c1 (bv_one F1)) (by unfold maxLen; omega) (by omega) (by simp) ?_); intro v3 w3 ho3 hb3; rw [Nat.zero_add, List.nil_append] at ho3; have hb3' := ((Below.refl w2.heap.size w2).alloc (Nat.le_refl _) (.cells #[] 5)).trans hb3; obtain ⟨A', c', hv3, -, -, -⟩ := own_form ho3; subst hv3; have hA3 := HG2.out.hA.later hb3'; clear hb3 q0)
            | (refine at_sto 22 (.tmp 118) (.tmp 117) rfl ?_; go_must (refine wpList_store_blk rfl 22 (.tmp 118) (.tmp 117) rfl GA 0 (.slice A' F1.length c') rfl rfl 22 _ hA3 (by simp) rfl (by kernel_rfl) ?_); intro w4 hA4 hk4 hs4 hb4; have hA4' : Blk w4 GA 22 #[.slice A' F1.length c', .slice A1 F1.length c1] := hA4; have hG4 := PlG.made0 HG2.out hb3' ho3 hA4' (only_oth (World.grownBy.refl w3 _) hk4 hs4 (hb4 0 w3 (Nat.zero_le _) (Below.refl 0 w3))); have HG4 := Lib.hid hG4; have q4 := hG4.hH.cell 0; simp only [List.getElem?_toArray, List.getElem?_cons_zero] at q4; clear hA4 hA4' hk4 hs4 hb4 hG4 ho3 hb3' hA3))
          go_roundw
          case rel => exact ⟨k + 1, g', g1', F1, F1, A', A1, c', c1, by omega, by go_num, HG4.out, by have := HS1.out; omega, by have := HS1.out; omega⟩
          case measure => simp [intOf]; omega
        have b3 : (kd == 3) = false := by simpa using k3
        · go_wp2_with fail
          go_roundw
          case rel => exact ⟨k + 1, g0', g1', F0, F1, A0, A1, c0, c1, by omega, by go_num, HGA.out, by have := HS0.out; omega, by have := HS1.out; omega⟩
          case measure => simp [intOf]; omega
    · have hltI : ¬ (k : Int) < (L.length : Int) := by omega
      have hF0b : F0.length ≤ 1048576 := by
        have h1 := flat_length_take (L.map (·.bit)) k
        rw [← List.map_take] at h1
        exact Nat.le_trans hF0 (Nat.le_trans h1 hl)
      have hF1b : F1.length ≤ 1048576 := by
        have h1 := flat_length_take (L.map (·.bit)) k
        rw [← List.map_take] at h1
        exact Nat.le_trans hF1 (Nat.le_trans h1 hl)
      have HG := Lib.hid hG
      have HKR := Lib.hid (HK.out.below hG.hB hglt)
      clear hG hF0 hF1
      have P0 : ∀ u : Grw wr, u.val.cell? ⟨GH, 0, none⟩ = some (.pointer (some ⟨g0', 0, none⟩)) := fun u => ((HG.out.later u.prop).hH.cell 0).trans rfl
      have P1 : ∀ u : Grw wr, u.val.cell? ⟨GH, 1, none⟩ = some (.pointer (some ⟨g1', 0, none⟩)) := fun u => ((HG.out.later u.prop).hH.cell 1).trans rfl
      have R0 : ∀ u : Grw wr, u.val.cell? ⟨GA, 0, none⟩ = some (.slice A0 F0.length c0) := fun u => ((HG.out.later u.prop).hA.cell 0).trans rfl
      have R1 : ∀ u : Grw wr, u.val.cell? ⟨GA, 1, none⟩ = some (.slice A1 F1.length c1) := fun u => ((HG.out.later u.prop).hA.cell 1).trans rfl
      have S0 := Lib.hid (fun u : Grw wr => hsum_any F0 g0' u.val (HG.out.later u.prop).h0 (HKR.out.grw u) (by omega))
      have S1 := Lib.hid (fun u : Grw wr => hsum_any F1 g1' u.val (HG.out.later u.prop).h1 (HKR.out.grw u) (by omega))
      have T0 := Lib.hid (fun u : Grw wr => rsum_any F0 A0 c0 u.val (Rd.of_own (HG.out.later u.prop).o0) (by omega))
      have T1 := Lib.hid (fun u : Grw wr => rsum_any F1 A1 c1 u.val (Rd.of_own (HG.out.later u.prop).o1) (by omega))
      have hE0 := run_eql_bytes (P := Tryd.prog) Tryd.underlying24 Tryd.underlying5 (by kernel_rfl) (sum_length F0) (sum_length F0)
      rw [show decide (Sh.sum F0 = Sh.sum F0) = true from decide_eq_true rfl] at hE0
      have hE1 := run_eql_bytes (P := Tryd.prog) Tryd.underlying24 Tryd.underlying5 (by kernel_rfl) (sum_length F1) (sum_length F1)
      rw [show decide (Sh.sum F1 = Sh.sum F1) = true from decide_eq_true rfl] at hE1
      generalize (bv (Sh.sum F0)).toArray = Z0 at *
      generalize (bv (Sh.sum F1)).toArray = Z1 at *
      go_wp2_with fail
      refine wp_region_grow (by kernel_rfl) (by kernel_rfl) ?_
      go_big_quiet_step (fail)
      go_big_quiet_step (fail)
      go_big_quiet_step (fail)
      go_big_quiet_step ((go_at_call 23; exact grow_call (S0.out _)))
      go_big_quiet_step (fail)
      go_big_quiet_step (fail)
      go_big_quiet_step (fail)
      go_big_quiet_step ((go_at_call 13; exact grow_call (T0.out _)))
      go_big_quiet_step (fail)
      go_big_quiet_step (fail)
      go_big_quiet_step (fail)
      go_big_quiet_step (fail)
      go_big_quiet_step (fail)
      go_big_quiet_step ((go_at_call 23; exact grow_call (S1.out _)))
      go_big_quiet_step (fail)
      go_big_quiet_step (fail)
      go_big_quiet_step (fail)
      go_big_quiet_step ((go_at_call 13; exact grow_call (T1.out _)))
      go_big_quiet_step (fail)
      go_big_quiet_step (fail)
      go_big_quiet_step (fail)
      refine wpQuiet_nil ?_
      first | (intro _ hw'; obtain ⟨u, hw''⟩ := hw'; subst hw'') | intro u
      have hu : Below wr.heap.size wr u.val := u.prop
      go_wp2_with fail
      go_ret
      exact ⟨rfl, (HG.out.later hu).hB⟩
end Go.Proofs.YtkgkllpecpcgjaaDoor
