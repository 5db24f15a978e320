/- The contract of the document's mix: a block mixed into a state. · '==' of arrays of bytes; the digits of a digest's text, the text, what is read, and which digest is ahead, as plain mathematics. -/
import Derived.Test.YtjgegggcbjecbaaDoorDigA
import Derived.ChangeKeysEq
namespace Go.Proofs.YtjgegggcbjecbaaDoor
open Go Go.RowKit

set_option maxRecDepth 100000 in
set_option maxHeartbeats 16000000 in
theorem mix_any (As Ab : Option Addr) (cs cb : Nat) (s : List Nat) (b : List UInt8) (w : World) (hs : Rd w w.heap.size As 8 (uv s)) (hb : Rd w w.heap.size Ab 64 (bv b)) (hws : Sh.Ws s) :
    Calls Tryd.prog 46 #[.slice As 8 cs, .slice Ab 64 cb] w (GotU (Sh.mix s b) w) := by
  obtain ⟨i0, hi, hz0, hz1, hz2⟩ := info_parts infoU32
  have hsl : s.length = 8 := by have := hs.1; rwa [uv_length] at this
  have hbl : b.length = 64 := by have := hb.1; rwa [bv_length] at this
  have HRB := Lib.hid (show Rd w w.heap.size Ab b.length (bv b) by rw [hbl]; exact hb)
  have HRS := Lib.hid (show Rd w w.heap.size As s.length (uv s) by rw [hsl]; exact hs)
  clear hs hb
  go_enter Tryd.func46, Tryd.ntmps46
  go_wp2_with fail
  go_loopw [5, 6] (fun v i wr => ∃ k : Nat, k ≤ 16 ∧ i = .int .i64 (k : Int) ∧ wr.ownsRow w.heap.size 79 1 v k (uv (Sh.words b k)) ∧ Below w.heap.size w wr) (fun _ i _ => 16 - (intOf i).toNat)
  case atStart => exact ⟨0, Nat.zero_le _, rfl, World.ownsRow_nil _ _ _ _, Below.refl _ _⟩
  case round =>
    obtain ⟨k, hk, rfl, ho, hbk⟩ := hrel
    have hsz := hbk.size
    by_cases hlt : k < 16
    · have HX := Lib.hid (show Sh.words b (k + 1) = Sh.words b k ++ [Sh.word4 b k] by rw [Sh.words, if_pos hlt])
      unfold Sh.word4 at HX
      obtain ⟨p, hp⟩ : ∃ p, p = 4 * k := ⟨_, rfl⟩
      rw [← hp] at HX
      have hp1 : IntKind.i64.wrap (4 * (k : Int)) = (p : Int) := by rw [IntWalk.i64_in _ (by omega)]; omega
      obtain ⟨p1, e1⟩ : ∃ p1, p1 = p + 1 := ⟨_, rfl⟩
      obtain ⟨p2, e2⟩ : ∃ p2, p2 = p + 2 := ⟨_, rfl⟩
      obtain ⟨p3, e3⟩ : ∃ p3, p3 = p + 3 := ⟨_, rfl⟩
      rw [← e1, ← e2, ← e3] at HX
      have hq0 : (p : Int) < 64 := by omega
      have hq1 : (p1 : Int) < 64 := by omega
      have hq2 : (p2 : Int) < 64 := by omega
      have hq3 : (p3 : Int) < 64 := by omega
      have hr1 : IntKind.i64.wrap ((p : Int) + 1) = (p1 : Int) := by rw [IntWalk.i64_in _ (by omega)]; omega
      have hr2 : IntKind.i64.wrap ((p : Int) + 2) = (p2 : Int) := by rw [IntWalk.i64_in _ (by omega)]; omega
      have hr3 : IntKind.i64.wrap ((p : Int) + 3) = (p3 : Int) := by rw [IntWalk.i64_in _ (by omega)]; omega
      clear hp e1 e2 e3
      obtain ⟨ad, rfl, h0⟩ := HRB.out.byteOf (k := p) (by omega)
      obtain ⟨_, he1, h1⟩ := HRB.out.byteOf (k := p1) (by omega)
      obtain ⟨_, he2, h2⟩ := HRB.out.byteOf (k := p2) (by omega)
      obtain ⟨_, he3, h3⟩ := HRB.out.byteOf (k := p3) (by omega)
      cases he1; cases he2; cases he3
      have hab0 := World.block_lt_of_cell? _ _ h0
      have hab1 := World.block_lt_of_cell? _ _ h1
      have hab2 := World.block_lt_of_cell? _ _ h2
      have hab3 := World.block_lt_of_cell? _ _ h3
      have b0 := Sh.byteAt_lt b p
      have b1 := Sh.byteAt_lt b p1
      have b2 := Sh.byteAt_lt b p2
      have b3 := Sh.byteAt_lt b p3
      generalize Sh.byteAt b p = x0 at *
      generalize Sh.byteAt b p1 = x1 at *
      generalize Sh.byteAt b p2 = x2 at *
      generalize Sh.byteAt b p3 = x3 at *
      have v0 : IntKind.u32.wrap (x0 : Int) = (x0 : Int) := IntWalk.u32_in _ (by omega)
      have v1 : IntKind.u32.wrap (x1 : Int) = (x1 : Int) := IntWalk.u32_in _ (by omega)
      have v2 : IntKind.u32.wrap (x2 : Int) = (x2 : Int) := IntWalk.u32_in _ (by omega)
      have v3 : IntKind.u32.wrap (x3 : Int) = (x3 : Int) := IntWalk.u32_in _ (by omega)
      obtain ⟨y0, f0⟩ : ∃ y0, y0 = x0 * 16777216 := ⟨_, rfl⟩
      obtain ⟨y1, f1⟩ : ∃ y1, y1 = x1 * 65536 := ⟨_, rfl⟩
      obtain ⟨y2, f2⟩ : ∃ y2, y2 = x2 * 256 := ⟨_, rfl⟩
      have HX2 := HX.out
      rw [← f0, ← f1, ← f2] at HX2
      have v4 : IntKind.u32.wrap ((x0 : Int) * 16777216) = (y0 : Int) := by rw [IntWalk.u32_in _ (by omega)]; omega
      have v5 : IntKind.u32.wrap ((x1 : Int) * 65536) = (y1 : Int) := by rw [IntWalk.u32_in _ (by omega)]; omega
      have v6 : IntKind.u32.wrap ((x2 : Int) * 256) = (y2 : Int) := by rw [IntWalk.u32_in _ (by omega)]; omega
      have HX := Lib.hid HX2
      clear HX2 f0 f1 f2
      have v7 := add_wrap y0 y1
      generalize Sh.add y0 y1 = z1 at *
      have v8 := add_wrap z1 y2
      generalize Sh.add z1 y2 = z2 at *
      have v9 := add_wrap z2 x3
      generalize Sh.add z2 x3 = x4 at *
      go_wp2_with fail
      have HH := Lib.hid (fun (w' : World) (hb : Below w.heap.size w w') => And.intro ((hb.cell hab0).trans h0) (And.intro ((hb.cell hab1).trans h1) (And.intro ((hb.cell hab2).trans h2) ((hb.cell hab3).trans h3))))
      have hd := hbk.drew
      refine wp_region_any (by kernel_rfl) ?_
      change wpAny _ _ _ _ _ _ _ (World.drew _)
      refine wpAny_of_held (S := (fun w' => w'.cell? (ad.add p) = some (.int .u8 (x0 : Int)) ∧ w'.cell? (ad.add p1) = some (.int .u8 (x1 : Int)) ∧ w'.cell? (ad.add p2) = some (.int .u8 (x2 : Int)) ∧ w'.cell? (ad.add p3) = some (.int .u8 (x3 : Int)))) _ _ _ _ ?_
      refine wpAnyH_take (i := 0) (v := ?_) rfl (by kernel_rfl) (by kernel_rfl) (by kernel_rfl) (fun _ _ _ h => h) (Or.inl ⟨by rfl, ?_⟩) (HH.out _ hd) ?_
      rotate_left
      · intro wq hS
        have hS' := hS
        try simp only [] at hS'
        go_simp; try with_reducible rfl
      change wpAnyH _ _ _ _ _ _ _ (Act.put _ _ _) _
      refine wpAnyH_take (i := 1) (v := ?_) rfl (by kernel_rfl) (by kernel_rfl) (by kernel_rfl) (fun _ _ _ h => h) (Or.inl ⟨by rfl, ?_⟩) (HH.out _ hd) ?_
      rotate_left
      · intro wq hS
        have hS' := hS
        try simp only [] at hS'
        go_simp; try with_reducible rfl
      change wpAnyH _ _ _ _ _ _ _ (Act.put _ _ _) _
      refine wpAnyH_take (i := 2) (v := ?_) rfl (by kernel_rfl) (by kernel_rfl) (by kernel_rfl) (fun _ _ _ h => h) (Or.inl ⟨by rfl, ?_⟩) (HH.out _ hd) ?_
      rotate_left
      · intro wq hS
        have hS' := hS
        try simp only [] at hS'
        go_simp; try with_reducible rfl
      change wpAnyH _ _ _ _ _ _ _ (Act.put _ _ _) _
      refine wpAnyH_take (i := 3) (v := ?_) rfl (by kernel_rfl) (by kernel_rfl) (by kernel_rfl) (fun _ _ _ h => h) (Or.inl ⟨by rfl, ?_⟩) (HH.out _ hd) ?_
      rotate_left
      · intro wq hS
        have hS' := hS
        try simp only [] at hS'
        go_simp; try with_reducible rfl
      change wpAnyH _ _ _ _ _ _ _ (Act.put _ _ _) _
      refine wpAnyH_take (i := 4) (v := ?_) rfl (by kernel_rfl) (by kernel_rfl) (by kernel_rfl) (fun _ _ _ h => h) (Or.inl ⟨by rfl, ?_⟩) (HH.out _ hd) ?_
      rotate_left
      · intro wq hS
        have hS' := hS
        try simp only [] at hS'
        go_simp; try with_reducible rfl
      change wpAnyH _ _ _ _ _ _ _ (Act.put _ _ _) _
      refine wpAnyH_take (i := 5) (v := ?_) rfl (by kernel_rfl) (by kernel_rfl) (by kernel_rfl) (fun _ _ _ h => h) (Or.inl ⟨by rfl, ?_⟩) (HH.out _ hd) ?_
      rotate_left
      · intro wq hS
        have hS' := hS
        try simp only [] at hS'
        go_simp; try with_reducible rfl
      change wpAnyH _ _ _ _ _ _ _ (Act.put _ _ _) _
      refine wpAnyH_take (i := 6) (v := ?_) rfl (by kernel_rfl) (by kernel_rfl) (by kernel_rfl) (fun _ _ _ h => h) (Or.inl ⟨by rfl, ?_⟩) (HH.out _ hd) ?_
      rotate_left
      · intro wq hS
        have hS' := hS
        try simp only [] at hS'
        go_simp; try with_reducible rfl
      change wpAnyH _ _ _ _ _ _ _ (Act.put _ _ _) _
      refine wpAnyH_take (i := 7) (v := ?_) rfl (by kernel_rfl) (by kernel_rfl) (by kernel_rfl) (fun _ _ _ h => h) (Or.inl ⟨by rfl, ?_⟩) (HH.out _ hd) ?_
      rotate_left
      · intro wq hS
        have hS' := hS
        try simp only [] at hS'
        go_simp; try with_reducible rfl
      change wpAnyH _ _ _ _ _ _ _ (Act.put _ _ _) _
      go_simp
      refine wpAnyH_take (i := 8) (v := ?_) rfl (by kernel_rfl) (by kernel_rfl) (by kernel_rfl) (fun _ _ _ h => h) (Or.inl ⟨by rfl, ?_⟩) (HH.out _ hd) ?_
      rotate_left
      · intro wq hS
        have hS' := hS
        try simp only [] at hS'
        go_simp; try with_reducible rfl
      change wpAnyH _ _ _ _ _ _ _ (Act.put _ _ _) _
      refine wpAnyH_take (i := 9) (v := ?_) rfl (by kernel_rfl) (by kernel_rfl) (by kernel_rfl) (fun _ _ _ h => h) (Or.inl ⟨by rfl, ?_⟩) (HH.out _ hd) ?_
      rotate_left
      · intro wq hS
        have hS' := hS
        try simp only [] at hS'
        go_simp; try with_reducible rfl
      change wpAnyH _ _ _ _ _ _ _ (Act.put _ _ _) _
      refine wpAnyH_take (i := 10) (v := ?_) rfl (by kernel_rfl) (by kernel_rfl) (by kernel_rfl) (fun _ _ _ h => h) (Or.inl ⟨by rfl, ?_⟩) (HH.out _ hd) ?_
      rotate_left
      · intro wq hS
        have hS' := hS
        try simp only [] at hS'
        go_simp; try with_reducible rfl
      change wpAnyH _ _ _ _ _ _ _ (Act.put _ _ _) _
      refine wpAnyH_take (i := 11) (v := ?_) rfl (by kernel_rfl) (by kernel_rfl) (by kernel_rfl) (fun _ _ _ h => h) (Or.inl ⟨by rfl, ?_⟩) (HH.out _ hd) ?_
      rotate_left
      · intro wq hS
        have hS' := hS
        try simp only [] at hS'
        go_simp; try with_reducible rfl
      change wpAnyH _ _ _ _ _ _ _ (Act.put _ _ _) _
      refine wpAnyH_take (i := 12) (v := ?_) rfl (by kernel_rfl) (by kernel_rfl) (by kernel_rfl) (fun _ _ _ h => h) (Or.inl ⟨by rfl, ?_⟩) (HH.out _ hd) ?_
      rotate_left
      · intro wq hS
        have hS' := hS
        try simp only [] at hS'
        go_simp; try with_reducible rfl
      change wpAnyH _ _ _ _ _ _ _ (Act.put _ _ _) _
      refine wpAnyH_take (i := 13) (v := ?_) rfl (by kernel_rfl) (by kernel_rfl) (by kernel_rfl) (fun _ _ _ h => h) (Or.inl ⟨by rfl, ?_⟩) (HH.out _ hd) ?_
      rotate_left
      · intro wq hS
        have hS' := hS
        try simp only [] at hS'
        go_simp; try with_reducible rfl
      change wpAnyH _ _ _ _ _ _ _ (Act.put _ _ _) _
      refine wpAnyH_take (i := 14) (v := ?_) rfl (by kernel_rfl) (by kernel_rfl) (by kernel_rfl) (fun _ _ _ h => h) (Or.inl ⟨by rfl, ?_⟩) (HH.out _ hd) ?_
      rotate_left
      · intro wq hS
        have hS' := hS
        try simp only [] at hS'
        go_simp; try with_reducible rfl
      change wpAnyH _ _ _ _ _ _ _ (Act.put _ _ _) _
      refine wpAnyH_take (i := 15) (v := ?_) rfl (by kernel_rfl) (by kernel_rfl) (by kernel_rfl) (fun _ _ _ h => h) (Or.inl ⟨by rfl, ?_⟩) (HH.out _ hd) ?_
      rotate_left
      · intro wq hS
        have hS' := hS
        try simp only [] at hS'
        go_simp; try with_reducible rfl
      change wpAnyH _ _ _ _ _ _ _ (Act.put _ _ _) _
      go_simp
      refine wpAnyH_take (i := 16) (v := ?_) rfl (by kernel_rfl) (by kernel_rfl) (by kernel_rfl) (fun _ _ _ h => h) (Or.inl ⟨by rfl, ?_⟩) (HH.out _ hd) ?_
      rotate_left
      · intro wq hS
        have hS' := hS
        try simp only [] at hS'
        go_simp; try with_reducible rfl
      change wpAnyH _ _ _ _ _ _ _ (Act.put _ _ _) _
      refine wpAnyH_take (i := 17) (v := ?_) rfl (by kernel_rfl) (by kernel_rfl) (by kernel_rfl) (fun _ _ _ h => h) (Or.inl ⟨by rfl, ?_⟩) (HH.out _ hd) ?_
      rotate_left
      · intro wq hS
        have hS' := hS
        try simp only [] at hS'
        go_simp; try with_reducible rfl
      change wpAnyH _ _ _ _ _ _ _ (Act.put _ _ _) _
      refine wpAnyH_take (i := 18) (v := ?_) rfl (by kernel_rfl) (by kernel_rfl) (by kernel_rfl) (fun _ _ _ h => h) (Or.inl ⟨by rfl, ?_⟩) (HH.out _ hd) ?_
      rotate_left
      · intro wq hS
        have hS' := hS
        try simp only [] at hS'
        go_simp; try with_reducible rfl
      change wpAnyH _ _ _ _ _ _ _ (Act.put _ _ _) _
      refine wpAnyH_take (i := 19) (v := ?_) rfl (by kernel_rfl) (by kernel_rfl) (by kernel_rfl) (fun _ _ _ h => h) (Or.inl ⟨by rfl, ?_⟩) (HH.out _ hd) ?_
      rotate_left
      · intro wq hS
        have hS' := hS
        try simp only [] at hS'
        go_simp; try with_reducible rfl
      change wpAnyH _ _ _ _ _ _ _ (Act.put _ _ _) _
      refine wpAnyH_take (i := 20) (v := ?_) rfl (by kernel_rfl) (by kernel_rfl) (by kernel_rfl) (fun _ _ _ h => h) (Or.inl ⟨by rfl, ?_⟩) (HH.out _ hd) ?_
      rotate_left
      · intro wq hS
        have hS' := hS
        try simp only [] at hS'
        go_simp; try with_reducible rfl
      change wpAnyH _ _ _ _ _ _ _ (Act.put _ _ _) _
      refine wpAnyH_take (i := 21) (v := ?_) rfl (by kernel_rfl) (by kernel_rfl) (by kernel_rfl) (fun _ _ _ h => h) (Or.inl ⟨by rfl, ?_⟩) (HH.out _ hd) ?_
      rotate_left
      · intro wq hS
        have hS' := hS
        try simp only [] at hS'
        go_simp; try with_reducible rfl
      change wpAnyH _ _ _ _ _ _ _ (Act.put _ _ _) _
      refine wpAnyH_take (i := 22) (v := ?_) rfl (by kernel_rfl) (by kernel_rfl) (by kernel_rfl) (fun _ _ _ h => h) (Or.inl ⟨by rfl, ?_⟩) (HH.out _ hd) ?_
      rotate_left
      · intro wq hS
        have hS' := hS
        try simp only [] at hS'
        go_simp; try with_reducible rfl
      change wpAnyH _ _ _ _ _ _ _ (Act.put _ _ _) _
      refine wpAnyH_take (i := 23) (v := ?_) rfl (by kernel_rfl) (by kernel_rfl) (by kernel_rfl) (fun _ _ _ h => h) (Or.inl ⟨by rfl, ?_⟩) (HH.out _ hd) ?_
      rotate_left
      · intro wq hS
        have hS' := hS
        try simp only [] at hS'
        go_simp; try with_reducible rfl
      change wpAnyH _ _ _ _ _ _ _ (Act.put _ _ _) _
      refine wpAnyH_take (i := 24) (v := ?_) rfl (by kernel_rfl) (by kernel_rfl) (by kernel_rfl) (fun _ _ _ h => h) (Or.inl ⟨by rfl, ?_⟩) (HH.out _ hd) ?_
      rotate_left
      · intro wq hS
        have hS' := hS
        try simp only [] at hS'
        go_simp; try with_reducible rfl
      change wpAnyH _ _ _ _ _ _ _ (Act.put _ _ _) _
      refine wpAnyH_take (i := 25) (v := ?_) rfl (by kernel_rfl) (by kernel_rfl) (by kernel_rfl) (fun _ _ _ h => h) (Or.inl ⟨by rfl, ?_⟩) (HH.out _ hd) ?_
      rotate_left
      · intro wq hS
        have hS' := hS
        try simp only [] at hS'
        go_simp; try with_reducible rfl
      change wpAnyH _ _ _ _ _ _ _ (Act.put _ _ _) _
      go_simp
      refine wpAnyH_take (i := 26) (v := ?_) rfl (by kernel_rfl) (by kernel_rfl) (by kernel_rfl) (fun _ _ _ h => h) (Or.inl ⟨by rfl, ?_⟩) (HH.out _ hd) ?_
      rotate_left
      · intro wq hS
        have hS' := hS
        try simp only [] at hS'
        go_simp; try with_reducible rfl
      change wpAnyH _ _ _ _ _ _ _ (Act.put _ _ _) _
      refine wpAnyH_take (i := 27) (v := ?_) rfl (by kernel_rfl) (by kernel_rfl) (by kernel_rfl) (fun _ _ _ h => h) (Or.inl ⟨by rfl, ?_⟩) (HH.out _ hd) ?_
      rotate_left
      · intro wq hS
        have hS' := hS
        try simp only [] at hS'
        go_simp; try with_reducible rfl
      change wpAnyH _ _ _ _ _ _ _ (Act.put _ _ _) _
      refine wpAnyH_take (i := 28) (v := ?_) rfl (by kernel_rfl) (by kernel_rfl) (by kernel_rfl) (fun _ _ _ h => h) (Or.inl ⟨by rfl, ?_⟩) (HH.out _ hd) ?_
      rotate_left
      · intro wq hS
        have hS' := hS
        try simp only [] at hS'
        go_simp; try with_reducible rfl
      change wpAnyH _ _ _ _ _ _ _ (Act.put _ _ _) _
      refine wpAnyH_take (i := 29) (v := ?_) rfl (by kernel_rfl) (by kernel_rfl) (by kernel_rfl) (fun _ _ _ h => h) (Or.inl ⟨by rfl, ?_⟩) (HH.out _ hd) ?_
      rotate_left
      · intro wq hS
        have hS' := hS
        try simp only [] at hS'
        go_simp; try with_reducible rfl
      change wpAnyH _ _ _ _ _ _ _ (Act.put _ _ _) _
      refine wpAnyH_take (i := 30) (v := ?_) rfl (by kernel_rfl) (by kernel_rfl) (by kernel_rfl) (fun _ _ _ h => h) (Or.inl ⟨by rfl, ?_⟩) (HH.out _ hd) ?_
      rotate_left
      · intro wq hS
        have hS' := hS
        try simp only [] at hS'
        go_simp; try with_reducible rfl
      change wpAnyH _ _ _ _ _ _ _ (Act.put _ _ _) _
      refine wpAnyH_take (i := 31) (v := ?_) rfl (by kernel_rfl) (by kernel_rfl) (by kernel_rfl) (fun _ _ _ h => h) (Or.inl ⟨by rfl, ?_⟩) (HH.out _ hd) ?_
      rotate_left
      · intro wq hS
        have hS' := hS
        try simp only [] at hS'
        go_simp; try with_reducible rfl
      change wpAnyH _ _ _ _ _ _ _ (Act.put _ _ _) _
      refine wpAnyH_take (i := 32) (v := ?_) rfl (by kernel_rfl) (by kernel_rfl) (by kernel_rfl) (fun _ _ _ h => h) (Or.inl ⟨by rfl, ?_⟩) (HH.out _ hd) ?_
      rotate_left
      · intro wq hS
        have hS' := hS
        try simp only [] at hS'
        go_simp; try with_reducible rfl
      change wpAnyH _ _ _ _ _ _ _ (Act.put _ _ _) _
      refine wpAnyH_take (i := 33) (v := ?_) rfl (by kernel_rfl) (by kernel_rfl) (by kernel_rfl) (fun _ _ _ h => h) (Or.inl ⟨by rfl, ?_⟩) (HH.out _ hd) ?_
      rotate_left
      · intro wq hS
        have hS' := hS
        try simp only [] at hS'
        go_simp; try with_reducible rfl
      change wpAnyH _ _ _ _ _ _ _ (Act.put _ _ _) _
      go_simp
      refine held_one (i := 34) (by kernel_rfl) rfl (fun K hK => ?_)
      go_simp
      skip
      refine hK _ _ (HH.out _ (hd.alloc hd.size _)) ?_; clear hK K
      go_simp
      refine held_app (i := 35) (by kernel_rfl) rfl rfl (.tmp 25) (.tmp 59) 78 78 rfl w.heap.size 79 i0 _ 4 Tryd.underlying78 hi hz0 hz1 hz2 rfl u5 k (uv (Sh.words b k)) rfl (ho.alloc _).drew _ 1 [Value.int .u32 (x4 : Int)] rfl (new_one Tryd.underlying78 wr _ 79 rfl) (by unfold maxLen; omega) (by omega) (by simp; omega) ?_
      intro v3 w3 ho3 hb3 _
      have hb4 := (hbk.alloc hsz _).drew.trans hb3
      refine ⟨HH.out _ hb4, ?_⟩
      rw [← uv_cell, ← uv_append, ← HX.out] at ho3
      go_simp
      refine wpAnyH_grow (by kernel_rfl) (Picks.cons (i := 36) rfl <| Picks.nil _) (by kernel_rfl) rfl (fun u => HH.out _ (hb4.trans (u.prop.mono hb4.size))) ?_
      go_simp
      repeat (go_big_quiet_step (fail))
      refine wpQuiet_nil ?_
      first | (intro _ hw'; obtain ⟨u, hw''⟩ := hw'; subst hw'') | intro u
      go_wp2_with fail
      go_roundw
      case rel => exact ⟨k + 1, by omega, by go_num, own_below ho3 u.prop, hb4.trans (u.prop.mono hb4.size)⟩
      case measure => simp [intOf]; omega
    · obtain rfl : k = 16 := by omega
      clear hk hlt
      go_wp2_with fail
      go_loopw [5, 7] (fun v i wr => ∃ (k g c : Nat), 16 ≤ k ∧ k ≤ 64 ∧ i = .int .i64 (k : Int) ∧ v = .slice (some ⟨g, 0, none⟩) k c ∧ wr.ownsRow w.heap.size 79 1 v k (uv (Sh.words b k)) ∧ Below w.heap.size w wr) (fun _ i _ => 64 - (intOf i).toNat)
      case atStart =>
        obtain ⟨g, c, hv⟩ := own_some ho (by omega)
        exact ⟨16, g, c, Nat.le_refl _, by omega, rfl, hv, ho, hbk⟩
      case round =>
        obtain ⟨k, g, c, hk0, hk, rfl, rfl, ho, hbk⟩ := hrel
        have hsz := hbk.size
        by_cases hlt : k < 64
        · have HX := Lib.hid (show Sh.words b (k + 1) = Sh.words b k ++ [Sh.next (Sh.words b k) k] by rw [Sh.words, if_neg (by omega)])
          unfold Sh.next at HX
          have hws := Sh.words_ws b k
          have hwl := Sh.words_length b k
          obtain ⟨j1, e1⟩ : ∃ j, j = k - 15 := ⟨_, rfl⟩
          obtain ⟨j2, e2⟩ : ∃ j, j = k - 2 := ⟨_, rfl⟩
          obtain ⟨j3, e3⟩ : ∃ j, j = k - 16 := ⟨_, rfl⟩
          obtain ⟨j4, e4⟩ : ∃ j, j = k - 7 := ⟨_, rfl⟩
          rw [← e1, ← e2, ← e3, ← e4] at HX
          have r1 : IntKind.i64.wrap ((k : Int) - 15) = (j1 : Int) := by rw [IntWalk.i64_in _ (by omega)]; omega
          have r2 : IntKind.i64.wrap ((k : Int) - 2) = (j2 : Int) := by rw [IntWalk.i64_in _ (by omega)]; omega
          have r3 : IntKind.i64.wrap ((k : Int) - 16) = (j3 : Int) := by rw [IntWalk.i64_in _ (by omega)]; omega
          have r4 : IntKind.i64.wrap ((k : Int) - 7) = (j4 : Int) := by rw [IntWalk.i64_in _ (by omega)]; omega
          have l1 : (j1 : Int) < (k : Int) := by omega
          have l2 : (j2 : Int) < (k : Int) := by omega
          have l3 : (j3 : Int) < (k : Int) := by omega
          have l4 : (j4 : Int) < (k : Int) := by omega
          have c1 := own_word ho (j := j1) (by omega)
          have c2 := own_word ho (j := j2) (by omega)
          have c3 := own_word ho (j := j3) (by omega)
          have c4 := own_word ho (j := j4) (by omega)
          have a3 := uv_at (Sh.words b k) (j := j3) (by omega)
          have a4 := uv_at (Sh.words b k) (j := j4) (by omega)
          have b1 := hws.at j1
          have b2 := hws.at j2
          have b3 := hws.at j3
          have b4 := hws.at j4
          generalize (Sh.words b k).getD j1 0 = x1 at *
          generalize (Sh.words b k).getD j2 0 = x2 at *
          generalize (Sh.words b k).getD j3 0 = x3 at *
          generalize (Sh.words b k).getD j4 0 = x4 at *
          have hg := World.block_lt_of_cell? _ _ c1
          have T1' : ∀ w, Calls Tryd.prog 67 #[.int .u32 (x1 : Int), .int .u64 7] w fun e w' => e = .returned (.int .u32 (Sh.turn x1 7 : Int)) ∧ w = w' := fun w => turn_any x1 7 w b1 (by decide)
          have T1 := Lib.hid T1'
          clear T1'
          have T2' : ∀ w, Calls Tryd.prog 67 #[.int .u32 (x1 : Int), .int .u64 18] w fun e w' => e = .returned (.int .u32 (Sh.turn x1 18 : Int)) ∧ w = w' := fun w => turn_any x1 18 w b1 (by decide)
          have T2 := Lib.hid T2'
          clear T2'
          have m1 := Sh.turn_lt 7 b1
          have m2 := Sh.turn_lt 18 b1
          unfold Sh.mixX at HX
          generalize Sh.turn x1 7 = t1 at *
          generalize Sh.turn x1 18 = t2 at *
          have q1 := u32_xor_nat t1 t2 m1 m2
          have m3 := Sh.xor_lt m1 m2
          generalize t1 ^^^ t2 = t3 at *
          have q2 : bits .xor .u32 (t3 : Int) ((x1 : Int) / 8) = ((t3 ^^^ x1 / 8 : Nat) : Int) := by rw [show (x1 : Int) / 8 = ((x1 / 8 : Nat) : Int) by omega]; exact u32_xor_nat _ _ m3 (by omega)
          have m4 : t3 ^^^ x1 / 8 < 4294967296 := Sh.xor_lt m3 (by omega)
          generalize t3 ^^^ x1 / 8 = X1 at *
          have T3' : ∀ w, Calls Tryd.prog 67 #[.int .u32 (x2 : Int), .int .u64 17] w fun e w' => e = .returned (.int .u32 (Sh.turn x2 17 : Int)) ∧ w = w' := fun w => turn_any x2 17 w b2 (by decide)
          have T4' : ∀ w, Calls Tryd.prog 67 #[.int .u32 (x2 : Int), .int .u64 19] w fun e w' => e = .returned (.int .u32 (Sh.turn x2 19 : Int)) ∧ w = w' := fun w => turn_any x2 19 w b2 (by decide)
          have T3 := Lib.hid T3'
          have T4 := Lib.hid T4'
          clear T3' T4'
          have m5 := Sh.turn_lt 17 b2
          have m6 := Sh.turn_lt 19 b2
          unfold Sh.mixY at HX
          generalize Sh.turn x2 17 = t5 at *
          generalize Sh.turn x2 19 = t6 at *
          have q3 := u32_xor_nat t5 t6 m5 m6
          have m7 := Sh.xor_lt m5 m6
          generalize t5 ^^^ t6 = t7 at *
          have q4 : bits .xor .u32 (t7 : Int) ((x2 : Int) / 1024) = ((t7 ^^^ x2 / 1024 : Nat) : Int) := by rw [show (x2 : Int) / 1024 = ((x2 / 1024 : Nat) : Int) by omega]; exact u32_xor_nat _ _ m7 (by omega)
          generalize t7 ^^^ x2 / 1024 = X2 at *
          have v1 := add_wrap x3 X1
          generalize Sh.add x3 X1 = z1 at *
          have v2 := add_wrap z1 x4
          generalize Sh.add z1 x4 = z2 at *
          have v3 := add_wrap z2 X2
          generalize Sh.add z2 X2 = z3 at *
          clear e1 e2 e3 e4
          have hk1 := fun u : Grw wr => (u.prop.cell hg).trans c1
          go_wp2_with fail
          refine wp_region_grow (by kernel_rfl) (by kernel_rfl) ?_
          go_big_quiet_step (fail)
          go_big_quiet_step (fail)
          go_big_quiet_step (fail)
          go_big_quiet_step (fail)
          go_big_quiet_step (fail)
          go_big_quiet_step ((go_at_call 67; exact grow_same (T1.out _)))
          go_big_quiet_step (fail)
          go_big_quiet_step (fail)
          go_big_quiet_step (fail)
          go_big_quiet_step (fail)
          go_big_quiet_step (fail)
          go_big_quiet_step ((go_at_call 67; exact grow_same (T2.out _)))
          go_big_quiet_step (fail)
          go_big_quiet_step (fail)
          go_big_quiet_step (fail)
          go_big_quiet_step (fail)
          go_big_quiet_step (fail)
          go_big_quiet_step (fail)
          go_big_quiet_step (fail)
          go_big_quiet_step (fail)
          go_big_quiet_step (fail)
          refine wpQuiet_nil ?_
          first | (intro _ hw'; obtain ⟨u, hw''⟩ := hw'; subst hw'') | intro u
          have hbu : Below wr.heap.size wr u.val := u.prop
          have hb5 := hbk.trans (hbu.mono hbk.size)
          have ho5 := own_below ho hbu
          have d2 := (hbu.cell hg).trans c2
          have d3 := (hbu.cell (World.block_lt_of_cell? _ _ c3)).trans c3
          have d4 := (hbu.cell (World.block_lt_of_cell? _ _ c4)).trans c4
          clear hk1 c1 c2 c3 c4
          generalize u.val = w5 at *
          have hg5 := World.block_lt_of_cell? _ _ d2
          have hk2 := fun u : Grw w5 => (u.prop.cell hg5).trans d2
          go_wp2_with fail
          refine wp_region_grow (by kernel_rfl) (by kernel_rfl) ?_
          go_big_quiet_step (fail)
          go_big_quiet_step (fail)
          go_big_quiet_step (fail)
          go_big_quiet_step (fail)
          go_big_quiet_step (fail)
          go_big_quiet_step ((go_at_call 67; exact grow_same (T3.out _)))
          go_big_quiet_step (fail)
          go_big_quiet_step (fail)
          go_big_quiet_step (fail)
          go_big_quiet_step (fail)
          go_big_quiet_step (fail)
          go_big_quiet_step ((go_at_call 67; exact grow_same (T4.out _)))
          go_big_quiet_step (fail)
          go_big_quiet_step (fail)
          go_big_quiet_step (fail)
          go_big_quiet_step (fail)
          go_big_quiet_step (fail)
          go_big_quiet_step (fail)
          go_big_quiet_step (fail)
          go_big_quiet_step (fail)
          go_big_quiet_step (fail)
          refine wpQuiet_nil ?_
          first | (intro _ hw'; obtain ⟨u, hw''⟩ := hw'; subst hw'') | intro u
          have hbu6 : Below w5.heap.size w5 u.val := u.prop
          have hb6 := hb5.trans (hbu6.mono hb5.size)
          have ho6 := own_below ho5 hbu6
          have d5 := (hbu6.cell (World.block_lt_of_cell? _ _ d3)).trans d3
          have d6 := (hbu6.cell (World.block_lt_of_cell? _ _ d4)).trans d4
          clear hk2 d2 d3 d4 ho ho5 hb5 hbu hbu6 hbk hg hg5
          generalize u.val = w6 at *
          go_wp2_with fail
          have hsz6 := hb6.size
          have h5 := World.block_lt_of_cell? _ _ d5
          have HH := Lib.hid (fun (w' : World) (hb : Below w6.heap.size w6 w') => And.intro ((hb.cell (p := ⟨g, j3, none⟩) h5).trans d5) ((hb.cell (p := ⟨g, j4, none⟩) h5).trans d6))
          have hd6 : Below w6.heap.size w6 w6.drew := (Below.refl _ _).drew
          clear d5 d6
          refine wp_region_any (by kernel_rfl) ?_
          change wpAny _ _ _ _ _ _ _ (World.drew _)
          refine wpAny_of_held (S := (fun w' => w'.cell? ⟨g, j3, none⟩ = some (.int .u32 (x3 : Int)) ∧ w'.cell? ⟨g, j4, none⟩ = some (.int .u32 (x4 : Int)))) _ _ _ _ ?_
          refine wpAnyH_take (i := 0) (v := ?_) rfl (by kernel_rfl) (by kernel_rfl) (by kernel_rfl) (fun _ _ _ h => h) (Or.inl ⟨by rfl, ?_⟩) (HH.out _ hd6) ?_
          rotate_left
          · intro wq hS
            have hS' := hS
            try simp only [] at hS'
            go_simp; try with_reducible rfl
          change wpAnyH _ _ _ _ _ _ _ (Act.put _ _ _) _
          refine wpAnyH_take (i := 1) (v := ?_) rfl (by kernel_rfl) (by kernel_rfl) (by kernel_rfl) (fun _ _ _ h => h) (Or.inl ⟨by rfl, ?_⟩) (HH.out _ hd6) ?_
          rotate_left
          · intro wq hS
            have hS' := hS
            try simp only [] at hS'
            go_simp; try with_reducible rfl
          change wpAnyH _ _ _ _ _ _ _ (Act.put _ _ _) _
          refine wpAnyH_take (i := 2) (v := ?_) rfl (by kernel_rfl) (by kernel_rfl) (by kernel_rfl) (fun _ _ _ h => h) (Or.inl ⟨by rfl, ?_⟩) (HH.out _ hd6) ?_
          rotate_left
          · intro wq hS
            have hS' := hS
            try simp only [] at hS'
            go_simp; try with_reducible rfl
          change wpAnyH _ _ _ _ _ _ _ (Act.put _ _ _) _
          refine wpAnyH_take (i := 3) (v := ?_) rfl (by kernel_rfl) (by kernel_rfl) (by kernel_rfl) (fun _ _ _ h => h) (Or.inl ⟨by rfl, ?_⟩) (HH.out _ hd6) ?_
          rotate_left
          · intro wq hS
            have hS' := hS
            try simp only [] at hS'
            go_simp; try with_reducible rfl
          change wpAnyH _ _ _ _ _ _ _ (Act.put _ _ _) _
          refine wpAnyH_take (i := 4) (v := ?_) rfl (by kernel_rfl) (by kernel_rfl) (by kernel_rfl) (fun _ _ _ h => h) (Or.inl ⟨by rfl, ?_⟩) (HH.out _ hd6) ?_
          rotate_left
          · intro wq hS
            have hS' := hS
            try simp only [] at hS'
            go_simp; try with_reducible rfl
          change wpAnyH _ _ _ _ _ _ _ (Act.put _ _ _) _
          refine wpAnyH_take (i := 5) (v := ?_) rfl (by kernel_rfl) (by kernel_rfl) (by kernel_rfl) (fun _ _ _ h => h) (Or.inl ⟨by rfl, ?_⟩) (HH.out _ hd6) ?_
          rotate_left
          · intro wq hS
            have hS' := hS
            try simp only [] at hS'
            go_simp; try with_reducible rfl
          change wpAnyH _ _ _ _ _ _ _ (Act.put _ _ _) _
          refine wpAnyH_take (i := 6) (v := ?_) rfl (by kernel_rfl) (by kernel_rfl) (by kernel_rfl) (fun _ _ _ h => h) (Or.inl ⟨by rfl, ?_⟩) (HH.out _ hd6) ?_
          rotate_left
          · intro wq hS
            have hS' := hS
            try simp only [] at hS'
            go_simp; try with_reducible rfl
          change wpAnyH _ _ _ _ _ _ _ (Act.put _ _ _) _
          refine wpAnyH_take (i := 7) (v := ?_) rfl (by kernel_rfl) (by kernel_rfl) (by kernel_rfl) (fun _ _ _ h => h) (Or.inl ⟨by rfl, ?_⟩) (HH.out _ hd6) ?_
          rotate_left
          · intro wq hS
            have hS' := hS
            try simp only [] at hS'
            go_simp; try with_reducible rfl
          change wpAnyH _ _ _ _ _ _ _ (Act.put _ _ _) _
          go_simp
          refine wpAnyH_take (i := 8) (v := ?_) rfl (by kernel_rfl) (by kernel_rfl) (by kernel_rfl) (fun _ _ _ h => h) (Or.inl ⟨by rfl, ?_⟩) (HH.out _ hd6) ?_
          rotate_left
          · intro wq hS
            have hS' := hS
            try simp only [] at hS'
            go_simp; try with_reducible rfl
          change wpAnyH _ _ _ _ _ _ _ (Act.put _ _ _) _
          refine wpAnyH_take (i := 9) (v := ?_) rfl (by kernel_rfl) (by kernel_rfl) (by kernel_rfl) (fun _ _ _ h => h) (Or.inl ⟨by rfl, ?_⟩) (HH.out _ hd6) ?_
          rotate_left
          · intro wq hS
            have hS' := hS
            try simp only [] at hS'
            go_simp; try with_reducible rfl
          change wpAnyH _ _ _ _ _ _ _ (Act.put _ _ _) _
          refine wpAnyH_take (i := 10) (v := ?_) rfl (by kernel_rfl) (by kernel_rfl) (by kernel_rfl) (fun _ _ _ h => h) (Or.inl ⟨by rfl, ?_⟩) (HH.out _ hd6) ?_
          rotate_left
          · intro wq hS
            have hS' := hS
            try simp only [] at hS'
            go_simp; try with_reducible rfl
          change wpAnyH _ _ _ _ _ _ _ (Act.put _ _ _) _
          refine wpAnyH_take (i := 11) (v := ?_) rfl (by kernel_rfl) (by kernel_rfl) (by kernel_rfl) (fun _ _ _ h => h) (Or.inl ⟨by rfl, ?_⟩) (HH.out _ hd6) ?_
          rotate_left
          · intro wq hS
            have hS' := hS
            try simp only [] at hS'
            go_simp; try with_reducible rfl
          change wpAnyH _ _ _ _ _ _ _ (Act.put _ _ _) _
          refine wpAnyH_take (i := 12) (v := ?_) rfl (by kernel_rfl) (by kernel_rfl) (by kernel_rfl) (fun _ _ _ h => h) (Or.inl ⟨by rfl, ?_⟩) (HH.out _ hd6) ?_
          rotate_left
          · intro wq hS
            have hS' := hS
            try simp only [] at hS'
            go_simp; try with_reducible rfl
          change wpAnyH _ _ _ _ _ _ _ (Act.put _ _ _) _
          refine wpAnyH_take (i := 13) (v := ?_) rfl (by kernel_rfl) (by kernel_rfl) (by kernel_rfl) (fun _ _ _ h => h) (Or.inl ⟨by rfl, ?_⟩) (HH.out _ hd6) ?_
          rotate_left
          · intro wq hS
            have hS' := hS
            try simp only [] at hS'
            go_simp; try with_reducible rfl
          change wpAnyH _ _ _ _ _ _ _ (Act.put _ _ _) _
          refine wpAnyH_take (i := 14) (v := ?_) rfl (by kernel_rfl) (by kernel_rfl) (by kernel_rfl) (fun _ _ _ h => h) (Or.inl ⟨by rfl, ?_⟩) (HH.out _ hd6) ?_
          rotate_left
          · intro wq hS
            have hS' := hS
            try simp only [] at hS'
            go_simp; try with_reducible rfl
          change wpAnyH _ _ _ _ _ _ _ (Act.put _ _ _) _
          refine wpAnyH_take (i := 15) (v := ?_) rfl (by kernel_rfl) (by kernel_rfl) (by kernel_rfl) (fun _ _ _ h => h) (Or.inl ⟨by rfl, ?_⟩) (HH.out _ hd6) ?_
          rotate_left
          · intro wq hS
            have hS' := hS
            try simp only [] at hS'
            go_simp; try with_reducible rfl
          change wpAnyH _ _ _ _ _ _ _ (Act.put _ _ _) _
          go_simp
          refine held_one (i := 16) (by kernel_rfl) rfl (fun K hK => ?_)
          go_simp
          skip
          refine hK _ _ (HH.out _ (hd6.alloc hd6.size _)) ?_; clear hK K
          go_simp
          refine held_app (i := 17) (by kernel_rfl) rfl rfl (.tmp 105) (.tmp 121) 78 78 rfl w.heap.size 79 i0 _ 4 Tryd.underlying78 hi hz0 hz1 hz2 rfl (.slice (some ⟨g, 0, none⟩) k c) k (uv (Sh.words b k)) rfl (ho6.alloc _).drew _ 1 [Value.int .u32 (z3 : Int)] rfl (new_one Tryd.underlying78 w6 _ 79 rfl) (by unfold maxLen; omega) (by omega) (by simp; omega) ?_
          intro v3 w3 ho3 hb3 hk3
          have hb7 := (hb6.alloc hsz6 _).drew.trans hb3
          have s3 := hk3 g rfl j3 _ a3
          have s4 := hk3 g rfl j4 _ a4
          rw [add_nought] at s3 s4
          have h6 := World.block_lt_of_cell? _ _ s3
          refine ⟨⟨s3, s4⟩, ?_⟩
          rw [← uv_cell, ← uv_append, ← HX.out] at ho3
          obtain ⟨g3, c3, hv3⟩ := own_some ho3 (by omega)
          subst hv3
          go_simp
          refine wpAnyH_grow (by kernel_rfl) (Picks.cons (i := 18) rfl <| Picks.nil _) (by kernel_rfl) rfl (fun u => And.intro ((u.prop.cell (p := ⟨g, j3, none⟩) h6).trans s3) ((u.prop.cell (p := ⟨g, j4, none⟩) h6).trans s4)) ?_
          go_simp
          repeat (go_big_quiet_step (fail))
          refine wpQuiet_nil ?_
          first | (intro _ hw'; obtain ⟨u, hw''⟩ := hw'; subst hw'') | intro u
          go_wp2_with fail
          go_roundw
          case rel => exact ⟨k + 1, by omega, by omega, by omega, by omega, own_below ho3 u.prop, hb7.trans (u.prop.mono hb7.size)⟩
          case measure => simp [intOf]; omega
        · obtain rfl : k = 64 := by omega
          clear hk hk0 hlt
          have hwl := Sh.words_length b 64
          have hww := Sh.words_ws b 64
          obtain ⟨W, hW⟩ : ∃ W, W = Sh.words b 64 := ⟨_, rfl⟩
          rw [← hW] at ho hwl hww
          have HMIX := Lib.hid (show Sh.mix s b = (Sh.St.of s).onto (Sh.rounds W (Sh.St.of s) 64) by rw [hW]; rfl)
          obtain ⟨S0, hS0⟩ : ∃ S0, S0 = Sh.St.of s := ⟨_, rfl⟩
          rw [← hS0] at HMIX
          have hok : S0.ok := by rw [hS0]; exact Sh.St.of_ok hws
          obtain ⟨sa, rfl, s0⟩ := HRS.out.wordAt (k := 0) (by omega)
          obtain ⟨_, f1, s1⟩ := HRS.out.wordAt (k := 1) (by omega)
          obtain ⟨_, f2, s2⟩ := HRS.out.wordAt (k := 2) (by omega)
          obtain ⟨_, f3, s3⟩ := HRS.out.wordAt (k := 3) (by omega)
          obtain ⟨_, f4, s4⟩ := HRS.out.wordAt (k := 4) (by omega)
          obtain ⟨_, f5, s5⟩ := HRS.out.wordAt (k := 5) (by omega)
          obtain ⟨_, f6, s6⟩ := HRS.out.wordAt (k := 6) (by omega)
          obtain ⟨_, f7, s7⟩ := HRS.out.wordAt (k := 7) (by omega)
          cases f1; cases f2; cases f3; cases f4; cases f5; cases f6; cases f7
          rw [show sa.add 0 = sa by simp [Addr.add]] at s0
          rw [show sa.add 1 = ⟨sa.block, sa.off + 1, none⟩ by simp [Addr.add]] at s1
          rw [show sa.add 2 = ⟨sa.block, sa.off + 2, none⟩ by simp [Addr.add]] at s2
          rw [show sa.add 3 = ⟨sa.block, sa.off + 3, none⟩ by simp [Addr.add]] at s3
          rw [show sa.add 4 = ⟨sa.block, sa.off + 4, none⟩ by simp [Addr.add]] at s4
          rw [show sa.add 5 = ⟨sa.block, sa.off + 5, none⟩ by simp [Addr.add]] at s5
          rw [show sa.add 6 = ⟨sa.block, sa.off + 6, none⟩ by simp [Addr.add]] at s6
          rw [show sa.add 7 = ⟨sa.block, sa.off + 7, none⟩ by simp [Addr.add]] at s7
          rw [show s.getD 0 0 = S0.a by rw [hS0]; rfl] at s0
          rw [show s.getD 1 0 = S0.b by rw [hS0]; rfl] at s1
          rw [show s.getD 2 0 = S0.c by rw [hS0]; rfl] at s2
          rw [show s.getD 3 0 = S0.d by rw [hS0]; rfl] at s3
          rw [show s.getD 4 0 = S0.e by rw [hS0]; rfl] at s4
          rw [show s.getD 5 0 = S0.f by rw [hS0]; rfl] at s5
          rw [show s.getD 6 0 = S0.g by rw [hS0]; rfl] at s6
          rw [show s.getD 7 0 = S0.h by rw [hS0]; rfl] at s7
          have hab := World.block_lt_of_cell? _ _ s0
          have HC := Lib.hid (fun (w' : World) (hb : Below w.heap.size w w') => And.intro ((hb.cell hab).trans s0) (And.intro ((hb.cell (p := ⟨sa.block, sa.off + 1, none⟩) hab).trans s1) (And.intro ((hb.cell (p := ⟨sa.block, sa.off + 2, none⟩) hab).trans s2) (And.intro ((hb.cell (p := ⟨sa.block, sa.off + 3, none⟩) hab).trans s3) (And.intro ((hb.cell (p := ⟨sa.block, sa.off + 4, none⟩) hab).trans s4) (And.intro ((hb.cell (p := ⟨sa.block, sa.off + 5, none⟩) hab).trans s5) (And.intro ((hb.cell (p := ⟨sa.block, sa.off + 6, none⟩) hab).trans s6) ((hb.cell (p := ⟨sa.block, sa.off + 7, none⟩) hab).trans s7))))))))
          clear s0 s1 s2 s3 s4 s5 s6 s7 hS0 hW
          have k0 := fun u : Grw wr => (HC.out _ (hbk.trans (u.prop.mono hsz))).1
          have k1 := fun u : Grw wr => (HC.out _ (hbk.trans (u.prop.mono hsz))).2.1
          have k2 := fun u : Grw wr => (HC.out _ (hbk.trans (u.prop.mono hsz))).2.2.1
          have k3 := fun u : Grw wr => (HC.out _ (hbk.trans (u.prop.mono hsz))).2.2.2.1
          go_wp2_with fail
          refine wp_region_grow (by kernel_rfl) (by kernel_rfl) ?_
          go_big_quiet_step (fail)
          go_big_quiet_step (fail)
          go_big_quiet_step (fail)
          go_big_quiet_step (fail)
          go_big_quiet_step (fail)
          go_big_quiet_step (fail)
          go_big_quiet_step (fail)
          go_big_quiet_step (fail)
          go_big_quiet_step (fail)
          go_big_quiet_step (fail)
          go_big_quiet_step (fail)
          go_big_quiet_step (fail)
          go_big_quiet_step (fail)
          go_big_quiet_step (fail)
          go_big_quiet_step (fail)
          go_big_quiet_step (fail)
          refine wpQuiet_nil ?_
          first | (intro _ hw'; obtain ⟨u, hw''⟩ := hw'; subst hw'') | intro u
          have hbu := hbk.trans (u.prop.mono hsz)
          have hou := own_below ho u.prop
          clear k0 k1 k2 k3 ho hbk hsz
          generalize u.val = w5 at *
          have hsz := hbu.size
          have k4 := fun u : Grw w5 => (HC.out _ (hbu.trans (u.prop.mono hsz))).2.2.2.2.1
          have k5 := fun u : Grw w5 => (HC.out _ (hbu.trans (u.prop.mono hsz))).2.2.2.2.2.1
          have k6 := fun u : Grw w5 => (HC.out _ (hbu.trans (u.prop.mono hsz))).2.2.2.2.2.2.1
          have k7 := fun u : Grw w5 => (HC.out _ (hbu.trans (u.prop.mono hsz))).2.2.2.2.2.2.2
          go_wp2_with fail
          refine wp_region_grow (by kernel_rfl) (by kernel_rfl) ?_
          go_big_quiet_step (fail)
          go_big_quiet_step (fail)
          go_big_quiet_step (fail)
          go_big_quiet_step (fail)
          go_big_quiet_step (fail)
          go_big_quiet_step (fail)
          go_big_quiet_step (fail)
          go_big_quiet_step (fail)
          go_big_quiet_step (fail)
          go_big_quiet_step (fail)
          go_big_quiet_step (fail)
          go_big_quiet_step (fail)
          go_big_quiet_step (fail)
          go_big_quiet_step (fail)
          go_big_quiet_step (fail)
          go_big_quiet_step (fail)
          refine wpQuiet_nil ?_
          first | (intro _ hw'; obtain ⟨u, hw''⟩ := hw'; subst hw'') | intro u
          have hbv := hbu.trans (u.prop.mono hsz)
          have hov := own_below hou u.prop
          clear k4 k5 k6 k7 hou hbu hsz
          generalize u.val = w6 at *
          go_wp2_with fail
          go_loopw [10, 11, 12, 13, 14, 15, 16, 17, 18] (fun va vb vc vd ve vf vg vh i wr => ∃ (k a b1 c1 d e f g1 h : Nat), k ≤ 64 ∧ Sh.rounds W S0 k = ⟨a, b1, c1, d, e, f, g1, h⟩ ∧ va = .int .u32 (a : Int) ∧ vb = .int .u32 (b1 : Int) ∧ vc = .int .u32 (c1 : Int) ∧ vd = .int .u32 (d : Int) ∧ ve = .int .u32 (e : Int) ∧ vf = .int .u32 (f : Int) ∧ vg = .int .u32 (g1 : Int) ∧ vh = .int .u32 (h : Int) ∧ i = .int .i64 (k : Int) ∧ wr.ownsRow w.heap.size 79 1 (.slice (some ⟨g, 0, none⟩) 64 c) 64 (uv W) ∧ Below w.heap.size w wr) (fun _ _ _ _ _ _ _ _ i _ => 64 - (intOf i).toNat)
          case atStart => exact ⟨0, S0.a, S0.b, S0.c, S0.d, S0.e, S0.f, S0.g, S0.h, Nat.zero_le _, rfl, rfl, rfl, rfl, rfl, rfl, rfl, rfl, rfl, rfl, hov, hbv⟩
          case round =>
            obtain ⟨k, a, b1, c1, d, e, f, g1, h, hk, hst, rfl, rfl, rfl, rfl, rfl, rfl, rfl, rfl, rfl, ho, hbk⟩ := hrel
            have hsz := hbk.size
            have hso := Sh.rounds_ok W hok k
            rw [hst] at hso
            obtain ⟨ha, hbb, hcc, hd, he, hf, hg, hh⟩ := hso
            simp only [] at ha hbb hcc hd he hf hg hh
            by_cases hlt : k < 64
            · have HX := Lib.hid (show Sh.rounds W S0 (k + 1) = Sh.St.step ⟨a, b1, c1, d, e, f, g1, h⟩ (Sh.K.getD k 0) (W.getD k 0) by rw [Sh.rounds, hst])
              unfold Sh.St.step Sh.St.t Sh.St.u Sh.sumE Sh.sumA Sh.chs Sh.maj at HX
              simp only [] at HX
              have T1' : ∀ w, Calls Tryd.prog 67 #[.int .u32 (e : Int), .int .u64 6] w fun r w' => r = .returned (.int .u32 (Sh.turn e 6 : Int)) ∧ w = w' := fun w => turn_any e 6 w he (by decide)
              have T1 := Lib.hid T1'
              clear T1'
              have T2' : ∀ w, Calls Tryd.prog 67 #[.int .u32 (e : Int), .int .u64 11] w fun r w' => r = .returned (.int .u32 (Sh.turn e 11 : Int)) ∧ w = w' := fun w => turn_any e 11 w he (by decide)
              have T2 := Lib.hid T2'
              clear T2'
              have T3' : ∀ w, Calls Tryd.prog 67 #[.int .u32 (e : Int), .int .u64 25] w fun r w' => r = .returned (.int .u32 (Sh.turn e 25 : Int)) ∧ w = w' := fun w => turn_any e 25 w he (by decide)
              have T3 := Lib.hid T3'
              clear T3'
              have T4' : ∀ w, Calls Tryd.prog 67 #[.int .u32 (a : Int), .int .u64 2] w fun r w' => r = .returned (.int .u32 (Sh.turn a 2 : Int)) ∧ w = w' := fun w => turn_any a 2 w ha (by decide)
              have T4 := Lib.hid T4'
              clear T4'
              have T5' : ∀ w, Calls Tryd.prog 67 #[.int .u32 (a : Int), .int .u64 13] w fun r w' => r = .returned (.int .u32 (Sh.turn a 13 : Int)) ∧ w = w' := fun w => turn_any a 13 w ha (by decide)
              have T5 := Lib.hid T5'
              clear T5'
              have T6' : ∀ w, Calls Tryd.prog 67 #[.int .u32 (a : Int), .int .u64 22] w fun r w' => r = .returned (.int .u32 (Sh.turn a 22 : Int)) ∧ w = w' := fun w => turn_any a 22 w ha (by decide)
              have T6 := Lib.hid T6'
              clear T6'
              have o1 := Sh.turn_lt 2 ha
              have o2 := Sh.turn_lt 13 ha
              have o3 := Sh.turn_lt 22 ha
              have cw := own_word ho (j := k) hlt
              have hgw := World.block_lt_of_cell? _ _ cw
              have m1 := Sh.turn_lt 6 he
              have m2 := Sh.turn_lt 11 he
              have m3 := Sh.turn_lt 25 he
              have bw := hww.at k
              generalize W.getD k 0 = wk at *
              generalize Sh.turn e 6 = u1 at *
              generalize Sh.turn e 11 = u2 at *
              generalize Sh.turn e 25 = u3 at *
              have q1 := u32_xor_nat u1 u2 m1 m2
              have m4 := Sh.xor_lt m1 m2
              generalize u1 ^^^ u2 = u4 at *
              have q2 := u32_xor_nat u4 u3 m4 m3
              generalize u4 ^^^ u3 = u5 at *
              have v1 := add_wrap h u5
              have En1 := Lib.hid (show Sh.add h u5 = (h + u5) % 4294967296 from rfl)
              generalize Sh.add h u5 = n1 at *
              have q3 := u32_and_nat e f he hf
              have m5 : e &&& f < 4294967296 := Sh.and_lt hf
              generalize e &&& f = p1 at *
              have q4 := not_u32 he
              have m6 : 4294967295 - e < 4294967296 := by omega
              generalize 4294967295 - e = p2 at *
              have q5 := u32_and_nat p2 g1 m6 hg
              have m7 : p2 &&& g1 < 4294967296 := Sh.and_lt hg
              generalize p2 &&& g1 = p3 at *
              have q6 := u32_xor_nat p1 p3 m5 m7
              generalize p1 ^^^ p3 = p4 at *
              have v2 := add_wrap n1 p4
              have En2 := Lib.hid (show Sh.add n1 p4 = (n1 + p4) % 4294967296 from rfl)
              generalize Sh.add n1 p4 = n2 at *
              have v3 := add_wrap n2 (Sh.K.getD k 0)
              have TW := Lib.hid (fun (s : ByteArray) (w : World) (hs : (List.range 64).map (fun i => Sh.wordOf 0 ((s.data.toList.drop (8 * i)).take 8)) = Sh.K) (hz : s.size = 8 * 64) => word_K s Sh.K 64 k w hs hz (by decide) hlt)
              generalize Sh.K.getD k 0 = kk at *
              have En3 := Lib.hid (show Sh.add n2 kk = (n2 + kk) % 4294967296 from rfl)
              generalize Sh.add n2 kk = n3 at *
              have v4 := add_wrap n3 wk
              have En4 := Lib.hid (show Sh.add n3 wk = (n3 + wk) % 4294967296 from rfl)
              generalize Sh.add n3 wk = n4 at *
              generalize Sh.turn a 2 = t1 at *
              generalize Sh.turn a 13 = t2 at *
              generalize Sh.turn a 22 = t3 at *
              have x1 := u32_xor_nat t1 t2 o1 o2
              have o4 := Sh.xor_lt o1 o2
              generalize t1 ^^^ t2 = t4 at *
              have x2 := u32_xor_nat t4 t3 o4 o3
              generalize t4 ^^^ t3 = t5 at *
              have x3 := u32_and_nat a b1 ha hbb
              have o5 : a &&& b1 < 4294967296 := Sh.and_lt hbb
              generalize a &&& b1 = t6 at *
              have x4 := u32_and_nat a c1 ha hcc
              have o6 : a &&& c1 < 4294967296 := Sh.and_lt hcc
              generalize a &&& c1 = t7 at *
              have x5 := u32_xor_nat t6 t7 o5 o6
              have o7 := Sh.xor_lt o5 o6
              generalize t6 ^^^ t7 = t8 at *
              have x6 := u32_and_nat b1 c1 hbb hcc
              have o8 : b1 &&& c1 < 4294967296 := Sh.and_lt hcc
              generalize b1 &&& c1 = t9 at *
              have x7 := u32_xor_nat t8 t9 o7 o8
              generalize t8 ^^^ t9 = t10 at *
              have x8 := add_wrap t5 t10
              have Et11 := Lib.hid (show Sh.add t5 t10 = (t5 + t10) % 4294967296 from rfl)
              generalize Sh.add t5 t10 = t11 at *
              have x9 := add_wrap d n4
              have Ed2 := Lib.hid (show Sh.add d n4 = (d + n4) % 4294967296 from rfl)
              generalize Sh.add d n4 = d2 at *
              have x10 := add_wrap n4 t11
              have Ea2 := Lib.hid (show Sh.add n4 t11 = (n4 + t11) % 4294967296 from rfl)
              generalize Sh.add n4 t11 = a2 at *
              have hkc := fun u : Grw wr => (u.prop.cell (p := ⟨g, k, none⟩) hgw).trans cw
              clear hst
              go_wp2_with fail
              refine wp_region_grow (by kernel_rfl) (by kernel_rfl) ?_
              go_big_quiet_step (fail)
              go_big_quiet_step (fail)
              go_big_quiet_step ((go_at_call 67; exact grow_same (T1.out _)))
              go_big_quiet_step (fail)
              go_big_quiet_step ((go_at_call 67; exact grow_same (T2.out _)))
              go_big_quiet_step (fail)
              go_big_quiet_step (fail)
              go_big_quiet_step ((go_at_call 67; exact grow_same (T3.out _)))
              go_big_quiet_step (fail)
              go_big_quiet_step (fail)
              go_big_quiet_step (fail)
              go_big_quiet_step (fail)
              go_big_quiet_step (fail)
              go_big_quiet_step (fail)
              go_big_quiet_step (fail)
              go_big_quiet_step (fail)
              go_big_quiet_step (fail)
              go_big_quiet_step (fail)
              go_big_quiet_step (fail)
              go_big_quiet_step (fail)
              go_big_quiet_step ((go_at_call 44; exact grow_same (TW.out _ _ (by kernel_rfl) (by kernel_rfl))))
              go_big_quiet_step (fail)
              go_big_quiet_step (fail)
              go_big_quiet_step (fail)
              go_big_quiet_step (fail)
              go_big_quiet_step (fail)
              go_big_quiet_step (fail)
              go_big_quiet_step (fail)
              refine wpQuiet_nil ?_
              first | (intro _ hw'; obtain ⟨u, hw''⟩ := hw'; subst hw'') | intro u
              have hb7 := hbk.trans (u.prop.mono hsz)
              have ho7 := own_below ho u.prop
              clear hkc
              generalize u.val = w7 at *
              go_wp2_with fail
              refine (T4.out _).mono ?_; rintro e' w' ⟨rfl, rfl⟩
              go_wp2_with fail
              refine (T5.out _).mono ?_; rintro e' w' ⟨rfl, rfl⟩
              go_wp2_with fail
              refine (T6.out _).mono ?_; rintro e' w' ⟨rfl, rfl⟩
              go_wp2_with fail
              go_roundw
              case rel =>
                refine ⟨_, _, _, _, _, _, _, _, _, _, _, _, _, _, _, _, _, _, _, _, _, _, _, _, _, _, _, _, _, _, _, _, _, _, _, _, _, _, _, _, _, _, _, _, _, _, _, _, _, _, _, _, _, _, _, _, _, _, _, _, _, _, _, _, _, _, _, _, _, _, _, _, _, _, ?_, rfl⟩
                have y1 := En1.out; have y2 := En2.out; have y3 := En3.out; have y4 := En4.out; have y5 := Et11.out; have y6 := Ed2.out; have y7 := Ea2.out
                exact ⟨k + 1, a2, a, b1, c1, d2, e, f, g1, by omega, HX.out, congrArg (Value.int .u32) (by omega), rfl, rfl, rfl, congrArg (Value.int .u32) (by omega), rfl, rfl, rfl, by go_num, ho7, hb7⟩
              case measure => simp [intOf]; omega
            · obtain rfl : k = 64 := by omega
              have HM := HMIX.out
              rw [hst] at HM
              unfold Sh.St.onto at HM
              simp only [] at HM
              have v0 := add_wrap S0.a a
              generalize Sh.add S0.a a = z0 at *
              have v1 := add_wrap S0.b b1
              generalize Sh.add S0.b b1 = z1 at *
              have v2 := add_wrap S0.c c1
              generalize Sh.add S0.c c1 = z2 at *
              have v3 := add_wrap S0.d d
              generalize Sh.add S0.d d = z3 at *
              have v4 := add_wrap S0.e e
              generalize Sh.add S0.e e = z4 at *
              have v5 := add_wrap S0.f f
              generalize Sh.add S0.f f = z5 at *
              have v6 := add_wrap S0.g g1
              generalize Sh.add S0.g g1 = z6 at *
              have v7 := add_wrap S0.h h
              generalize Sh.add S0.h h = z7 at *
              have HMM := Lib.hid HM
              have HH := Lib.hid (fun (w' : World) (hb : Below wr.heap.size wr w') => HC.out w' (hbk.trans (hb.mono hsz)))
              have hd : Below wr.heap.size wr wr.drew := (Below.refl _ _).drew
              clear hst hlt hk HM HMIX
              go_wp2_with fail
              refine wp_region_any (by kernel_rfl) ?_
              change wpAny _ _ _ _ _ _ _ (World.drew _)
              refine wpAny_of_held (S := (fun w' => w'.cell? sa = some (.int .u32 (S0.a : Int)) ∧ w'.cell? ⟨sa.block, sa.off + 1, none⟩ = some (.int .u32 (S0.b : Int)) ∧ w'.cell? ⟨sa.block, sa.off + 2, none⟩ = some (.int .u32 (S0.c : Int)) ∧ w'.cell? ⟨sa.block, sa.off + 3, none⟩ = some (.int .u32 (S0.d : Int)) ∧ w'.cell? ⟨sa.block, sa.off + 4, none⟩ = some (.int .u32 (S0.e : Int)) ∧ w'.cell? ⟨sa.block, sa.off + 5, none⟩ = some (.int .u32 (S0.f : Int)) ∧ w'.cell? ⟨sa.block, sa.off + 6, none⟩ = some (.int .u32 (S0.g : Int)) ∧ w'.cell? ⟨sa.block, sa.off + 7, none⟩ = some (.int .u32 (S0.h : Int)))) _ _ _ _ ?_
              refine wpAnyH_take (i := 0) (v := ?_) rfl (by kernel_rfl) (by kernel_rfl) (by kernel_rfl) (fun _ _ _ h => h) (Or.inl ⟨by rfl, ?_⟩) (HH.out _ hd) ?_
              rotate_left
              · intro wq hS
                have hS' := hS
                try simp only [] at hS'
                go_simp; try with_reducible rfl
              change wpAnyH _ _ _ _ _ _ _ (Act.put _ _ _) _
              refine wpAnyH_take (i := 1) (v := ?_) rfl (by kernel_rfl) (by kernel_rfl) (by kernel_rfl) (fun _ _ _ h => h) (Or.inl ⟨by rfl, ?_⟩) (HH.out _ hd) ?_
              rotate_left
              · intro wq hS
                have hS' := hS
                try simp only [] at hS'
                go_simp; try with_reducible rfl
              change wpAnyH _ _ _ _ _ _ _ (Act.put _ _ _) _
              refine wpAnyH_take (i := 2) (v := ?_) rfl (by kernel_rfl) (by kernel_rfl) (by kernel_rfl) (fun _ _ _ h => h) (Or.inl ⟨by rfl, ?_⟩) (HH.out _ hd) ?_
              rotate_left
              · intro wq hS
                have hS' := hS
                try simp only [] at hS'
                go_simp; try with_reducible rfl
              change wpAnyH _ _ _ _ _ _ _ (Act.put _ _ _) _
              refine wpAnyH_take (i := 3) (v := ?_) rfl (by kernel_rfl) (by kernel_rfl) (by kernel_rfl) (fun _ _ _ h => h) (Or.inl ⟨by rfl, ?_⟩) (HH.out _ hd) ?_
              rotate_left
              · intro wq hS
                have hS' := hS
                try simp only [] at hS'
                go_simp; try with_reducible rfl
              change wpAnyH _ _ _ _ _ _ _ (Act.put _ _ _) _
              refine wpAnyH_take (i := 4) (v := ?_) rfl (by kernel_rfl) (by kernel_rfl) (by kernel_rfl) (fun _ _ _ h => h) (Or.inl ⟨by rfl, ?_⟩) (HH.out _ hd) ?_
              rotate_left
              · intro wq hS
                have hS' := hS
                try simp only [] at hS'
                go_simp; try with_reducible rfl
              change wpAnyH _ _ _ _ _ _ _ (Act.put _ _ _) _
              refine wpAnyH_take (i := 5) (v := ?_) rfl (by kernel_rfl) (by kernel_rfl) (by kernel_rfl) (fun _ _ _ h => h) (Or.inl ⟨by rfl, ?_⟩) (HH.out _ hd) ?_
              rotate_left
              · intro wq hS
                have hS' := hS
                try simp only [] at hS'
                go_simp; try with_reducible rfl
              change wpAnyH _ _ _ _ _ _ _ (Act.put _ _ _) _
              refine wpAnyH_take (i := 6) (v := ?_) rfl (by kernel_rfl) (by kernel_rfl) (by kernel_rfl) (fun _ _ _ h => h) (Or.inl ⟨by rfl, ?_⟩) (HH.out _ hd) ?_
              rotate_left
              · intro wq hS
                have hS' := hS
                try simp only [] at hS'
                go_simp; try with_reducible rfl
              change wpAnyH _ _ _ _ _ _ _ (Act.put _ _ _) _
              refine wpAnyH_take (i := 7) (v := ?_) rfl (by kernel_rfl) (by kernel_rfl) (by kernel_rfl) (fun _ _ _ h => h) (Or.inl ⟨by rfl, ?_⟩) (HH.out _ hd) ?_
              rotate_left
              · intro wq hS
                have hS' := hS
                try simp only [] at hS'
                go_simp; try with_reducible rfl
              change wpAnyH _ _ _ _ _ _ _ (Act.put _ _ _) _
              refine wpAnyH_take (i := 8) (v := ?_) rfl (by kernel_rfl) (by kernel_rfl) (by kernel_rfl) (fun _ _ _ h => h) (Or.inl ⟨by rfl, ?_⟩) (HH.out _ hd) ?_
              rotate_left
              · intro wq hS
                have hS' := hS
                try simp only [] at hS'
                go_simp; try with_reducible rfl
              change wpAnyH _ _ _ _ _ _ _ (Act.put _ _ _) _
              refine wpAnyH_take (i := 9) (v := ?_) rfl (by kernel_rfl) (by kernel_rfl) (by kernel_rfl) (fun _ _ _ h => h) (Or.inl ⟨by rfl, ?_⟩) (HH.out _ hd) ?_
              rotate_left
              · intro wq hS
                have hS' := hS
                try simp only [] at hS'
                go_simp; try with_reducible rfl
              change wpAnyH _ _ _ _ _ _ _ (Act.put _ _ _) _
              go_simp
              refine wpAnyH_take (i := 10) (v := ?_) rfl (by kernel_rfl) (by kernel_rfl) (by kernel_rfl) (fun _ _ _ h => h) (Or.inl ⟨by rfl, ?_⟩) (HH.out _ hd) ?_
              rotate_left
              · intro wq hS
                have hS' := hS
                try simp only [] at hS'
                go_simp; try with_reducible rfl
              change wpAnyH _ _ _ _ _ _ _ (Act.put _ _ _) _
              refine wpAnyH_take (i := 11) (v := ?_) rfl (by kernel_rfl) (by kernel_rfl) (by kernel_rfl) (fun _ _ _ h => h) (Or.inl ⟨by rfl, ?_⟩) (HH.out _ hd) ?_
              rotate_left
              · intro wq hS
                have hS' := hS
                try simp only [] at hS'
                go_simp; try with_reducible rfl
              change wpAnyH _ _ _ _ _ _ _ (Act.put _ _ _) _
              refine wpAnyH_take (i := 12) (v := ?_) rfl (by kernel_rfl) (by kernel_rfl) (by kernel_rfl) (fun _ _ _ h => h) (Or.inl ⟨by rfl, ?_⟩) (HH.out _ hd) ?_
              rotate_left
              · intro wq hS
                have hS' := hS
                try simp only [] at hS'
                go_simp; try with_reducible rfl
              change wpAnyH _ _ _ _ _ _ _ (Act.put _ _ _) _
              refine wpAnyH_take (i := 13) (v := ?_) rfl (by kernel_rfl) (by kernel_rfl) (by kernel_rfl) (fun _ _ _ h => h) (Or.inl ⟨by rfl, ?_⟩) (HH.out _ hd) ?_
              rotate_left
              · intro wq hS
                have hS' := hS
                try simp only [] at hS'
                go_simp; try with_reducible rfl
              change wpAnyH _ _ _ _ _ _ _ (Act.put _ _ _) _
              refine wpAnyH_take (i := 14) (v := ?_) rfl (by kernel_rfl) (by kernel_rfl) (by kernel_rfl) (fun _ _ _ h => h) (Or.inl ⟨by rfl, ?_⟩) (HH.out _ hd) ?_
              rotate_left
              · intro wq hS
                have hS' := hS
                try simp only [] at hS'
                go_simp; try with_reducible rfl
              change wpAnyH _ _ _ _ _ _ _ (Act.put _ _ _) _
              refine wpAnyH_take (i := 15) (v := ?_) rfl (by kernel_rfl) (by kernel_rfl) (by kernel_rfl) (fun _ _ _ h => h) (Or.inl ⟨by rfl, ?_⟩) (HH.out _ hd) ?_
              rotate_left
              · intro wq hS
                have hS' := hS
                try simp only [] at hS'
                go_simp; try with_reducible rfl
              change wpAnyH _ _ _ _ _ _ _ (Act.put _ _ _) _
              refine wpAnyH_take (i := 16) (v := ?_) rfl (by kernel_rfl) (by kernel_rfl) (by kernel_rfl) (fun _ _ _ h => h) (Or.inl ⟨by rfl, ?_⟩) (HH.out _ hd) ?_
              rotate_left
              · intro wq hS
                have hS' := hS
                try simp only [] at hS'
                go_simp; try with_reducible rfl
              change wpAnyH _ _ _ _ _ _ _ (Act.put _ _ _) _
              refine wpAnyH_take (i := 17) (v := ?_) rfl (by kernel_rfl) (by kernel_rfl) (by kernel_rfl) (fun _ _ _ h => h) (Or.inl ⟨by rfl, ?_⟩) (HH.out _ hd) ?_
              rotate_left
              · intro wq hS
                have hS' := hS
                try simp only [] at hS'
                go_simp; try with_reducible rfl
              change wpAnyH _ _ _ _ _ _ _ (Act.put _ _ _) _
              refine wpAnyH_take (i := 18) (v := ?_) rfl (by kernel_rfl) (by kernel_rfl) (by kernel_rfl) (fun _ _ _ h => h) (Or.inl ⟨by rfl, ?_⟩) (HH.out _ hd) ?_
              rotate_left
              · intro wq hS
                have hS' := hS
                try simp only [] at hS'
                go_simp; try with_reducible rfl
              change wpAnyH _ _ _ _ _ _ _ (Act.put _ _ _) _
              refine wpAnyH_take (i := 19) (v := ?_) rfl (by kernel_rfl) (by kernel_rfl) (by kernel_rfl) (fun _ _ _ h => h) (Or.inl ⟨by rfl, ?_⟩) (HH.out _ hd) ?_
              rotate_left
              · intro wq hS
                have hS' := hS
                try simp only [] at hS'
                go_simp; try with_reducible rfl
              change wpAnyH _ _ _ _ _ _ _ (Act.put _ _ _) _
              go_simp
              refine wpAnyH_take (i := 20) (v := ?_) rfl (by kernel_rfl) (by kernel_rfl) (by kernel_rfl) (fun _ _ _ h => h) (Or.inl ⟨by rfl, ?_⟩) (HH.out _ hd) ?_
              rotate_left
              · intro wq hS
                have hS' := hS
                try simp only [] at hS'
                go_simp; try with_reducible rfl
              change wpAnyH _ _ _ _ _ _ _ (Act.put _ _ _) _
              refine wpAnyH_take (i := 21) (v := ?_) rfl (by kernel_rfl) (by kernel_rfl) (by kernel_rfl) (fun _ _ _ h => h) (Or.inl ⟨by rfl, ?_⟩) (HH.out _ hd) ?_
              rotate_left
              · intro wq hS
                have hS' := hS
                try simp only [] at hS'
                go_simp; try with_reducible rfl
              change wpAnyH _ _ _ _ _ _ _ (Act.put _ _ _) _
              refine wpAnyH_take (i := 22) (v := ?_) rfl (by kernel_rfl) (by kernel_rfl) (by kernel_rfl) (fun _ _ _ h => h) (Or.inl ⟨by rfl, ?_⟩) (HH.out _ hd) ?_
              rotate_left
              · intro wq hS
                have hS' := hS
                try simp only [] at hS'
                go_simp; try with_reducible rfl
              change wpAnyH _ _ _ _ _ _ _ (Act.put _ _ _) _
              refine wpAnyH_take (i := 23) (v := ?_) rfl (by kernel_rfl) (by kernel_rfl) (by kernel_rfl) (fun _ _ _ h => h) (Or.inl ⟨by rfl, ?_⟩) (HH.out _ hd) ?_
              rotate_left
              · intro wq hS
                have hS' := hS
                try simp only [] at hS'
                go_simp; try with_reducible rfl
              change wpAnyH _ _ _ _ _ _ _ (Act.put _ _ _) _
              refine wpAnyH_take (i := 24) (v := ?_) rfl (by kernel_rfl) (by kernel_rfl) (by kernel_rfl) (fun _ _ _ h => h) (Or.inl ⟨by rfl, ?_⟩) (HH.out _ hd) ?_
              rotate_left
              · intro wq hS
                have hS' := hS
                try simp only [] at hS'
                go_simp; try with_reducible rfl
              change wpAnyH _ _ _ _ _ _ _ (Act.put _ _ _) _
              refine wpAnyH_take (i := 25) (v := ?_) rfl (by kernel_rfl) (by kernel_rfl) (by kernel_rfl) (fun _ _ _ h => h) (Or.inl ⟨by rfl, ?_⟩) (HH.out _ hd) ?_
              rotate_left
              · intro wq hS
                have hS' := hS
                try simp only [] at hS'
                go_simp; try with_reducible rfl
              change wpAnyH _ _ _ _ _ _ _ (Act.put _ _ _) _
              refine wpAnyH_take (i := 26) (v := ?_) rfl (by kernel_rfl) (by kernel_rfl) (by kernel_rfl) (fun _ _ _ h => h) (Or.inl ⟨by rfl, ?_⟩) (HH.out _ hd) ?_
              rotate_left
              · intro wq hS
                have hS' := hS
                try simp only [] at hS'
                go_simp; try with_reducible rfl
              change wpAnyH _ _ _ _ _ _ _ (Act.put _ _ _) _
              refine wpAnyH_take (i := 27) (v := ?_) rfl (by kernel_rfl) (by kernel_rfl) (by kernel_rfl) (fun _ _ _ h => h) (Or.inl ⟨by rfl, ?_⟩) (HH.out _ hd) ?_
              rotate_left
              · intro wq hS
                have hS' := hS
                try simp only [] at hS'
                go_simp; try with_reducible rfl
              change wpAnyH _ _ _ _ _ _ _ (Act.put _ _ _) _
              refine wpAnyH_take (i := 28) (v := ?_) rfl (by kernel_rfl) (by kernel_rfl) (by kernel_rfl) (fun _ _ _ h => h) (Or.inl ⟨by rfl, ?_⟩) (HH.out _ hd) ?_
              rotate_left
              · intro wq hS
                have hS' := hS
                try simp only [] at hS'
                go_simp; try with_reducible rfl
              change wpAnyH _ _ _ _ _ _ _ (Act.put _ _ _) _
              refine wpAnyH_take (i := 29) (v := ?_) rfl (by kernel_rfl) (by kernel_rfl) (by kernel_rfl) (fun _ _ _ h => h) (Or.inl ⟨by rfl, ?_⟩) (HH.out _ hd) ?_
              rotate_left
              · intro wq hS
                have hS' := hS
                try simp only [] at hS'
                go_simp; try with_reducible rfl
              change wpAnyH _ _ _ _ _ _ _ (Act.put _ _ _) _
              go_simp
              refine wpAnyH_take (i := 30) (v := ?_) rfl (by kernel_rfl) (by kernel_rfl) (by kernel_rfl) (fun _ _ _ h => h) (Or.inl ⟨by rfl, ?_⟩) (HH.out _ hd) ?_
              rotate_left
              · intro wq hS
                have hS' := hS
                try simp only [] at hS'
                go_simp; try with_reducible rfl
              change wpAnyH _ _ _ _ _ _ _ (Act.put _ _ _) _
              refine wpAnyH_take (i := 31) (v := ?_) rfl (by kernel_rfl) (by kernel_rfl) (by kernel_rfl) (fun _ _ _ h => h) (Or.inl ⟨by rfl, ?_⟩) (HH.out _ hd) ?_
              rotate_left
              · intro wq hS
                have hS' := hS
                try simp only [] at hS'
                go_simp; try with_reducible rfl
              change wpAnyH _ _ _ _ _ _ _ (Act.put _ _ _) _
              refine wpAnyH_take (i := 32) (v := ?_) rfl (by kernel_rfl) (by kernel_rfl) (by kernel_rfl) (fun _ _ _ h => h) (Or.inl ⟨by rfl, ?_⟩) (HH.out _ hd) ?_
              rotate_left
              · intro wq hS
                have hS' := hS
                try simp only [] at hS'
                go_simp; try with_reducible rfl
              change wpAnyH _ _ _ _ _ _ _ (Act.put _ _ _) _
              refine wpAnyH_take (i := 33) (v := ?_) rfl (by kernel_rfl) (by kernel_rfl) (by kernel_rfl) (fun _ _ _ h => h) (Or.inl ⟨by rfl, ?_⟩) (HH.out _ hd) ?_
              rotate_left
              · intro wq hS
                have hS' := hS
                try simp only [] at hS'
                go_simp; try with_reducible rfl
              change wpAnyH _ _ _ _ _ _ _ (Act.put _ _ _) _
              refine wpAnyH_take (i := 34) (v := ?_) rfl (by kernel_rfl) (by kernel_rfl) (by kernel_rfl) (fun _ _ _ h => h) (Or.inl ⟨by rfl, ?_⟩) (HH.out _ hd) ?_
              rotate_left
              · intro wq hS
                have hS' := hS
                try simp only [] at hS'
                go_simp; try with_reducible rfl
              change wpAnyH _ _ _ _ _ _ _ (Act.put _ _ _) _
              refine wpAnyH_take (i := 35) (v := ?_) rfl (by kernel_rfl) (by kernel_rfl) (by kernel_rfl) (fun _ _ _ h => h) (Or.inl ⟨by rfl, ?_⟩) (HH.out _ hd) ?_
              rotate_left
              · intro wq hS
                have hS' := hS
                try simp only [] at hS'
                go_simp; try with_reducible rfl
              change wpAnyH _ _ _ _ _ _ _ (Act.put _ _ _) _
              refine wpAnyH_take (i := 36) (v := ?_) rfl (by kernel_rfl) (by kernel_rfl) (by kernel_rfl) (fun _ _ _ h => h) (Or.inl ⟨by rfl, ?_⟩) (HH.out _ hd) ?_
              rotate_left
              · intro wq hS
                have hS' := hS
                try simp only [] at hS'
                go_simp; try with_reducible rfl
              change wpAnyH _ _ _ _ _ _ _ (Act.put _ _ _) _
              refine wpAnyH_take (i := 37) (v := ?_) rfl (by kernel_rfl) (by kernel_rfl) (by kernel_rfl) (fun _ _ _ h => h) (Or.inl ⟨by rfl, ?_⟩) (HH.out _ hd) ?_
              rotate_left
              · intro wq hS
                have hS' := hS
                try simp only [] at hS'
                go_simp; try with_reducible rfl
              change wpAnyH _ _ _ _ _ _ _ (Act.put _ _ _) _
              refine wpAnyH_take (i := 38) (v := ?_) rfl (by kernel_rfl) (by kernel_rfl) (by kernel_rfl) (fun _ _ _ h => h) (Or.inl ⟨by rfl, ?_⟩) (HH.out _ hd) ?_
              rotate_left
              · intro wq hS
                have hS' := hS
                try simp only [] at hS'
                go_simp; try with_reducible rfl
              change wpAnyH _ _ _ _ _ _ _ (Act.put _ _ _) _
              refine wpAnyH_take (i := 39) (v := ?_) rfl (by kernel_rfl) (by kernel_rfl) (by kernel_rfl) (fun _ _ _ h => h) (Or.inl ⟨by rfl, ?_⟩) (HH.out _ hd) ?_
              rotate_left
              · intro wq hS
                have hS' := hS
                try simp only [] at hS'
                go_simp; try with_reducible rfl
              change wpAnyH _ _ _ _ _ _ _ (Act.put _ _ _) _
              go_simp
              refine held_one (i := 40) (by kernel_rfl) rfl (fun K hK => ?_)
              go_simp
              skip
              refine hK _ _ (HH.out _ (hd.alloc hd.size _)) ?_; clear hK K
              have hb9 : Below wr.heap.size wr ((wr.alloc (.cells #[.int .u32 (z0 : Int), .int .u32 (z1 : Int), .int .u32 (z2 : Int), .int .u32 (z3 : Int), .int .u32 (z4 : Int), .int .u32 (z5 : Int), .int .u32 (z6 : Int), .int .u32 (z7 : Int)] 79)).drew) := ((Below.refl _ _).alloc (Nat.le_refl _) _).drew
              have hr9 : Rd (wr.alloc (.cells #[.int .u32 (z0 : Int), .int .u32 (z1 : Int), .int .u32 (z2 : Int), .int .u32 (z3 : Int), .int .u32 (z4 : Int), .int .u32 (z5 : Int), .int .u32 (z6 : Int), .int .u32 (z7 : Int)] 79)).drew (wr.heap.size + 1) (some ⟨wr.heap.size, 0, none⟩) 8 (uv [z0, z1, z2, z3, z4, z5, z6, z7]) := (show Rd (wr.alloc (.cells #[.int .u32 (z0 : Int), .int .u32 (z1 : Int), .int .u32 (z2 : Int), .int .u32 (z3 : Int), .int .u32 (z4 : Int), .int .u32 (z5 : Int), .int .u32 (z6 : Int), .int .u32 (z7 : Int)] 79)) (wr.heap.size + 1) (some ⟨wr.heap.size, 0, none⟩) 8 (uv [z0, z1, z2, z3, z4, z5, z6, z7]) from ⟨rfl, fun _ => ⟨_, rfl, Nat.lt_succ_self _, World.news_of_block (heap_alloc_new wr _)⟩⟩).drew
              have hs9 : wr.heap.size + 1 ≤ (wr.alloc (.cells #[.int .u32 (z0 : Int), .int .u32 (z1 : Int), .int .u32 (z2 : Int), .int .u32 (z3 : Int), .int .u32 (z4 : Int), .int .u32 (z5 : Int), .int .u32 (z6 : Int), .int .u32 (z7 : Int)] 79)).drew.heap.size := by simp
              go_simp
              refine wpAnyH_grow (by kernel_rfl) (Picks.cons (i := 41) rfl <| Picks.nil _) (by kernel_rfl) rfl (fun u => HH.out _ (hb9.trans (u.prop.mono hb9.size))) ?_
              go_simp
              repeat (go_big_quiet_step (fail))
              refine wpQuiet_nil ?_
              first | (intro _ hw'; obtain ⟨u, hw''⟩ := hw'; subst hw'') | intro u
              have hu : Below _ _ u.val := u.prop
              have hrz := (hr9.below (hu.mono hs9)).more (Nat.le_trans hs9 hu.size)
              go_wp2_with fail
              go_ret
              have hfin : Below w.heap.size w u.val := hbk.trans ((hb9.trans (hu.mono hb9.size)).mono hsz)
              rw [HMM.out]
              exact ⟨_, 8, rfl, ⟨Nat.le_refl _, by decide⟩, hrz, hfin⟩
end Go.Proofs.YtjgegggcbjecbaaDoor

namespace Go.Proofs.YtjgegggcbjecbaaDoor
open Go Go.RowKit

section
variable {P : Program}
theorem dz_part_cell {e : TypeId} {kd : IntKind} (he : P.underlying e = some (.int kd)) (cs : Array Value) (k : Nat) (v : Value) (hv : cs[k]? = some v) (w : World) : (part e cs k).run P w = .ok v w := by
  have hag : (isAgg e).run P w = .ok false w := by
    unfold isAgg
    rw [Sem.run_bind, run_underlying he w]
    rfl
  simp [part, hag, hv]

theorem dz_run_eqItems_bytes (d : Nat) {e : TypeId} (he : P.underlying e = some (.int .u8)) (a b : List UInt8) (w : World) : ∀ (is : List Nat), (∀ i ∈ is, i < a.length ∧ i < b.length) →
    (Op.eqItems (d + 1) e 1 (bv a).toArray (bv b).toArray is).run P w = .ok (is.all fun i => a.getD i 0 == b.getD i 0) w
  | [], _ => by simp [Op.eqItems]
  | i :: is, h => by
    obtain ⟨h1, h2⟩ := h i (by simp)
    have p1 := dz_part_cell he (bv a).toArray (i * 1) _ (by rw [Nat.mul_one]; exact dz_bv_at a h1) w
    have p2 := dz_part_cell he (bv b).toArray (i * 1) _ (by rw [Nat.mul_one]; exact dz_bv_at b h2) w
    have heq := run_equalIn_int (P := P) w d e .u8 .u8 (Sh.byteAt a i : Int) (Sh.byteAt b i : Int) he
    have ih := dz_run_eqItems_bytes d he a b w is (fun j hj => h j (by simp [hj]))
    have hb : ((Sh.byteAt a i : Int) == (Sh.byteAt b i : Int)) = (a.getD i 0 == b.getD i 0) := by
      unfold Sh.byteAt
      rw [Bool.eq_iff_iff, beq_iff_eq, beq_iff_eq]
      exact ⟨fun hh => UInt8.toNat_inj.1 (by omega), fun hh => by rw [hh]⟩
    simp only [Op.eqItems, Sem.run_bind, p1, p2, heq, Result.andThen_ok, List.all_cons, hb]
    cases a.getD i 0 == b.getD i 0
    · simp
    · simp only [Bool.not_true, Bool.false_eq_true, if_false, Bool.true_and]
      exact ih

theorem dz_all_getD {a b : List UInt8} (h : a.length = b.length) : ((List.range a.length).all fun i => a.getD i 0 == b.getD i 0) = decide (a = b) := by
  rw [Bool.eq_iff_iff, List.all_eq_true, decide_eq_true_iff]
  constructor
  · intro hh
    apply List.ext_getElem h
    intro i h1 h2
    have := hh i (List.mem_range.2 h1)
    rw [beq_iff_eq, List.getD_eq_getElem?_getD, List.getD_eq_getElem?_getD, List.getElem?_eq_getElem h1, List.getElem?_eq_getElem h2] at this
    exact this
  · rintro rfl i _
    exact beq_self_eq_true _

theorem dz_run_equal_bytes {t e : TypeId} {n : Nat} (ht : P.underlying t = some (.array n e)) (he : P.underlying e = some (.int .u8)) (hi : (P.info? e).map (·.size) = some 1) {a b : List UInt8} (ha : a.length = n) (hb : b.length = n) (w : World) :
    (Op.equalIn 10000 t (.agg (bv a).toArray) (.agg (bv b).toArray)).run P w = .ok (decide (a = b)) w := by
  cases hq : P.info? e with
  | none => simp [hq] at hi
  | some i =>
    have hs : i.size = 1 := by simpa [hq] using hi
    have hc : P.cellsOf e = 1 := by simp [Program.cellsOf, hq, hs]
    rw [show (10000 : Nat) = 9998 + 1 + 1 from rfl, run_equalIn_array w (9998 + 1) _ _ ht hq, hc, dz_run_eqItems_bytes 9998 he a b w _ (fun i hi => by rw [List.mem_range] at hi; omega), ← ha, dz_all_getD (by omega)]
theorem dz_run_eql_bytes {t e : TypeId} {n : Nat} (ht : P.underlying t = some (.array n e)) (he : P.underlying e = some (.int .u8)) (hi : (P.info? e).map (·.size) = some 1) {a b : List UInt8} (ha : a.length = n) (hb : b.length = n) (w : World) :
    (binOp .eql t (.agg (bv a).toArray) (.agg (bv b).toArray)).run P w = .ok (.bool (decide (a = b))) w := by
  rw [run_eql_struct, dz_run_equal_bytes ht he hi ha hb]; rfl
theorem dz_run_neq_bytes {t e : TypeId} {n : Nat} (ht : P.underlying t = some (.array n e)) (he : P.underlying e = some (.int .u8)) (hi : (P.info? e).map (·.size) = some 1) {a b : List UInt8} (ha : a.length = n) (hb : b.length = n) (w : World) :
    (binOp .neq t (.agg (bv a).toArray) (.agg (bv b).toArray)).run P w = .ok (.bool (!decide (a = b))) w := by
  rw [run_neq_struct, dz_run_equal_bytes ht he hi ha hb]; rfl
end
end Go.Proofs.YtjgegggcbjecbaaDoor
