/- The contracts of Hex, the program's and the document's. -/
import Derived.Test.YtkgkllpecpcgjaaDoorLess
import Derived.Test.YtkgkllpecpcgjaaDoorHCx
namespace Go.Proofs.YtkgkllpecpcgjaaDoor
open Go Go.RowKit

/-- The sixteen digits. -/
theorem digs_at {n : Nat} (h : n < 16) : (⟨#[48, 49, 50, 51, 52, 53, 54, 55, 56, 57, 97, 98, 99, 100, 101, 102]⟩ : ByteArray)[n]? = some (Tx.hd n) := by
  have : ∀ n, n < 16 → (⟨#[48, 49, 50, 51, 52, 53, 54, 55, 56, 57, 97, 98, 99, 100, 101, 102]⟩ : ByteArray)[n]? = some (Tx.hd n) := by decide
  exact this n h
theorem run_index_str {P : Program} {t : TypeId} (ht : P.underlying t = some .string) (s : ByteArray) (kd : IntKind) (n : Nat) (x : UInt8) (hx : s[n]? = some x) (w : World) :
    (Instr.index t (.string s) (.int kd (n : Int))).run P w = .ok (.int .u8 (x.toNat : Int)) w := by
  simp [Instr.index, asIntOf, run_underlying ht, hx]

set_option maxRecDepth 100000 in
set_option maxHeartbeats 4000000 in
theorem phex_any (d : List UInt8) (w : World) (hd : d.length = 32) :
    Calls Tryd.prog 15 #[.agg (bv d).toArray] w fun e w' => e = .returned (.string (sB (Tx.hex d))) ∧ Below w.heap.size w w' := by
  obtain ⟨i0, hi, hz0, hz1, hz2⟩ := info_parts infoU8
  have hs := (bv_size d).trans hd
  have HS := Lib.hid hs
  have HD := Lib.hid hd
  have HAT := Lib.hid (fun (p : Nat) (h : p < 32) => bv_at d (p := p) (by rw [hd]; exact h))
  clear hd hs
  obtain ⟨X, hX⟩ : ∃ X, X = (bv d).toArray := ⟨_, rfl⟩
  rw [← hX] at HAT HS ⊢
  clear hX
  have hX0 : Blk (w.alloc (.cells X 24)) w.heap.size 24 X := Blk.new w _ _
  have hW0 : Below w.heap.size w (w.alloc (.cells X 24)) := (Below.refl _ _).alloc (Nat.le_refl _) _
  go_enter Tryd.func15, Tryd.ntmps15
  have hmk : ∀ W : World, (Instr.makeSlice 22 (.int .i64 0) (.int .i64 64)).run Tryd.prog W = .ok (.slice (some ⟨W.heap.size, 0, none⟩) 0 64) (W.alloc (.cells (bz [] 64) 5)) := fun _ => by kernel_rfl
  go_wp2_with (refine at_lod 24 (.tmp 1) rfl ?_; go_must (refine wpList_load_row rfl 24 (.tmp 1) rfl _ rfl _ _ _ _ (hX0.alloc _) Tryd.underlying24 rfl (by rw [HS.out]; exact infoD32) ?_))
  have hsz : w.heap.size < (w.alloc (.cells X 24)).heap.size := by simp
  have ho := World.ownsRow_made (base := w.heap.size) (e := 5) (size := 1) (w.alloc (.cells X 24)) (bz [] 64) 64 hW0.size (by unfold maxLen; omega) (by rw [bz_size (by decide)])
  have hB1 := hW0.alloc hW0.size (.cells (bz [] 64) 5)
  rw [World.size_alloc] at ho
  go_loopw [3, 8] (fun v i wr => ∃ k : Nat, k ≤ 32 ∧ i = .int .i64 (k : Int) ∧ wr.ownsRow w.heap.size 5 1 v (2 * k) (bv (Tx.hex (d.take k))) ∧ Below w.heap.size w wr) (fun _ i _ => 32 - (intOf i).toNat)
  case atStart => exact ⟨0, Nat.zero_le _, rfl, ho, hB1⟩
  case round =>
    obtain ⟨k, hk, rfl, ho, hb⟩ := hrel
    by_cases hlt : k < 32
    · have hx := HAT.out k hlt
      have hix := fun w : World => run_index_agg (P := Tryd.prog) Tryd.underlying24 Tryd.underlying5 (by kernel_rfl) X k _ hlt hx w
      have hxl := Sh.byteAt_lt d k
      have hst : Tx.hex (d.take (k + 1)) = Tx.hex (d.take k) ++ [Tx.hd (Sh.byteAt d k / 16), Tx.hd (Sh.byteAt d k % 16)] := by
        rw [List.take_succ_eq_append_getElem (by rw [HD.out]; exact hlt), Tx.hex_snoc]
        unfold Sh.byteAt
        rw [List.getD_eq_getElem?_getD, List.getElem?_eq_getElem (by rw [HD.out]; exact hlt)]
        rfl
      have HST := Lib.hid hst
      clear hst hx
      generalize Sh.byteAt d k = x at *
      have hq1 : (x : Int) / 16 = ((x / 16 : Nat) : Int) := by omega
      have hq2 : bits .and .u8 (x : Int) 15 = ((x % 16 : Nat) : Int) := by
        rw [show (15 : Int) = ((15 : Nat) : Int) from rfl, u8_and_nat _ _ hxl (by decide), show (15 : Nat) = 2 ^ 4 - 1 from rfl, Nat.and_two_pow_sub_one_eq_mod]
      have hi1 := run_index_str (P := Tryd.prog) Tryd.underlying9 _ .u8 (x / 16) _ (digs_at (n := x / 16) (by omega))
      have hi2 := run_index_str (P := Tryd.prog) Tryd.underlying9 _ .u8 (x % 16) _ (digs_at (n := x % 16) (by omega))
      generalize Tx.hd (x / 16) = y1 at *
      generalize Tx.hd (x % 16) = y2 at *
      generalize x / 16 = m1 at *
      generalize x % 16 = m2 at *
      go_wp2_with fail
      have hbd := hb.drew
      have hod := ho.drew
      refine wp_region_any (by kernel_rfl) ?_
      change wpAny _ _ _ _ _ _ _ (World.drew _)
      refine wpAny_of_held (S := (fun _ => True)) _ _ _ _ ?_
      refine wpAnyH_take (i := 0) (v := ?_) rfl (by kernel_rfl) (by kernel_rfl) (by kernel_rfl) (fun _ _ _ h => h) (Or.inl ⟨by rfl, ?_⟩) (trivial) ?_
      rotate_left
      · intro wq hS
        have hS' := hS
        try simp only [] at hS'
        go_simp; try with_reducible rfl
      change wpAnyH _ _ _ _ _ _ _ (Act.put _ _ _) _
      refine wpAnyH_take (i := 1) (v := ?_) rfl (by kernel_rfl) (by kernel_rfl) (by kernel_rfl) (fun _ _ _ h => h) (Or.inl ⟨by rfl, ?_⟩) (trivial) ?_
      rotate_left
      · intro wq hS
        have hS' := hS
        try simp only [] at hS'
        go_simp; try with_reducible rfl
      change wpAnyH _ _ _ _ _ _ _ (Act.put _ _ _) _
      refine wpAnyH_take (i := 2) (v := ?_) rfl (by kernel_rfl) (by kernel_rfl) (by kernel_rfl) (fun _ _ _ h => h) (Or.inl ⟨by rfl, ?_⟩) (trivial) ?_
      rotate_left
      · intro wq hS
        have hS' := hS
        try simp only [] at hS'
        go_simp; try with_reducible rfl
      change wpAnyH _ _ _ _ _ _ _ (Act.put _ _ _) _
      refine wpAnyH_take (i := 3) (v := ?_) rfl (by kernel_rfl) (by kernel_rfl) (by kernel_rfl) (fun _ _ _ h => h) (Or.inl ⟨by rfl, ?_⟩) (trivial) ?_
      rotate_left
      · intro wq hS
        have hS' := hS
        try simp only [] at hS'
        go_simp; try with_reducible rfl
      change wpAnyH _ _ _ _ _ _ _ (Act.put _ _ _) _
      refine wpAnyH_take (i := 4) (v := ?_) rfl (by kernel_rfl) (by kernel_rfl) (by kernel_rfl) (fun _ _ _ h => h) (Or.inl ⟨by rfl, ?_⟩) (trivial) ?_
      rotate_left
      · intro wq hS
        have hS' := hS
        try simp only [] at hS'
        go_simp; try with_reducible rfl
      change wpAnyH _ _ _ _ _ _ _ (Act.put _ _ _) _
      refine wpAnyH_take (i := 5) (v := ?_) rfl (by kernel_rfl) (by kernel_rfl) (by kernel_rfl) (fun _ _ _ h => h) (Or.inl ⟨by rfl, ?_⟩) (trivial) ?_
      rotate_left
      · intro wq hS
        have hS' := hS
        try simp only [] at hS'
        go_simp; try with_reducible rfl
      change wpAnyH _ _ _ _ _ _ _ (Act.put _ _ _) _
      refine wpAnyH_take (i := 6) (v := ?_) rfl (by kernel_rfl) (by kernel_rfl) (by kernel_rfl) (fun _ _ _ h => h) (Or.inl ⟨by rfl, ?_⟩) (trivial) ?_
      rotate_left
      · intro wq hS
        have hS' := hS
        try simp only [] at hS'
        go_simp; try with_reducible rfl
      change wpAnyH _ _ _ _ _ _ _ (Act.put _ _ _) _
      go_simp
      generalize World.drew wr = wd at *
      refine held_one (i := 7) (by kernel_rfl) rfl (fun K hK => ?_)
      go_simp
      skip
      refine hK _ _ (trivial) ?_; clear hK K
      go_simp
      refine held_app (i := 8) (by kernel_rfl) rfl rfl (.tmp 11) (.tmp 18) 22 22 rfl w.heap.size 5 i0 _ 1 Tryd.underlying22 hi hz0 hz1 hz2 rfl _ (2 * k) (bv (Tx.hex (d.take k))) rfl (hod.alloc _) _ 2 (bv [y1, y2]) rfl (new_src Tryd.underlying22 wd (bv [y1, y2]) 2 2 5 (0, 0) rfl (bv_one _)) (by unfold maxLen; omega) (by omega) (by have := hbd.size; simp; omega) ?_
      intro v3 w3 ho3 hb3 _
      refine ⟨trivial, ?_⟩
      rw [← bv_append, ← HST.out] at ho3
      go_simp
      refine wpAnyH_grow (by kernel_rfl) (Picks.cons (i := 9) rfl <| Picks.nil _) (by kernel_rfl) rfl (fun _ => trivial) ?_
      go_simp
      repeat (go_big_quiet_step (fail))
      refine wpQuiet_nil ?_
      first | (intro _ hw'; obtain ⟨u, hw''⟩ := hw'; subst hw'') | intro u
      have hu : Below w3.heap.size w3 u.val := u.prop
      go_wp2_with fail
      go_roundw
      case rel => exact ⟨k + 1, by omega, by go_num, by rw [show 2 * (k + 1) = 2 * k + 2 by omega]; exact own_below ho3 hu, ((hbd.alloc hbd.size _).trans hb3).trans (hu.mono ((hbd.alloc hbd.size _).trans hb3).size)⟩
      case measure => simp [intOf]; omega
    · obtain rfl : k = 32 := by omega
      rw [List.take_of_length_le (by rw [HD.out]; omega)] at ho
      obtain ⟨A, c, rfl, -, -, -⟩ := own_form ho
      have hcv := Rd.str (P := Tryd.prog) (src := 22) (dst := 9) (Rd.of_own ho) c Tryd.underlying22 Tryd.underlying5 Tryd.underlying9
      clear hlt hk
      go_wp2_with fail
      go_ret
      exact ⟨rfl, hb⟩

theorem digs_slice : ∀ n, n < 16 → (⟨#[48, 49, 50, 51, 52, 53, 54, 55, 56, 57, 97, 98, 99, 100, 101, 102]⟩ : ByteArray).extract n (n + 1) = sB [Tx.hd n] := by decide +kernel
theorem run_slice_digs {P : Program} {t : TypeId} (ht : P.underlying t = some .string) {n : Nat} (h : n < 16) (w : World) :
    (Instr.slice t (.string ⟨#[48, 49, 50, 51, 52, 53, 54, 55, 56, 57, 97, 98, 99, 100, 101, 102]⟩) (some (.int .i64 (n : Int))) (some (.int .i64 ((n : Int) + 1))) none).run P w = .ok (.string (sB [Tx.hd n])) w := by
  have h2 : (n : Int) + 1 ≤ 16 := by omega
  have h3 : ((n : Int) + 1).toNat = n + 1 := by omega
  rw [← digs_slice n h, run_slice_string (P := P) (w := w) t _ .i64 .i64 (n : Int) ((n : Int) + 1) ht (by omega) (by omega) (by
    rw [show (⟨#[48, 49, 50, 51, 52, 53, 54, 55, 56, 57, 97, 98, 99, 100, 101, 102]⟩ : ByteArray).size = 16 from rfl]; exact h2), h3, Int.toNat_natCast]

set_option maxRecDepth 100000 in
set_option maxHeartbeats 4000000 in
theorem rhex_any (d : List UInt8) (w : World) (hd : d.length = 32) :
    Calls Tryd.prog 18 #[.agg (bv d).toArray] w fun e w' => e = .returned (.string (sB (Tx.hex d))) ∧ Below w.heap.size w w' := by
  have HD := Lib.hid hd
  have HAT := Lib.hid (fun (p : Nat) (h : p < 32) => bv_at d (p := p) (by rw [hd]; exact h))
  clear hd
  obtain ⟨X, hX⟩ : ∃ X, X = (bv d).toArray := ⟨_, rfl⟩
  rw [← hX] at HAT ⊢
  clear hX
  have hX0 : Blk (w.alloc (.cells X 24)) w.heap.size 24 X := Blk.new w _ _
  have hW0 : Below w.heap.size w (w.alloc (.cells X 24)) := (Below.refl _ _).alloc (Nat.le_refl _) _
  go_enter Tryd.func18, Tryd.ntmps18
  go_wp2_with fail
  go_loopw [3, 4] (fun v i wr => ∃ k : Nat, k ≤ 32 ∧ i = .int .i64 (k : Int) ∧ v = .string (sB (Tx.hex (d.take k))) ∧ Blk wr w.heap.size 24 X ∧ Below w.heap.size w wr) (fun _ i _ => 32 - (intOf i).toNat)
  case atStart => exact ⟨0, Nat.zero_le _, rfl, rfl, hX0, hW0⟩
  case round =>
    obtain ⟨k, hk, rfl, rfl, hX, hb⟩ := hrel
    by_cases hlt : k < 32
    · have hx := (hX.cell k).trans (HAT.out k hlt)
      have hkI : (k : Int) < 32 := by omega
      have hxl := Sh.byteAt_lt d k
      have hst : Tx.hex (d.take (k + 1)) = (Tx.hex (d.take k) ++ [Tx.hd (Sh.byteAt d k / 16)]) ++ [Tx.hd (Sh.byteAt d k % 16)] := by
        rw [List.take_succ_eq_append_getElem (by rw [HD.out]; exact hlt), Tx.hex_snoc]
        unfold Sh.byteAt
        rw [List.getD_eq_getElem?_getD, List.getElem?_eq_getElem (by rw [HD.out]; exact hlt)]
        simp
      have HST := Lib.hid hst
      have hlen : (Tx.hex (d.take k)).length ≤ 64 := by rw [Tx.hex_length, List.length_take]; omega
      clear hst
      generalize Sh.byteAt d k = x at *
      have hxi : IntKind.i64.wrap (x : Int) = (x : Int) := IntWalk.i64_in _ (by omega)
      have hq1 : (x : Int) / 16 = ((x / 16 : Nat) : Int) := by omega
      have hq2 : (x : Int) % 16 = ((x % 16 : Nat) : Int) := by omega
      have hq3 : (x : Int).tdiv 16 = ((x / 16 : Nat) : Int) := by rw [Int.tdiv_eq_ediv_of_nonneg (by omega)]; omega
      have hq4 : (x : Int).tmod 16 = ((x % 16 : Nat) : Int) := by rw [Int.tmod_eq_emod_of_nonneg (by omega)]; omega
      have hm1 : x / 16 < 16 := by omega
      have hm2 : x % 16 < 16 := by omega
      have hs1 := run_slice_digs (P := Tryd.prog) Tryd.underlying9 hm1
      have hs2 := run_slice_digs (P := Tryd.prog) Tryd.underlying9 hm2
      generalize Tx.hd (x / 16) = y1 at *
      generalize Tx.hd (x % 16) = y2 at *
      generalize x / 16 = m1 at *
      generalize x % 16 = m2 at *
      have hw0 : IntKind.i64.wrap (m1 : Int) = (m1 : Int) := IntWalk.i64_in _ (by omega)
      have hw1 : IntKind.i64.wrap ((m1 : Int) + 1) = (m1 : Int) + 1 := IntWalk.i64_in _ (by omega)
      have hw2 : IntKind.i64.wrap ((m2 : Int) + 1) = (m2 : Int) + 1 := IntWalk.i64_in _ (by omega)
      have ha1 : sB (Tx.hex (d.take k)) ++ sB [y1] = sB (Tx.hex (d.take k) ++ [y1]) := (sB_append _ _).symm
      have ha2 : sB (Tx.hex (d.take k) ++ [y1]) ++ sB [y2] = sB ((Tx.hex (d.take k) ++ [y1]) ++ [y2]) := (sB_append _ _).symm
      rw [← HST.out] at ha2
      have hz1 : ¬ 9223372036854775807 < (sB (Tx.hex (d.take k))).size + (sB [y1]).size := by rw [sB_size, sB_size]; simp; omega
      have hz2 : ¬ 9223372036854775807 < (sB (Tx.hex (d.take k) ++ [y1])).size + (sB [y2]).size := by rw [sB_size, sB_size]; simp; omega
      generalize sB (Tx.hex (d.take k) ++ [y1]) = S1 at *
      generalize sB [y1] = Y1 at *
      generalize sB [y2] = Y2 at *
      obtain ⟨S2, hS2⟩ : ∃ S2, S2 = sB (Tx.hex (d.take (k + 1))) := ⟨_, rfl⟩
      rw [← hS2] at ha2
      have HS2 := Lib.hid hS2
      clear hS2
      generalize sB (Tx.hex (d.take k)) = S0 at *
      have hXd := hX.drew
      have hbd := hb.drew
      clear hX hb hlen HST
      go_wp2_with fail
      refine still_all (by kernel_rfl) (by kernel_rfl) ?_
      generalize World.drew wr = wd at *
      refine wpStill_step (fun K hK => ?_); go_simp; refine hK _ ?_; clear hK K
      refine wpStill_step (fun K hK => ?_); go_simp; refine hK _ ?_; clear hK K
      refine wpStill_step (fun K hK => ?_); go_simp; refine hK _ ?_; clear hK K
      refine wpStill_step (fun K hK => ?_); go_simp; refine hK _ ?_; clear hK K
      refine wpStill_step (fun K hK => ?_); go_simp; refine hK _ ?_; clear hK K
      refine wpStill_step (fun K hK => ?_); go_simp; refine hK _ ?_; clear hK K
      refine wpStill_step (fun K hK => ?_); go_simp; refine hK _ ?_; clear hK K
      refine wpStill_step (fun K hK => ?_); go_simp; refine hK _ ?_; clear hK K
      refine wpStill_step (fun K hK => ?_); go_simp; refine hK _ ?_; clear hK K
      refine wpStill_step (fun K hK => ?_); go_simp; refine hK _ ?_; clear hK K
      refine wpStill_step (fun K hK => ?_); go_simp; refine hK _ ?_; clear hK K
      refine wpStill_step (fun K hK => ?_); go_simp; refine hK _ ?_; clear hK K
      refine wpStill_step (fun K hK => ?_); go_simp; refine hK _ ?_; clear hK K
      refine wpStill_step (fun K hK => ?_); go_simp; refine hK _ ?_; clear hK K
      refine wpStill_step (fun K hK => ?_); go_simp; refine hK _ ?_; clear hK K
      refine wpStill_step (fun K hK => ?_); go_simp; refine hK _ ?_; clear hK K
      refine wpStill_nil ?_
      go_wp2_with fail
      go_roundw
      case rel =>
        exact ⟨k + 1, by omega, by go_num, by rw [HS2.out], hXd, hbd⟩
      case measure => simp [intOf]; omega
    · obtain rfl : k = 32 := by omega
      have HF := Lib.hid (List.take_of_length_le (l := d) (i := 32) (by rw [HD.out]; omega))
      clear hlt hk
      go_wp2_with fail
      go_ret
      exact ⟨by rw [HF.out]; rfl, hb⟩
end Go.Proofs.YtkgkllpecpcgjaaDoor
