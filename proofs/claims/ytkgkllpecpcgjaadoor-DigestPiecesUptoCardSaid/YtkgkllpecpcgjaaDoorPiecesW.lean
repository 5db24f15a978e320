/- The walk of DigestPieces, where what is read is of bounded bulk. -/
import Derived.Test.YtkgkllpecpcgjaaDoorPieces
import Derived.Test.YtkgkllpecpcgjaaDoorAlive
import Derived.Test.YtkgkllpecpcgjaaDoorEqB
import Derived.Test.YtkgkllpecpcgjaaDoorQuiet
namespace Go.Proofs.YtkgkllpecpcgjaaDoor
open Go Go.RowKit

/-- What a round of the loop finds: so many pieces taken, the hash and the bytes of all of them. -/
def PcRel (L : List Bit) (g base : Nat) (w : World) (v i : Value) (wr : World) : Prop :=
  ∃ (k : Nat) (F : List UInt8), k ≤ L.length ∧ F = flat (L.take k) ∧ i = .int .i64 (k : Int) ∧ HashIs wr g F ∧ wr.ownsRow base 5 1 v F.length (bv F) ∧ Below w.heap.size w wr ∧ base ≤ wr.heap.size

set_option maxRecDepth 100000 in
set_option maxHeartbeats 4000000 in
theorem digestPieces_walk (A : Option Addr) (c : Nat) (L : List Bit) (w : World) (hr : Rd w w.heap.size A L.length (bits L)) (hn : L.length ≤ 1048576) (hx : ∀ x ∈ L, Lies w w.heap.size x) (hl : (flat L).length ≤ 1048576) (hk : KT w) :
    Calls Tryd.prog 10 #[.slice A L.length c] w fun e w' => e = .returned (.bool true) ∧ Below w.heap.size w w' := by
  obtain ⟨i0, hi, hz0, hz1, hz2⟩ := info_parts infoU8
  have HR := Lib.hid hr
  have HX := Lib.hid hx
  have HK := Lib.hid hk
  have hglt := hk.lt
  have NW := Lib.hid (new_any w)
  clear hr hx hk
  go_enter Tryd.func10, Tryd.ntmps10
  go_wp2_with fail
  refine NW.out.mono ?_; rintro e w1 ⟨g, rfl, hg, hH1, hb1⟩
  go_wp2_with fail
  refine (alive_any _ (HK.out.below hb1 hglt)).mono ?_; rintro e w2 ⟨rfl, hb2⟩
  have hB2 := hb1.trans (hb2.mono hb1.size)
  have hH2 : HashIs w2 g [] := Blk.later hH1 hb2
  have hgl : g < w2.heap.size := Blk.lt hH2
  clear hb1 hb2 hH1
  go_wp2_with fail
  have hR2 := HR.out.later hB2
  go_loopw [4, 16] (fun v i wr => PcRel L g w2.heap.size w v i wr) (fun _ i _ => L.length - (intOf i).toNat)
  case atStart => exact ⟨0, [], Nat.zero_le _, rfl, rfl, hH2, World.ownsRow_nil _ _ _ _, hB2, Nat.le_refl _⟩
  case round =>
    obtain ⟨k, F, hk, hFe, rfl, hH, ho, hB, hsz⟩ := hrel
    obtain ⟨Aa, ca, hv, hca, hcm, hba⟩ := own_form ho
    subst hv
    have hF := flat_length_take L k
    have hkr : KT wr := HK.out.below hB hglt
    have HKR := Lib.hid hkr
    clear hkr
    by_cases hlt : k < L.length
    · obtain ⟨ad, u, hA, -, hu, hcell⟩ := (HR.out.later hB).spot hlt
      subst hA
      have hxk := HX.out _ (List.getElem_mem hlt)
      have hfs := flat_succ L k hlt
      have hF1 := flat_length_take L (k + 1)
      have hu2 : u = bitv L[k] := by
        unfold bits at hu
        rw [List.getElem?_map, List.getElem?_eq_getElem hlt] at hu
        exact (Option.some.inj hu).symm
      obtain ⟨⟨Ak, ck, lk⟩, hLk⟩ : ∃ x, x = L[k] := ⟨_, rfl⟩
      rw [← hLk] at hxk hfs hu2
      obtain ⟨hx1, hx2, hx3⟩ := hxk
      simp only [bitv] at hu2
      subst hu2
      simp only [] at hx1 hx2 hx3 hfs
      rw [← hFe] at hfs
      have HFS := Lib.hid hfs
      rw [hfs, List.length_append] at hF1
      have HFE := Lib.hid hFe
      have hne : ∀ ad, 0 < lk.length → Ak = some ad → ad.block ≠ g := fun ad h0 hA hq => by
        obtain ⟨ad', hA', hlt', -⟩ := hx3.2 h0
        rw [hA] at hA'
        cases hA'
        omega
      have WR := Lib.hid (write_any F lk g Ak ck wr hH HKR.out (hx3.later hB) hne ⟨hx1, hx2⟩ (by omega))
      have HX3 := Lib.hid hx3
      have hltI : (k : Int) < (L.length : Int) := by omega
      clear hu hLk hfs hFe hne hx3 hF
      go_wp2_with fail
      refine WR.out.mono ?_; rintro e w3 ⟨rfl, hH3, hg3⟩
      have hb3 : Below w.heap.size wr w3 := (Below.refl _ _).grown hg3 hB.size (fun q hq => by cases hq; exact hg)
      have hB3 := hB.trans hb3
      have hs3 := hg3.size
      have ho3 := ho.kept hg3 (by
        cases Aa with
        | none => exact .inl rfl
        | some q => exact .inr (fun hq => by have h1 := hba q rfl; have h2 : q.block = g := Option.some.inj hq; omega))
      have HX4 := Lib.hid (HX3.out.below hB3)
      clear hH ho hb3
      have hgs3 : g < w3.heap.size := by omega
      obtain ⟨F1, hF1e⟩ : ∃ F1, F1 = F ++ lk := ⟨_, rfl⟩
      have HFL := Lib.hid (show F1.length = F.length + lk.length by rw [hF1e, List.length_append])
      have HFA := Lib.hid (show bv F ++ bv lk = bv F1 by rw [hF1e, bv_append])
      have HFE1 := Lib.hid (hF1e.trans HFS.out.symm)
      rw [← hF1e] at hH3
      have hF1b : F1.length ≤ 1048576 := by rw [HFL.out]; omega
      clear hF1e
      go_wp2_with (first
        | (at_builtin; (refine wp_app' _ rfl (.tmp 23) (.tmp 24) 22 22 rfl w2.heap.size 5 i0 _ 1 Tryd.underlying22 hi hz0 hz1 hz2 rfl _ F.length (bv F) rfl ho3 (.slice Ak lk.length ck) lk.length (bv lk) rfl (HX4.out.src Tryd.underlying22 ck (bv_one lk)) (by unfold maxLen; omega) (by omega) (by omega) ?_); intro v4 w4 ho4 hb4; rw [HFA.out, ← HFL.out] at ho4; obtain ⟨A4, c4, hv4, hc4, hm4, -⟩ := own_form ho4; subst hv4; have hB4 := hB3.trans (hb4.mono (by exact hB2.size)); have hsz4 := hb4.size; have hH4 := Blk.below hH3 hb4 hgl; clear hb4))
      have hs4 : w2.heap.size ≤ w4.heap.size := by omega
      have S1 := Lib.hid (hsum_any F1 g w4 hH4 (HK.out.below hB4 hglt) (by omega))
      have S2 := Lib.hid (fun (W : World) (hb : Below w4.heap.size w4 W) => psum_any F1 A4 c4 W (HK.out.below (hB4.trans (hb.mono hB4.size)) hglt) ((Rd.of_own ho4).later hb) ⟨hc4, by simpa [maxLen] using hm4⟩ (by omega))
      have LN := Lib.hid (fun (W : World) (hb : Below w4.heap.size w4 W) => len_any W g F1 (Blk.later hH4 hb))
      have hNE := run_neq_bytes (P := Tryd.prog) Tryd.underlying24 Tryd.underlying5 (by kernel_rfl) (sum_length F1) (sum_length F1)
      rw [show (!decide (Sh.sum F1 = Sh.sum F1)) = false from by simp] at hNE
      generalize (bv (Sh.sum F1)).toArray = Z at *
      have HO4 := Lib.hid ho4
      have HH4 := Lib.hid hH4
      have hnn : ((F1.length : Int) != (F1.length : Int)) = false := by simp
      clear ho3 hH3 hg3 ho4 hH4 hc4 hm4
      refine S1.out.mono ?_; rintro e w5 ⟨rfl, hb5⟩
      go_wp2_with fail
      refine (S2.out _ hb5).mono ?_; rintro e w6 ⟨rfl, hb6⟩
      have hb6' := hb5.trans (hb6.mono hb5.size)
      go_wp2_with fail
      refine (LN.out _ hb6').mono ?_; rintro e w7 ⟨rfl, rfl⟩
      go_wp2_with fail
      go_roundw
      case rel => exact ⟨k + 1, F1, by omega, HFE1.out, by go_num, Blk.later HH4.out hb6', own_below HO4.out hb6', hB4.trans (hb6'.mono hB4.size), Nat.le_trans hs4 hb6'.size⟩
      case measure => simp [intOf]; omega
    · have hkL : k = L.length := by omega
      have hltI : ¬ (k : Int) < (L.length : Int) := by omega
      rw [hkL, List.take_length] at hFe
      have hFb : F.length ≤ 1048576 := by rw [hFe]; exact hl
      have S1 := Lib.hid (hsum_any F g wr hH HKR.out (by omega))
      have S2 := Lib.hid (fun (W : World) (hb : Below wr.heap.size wr W) => psum_any F Aa ca W (HK.out.below (hB.trans (hb.mono hB.size)) hglt) ((Rd.of_own ho).later hb) ⟨hca, by simpa [maxLen] using hcm⟩ (by omega))
      have hEQ := run_eql_bytes (P := Tryd.prog) Tryd.underlying24 Tryd.underlying5 (by kernel_rfl) (sum_length F) (sum_length F)
      rw [show decide (Sh.sum F = Sh.sum F) = true from decide_eq_true rfl] at hEQ
      generalize (bv (Sh.sum F)).toArray = Z at *
      clear hH ho hca hcm hFe
      go_wp2_with fail
      refine S1.out.mono ?_; rintro e w5 ⟨rfl, hb5⟩
      go_wp2_with fail
      refine (S2.out _ hb5).mono ?_; rintro e w6 ⟨rfl, hb6⟩
      have hb6' := hb5.trans (hb6.mono hb5.size)
      go_wp2_with fail
      go_ret
      exact ⟨rfl, hB.trans (hb6'.mono hB.size)⟩
end Go.Proofs.YtkgkllpecpcgjaaDoor
