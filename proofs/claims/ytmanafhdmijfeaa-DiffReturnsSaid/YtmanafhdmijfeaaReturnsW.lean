/- The walk of DiffReturns. -/
import Derived.Test.YtmanafhdmijfeaaLeastW
namespace Go.Proofs.Ytmanafhdmijfeaa
open Go Go.RowKit

set_option maxRecDepth 100000 in
set_option maxHeartbeats 4000000 in
theorem diffReturns_walk (a : ByteArray) (A : Option Addr) (c : Nat) (L : List Ed) (w : World) (hal : a.size ≤ 4611686018427387904) (h : Rd w w.heap.size A (L.length * 3) (ev L)) (hl : L.length * 32 ≤ 140737488351232) (hc : L.length ≤ c ∧ c ≤ 9223372036854775807) (ht : ∀ x ∈ L, x.text.length ≤ 4611686018427387904) :
    Calls Try.prog 9 #[.string a, .slice A L.length c] w fun e w' => e = .returned (.bool true) ∧ Below w.heap.size w w' := by
  obtain ⟨a', rfl⟩ : ∃ l, a = sB l := ⟨a.data.toList, rfl⟩
  rw [sB_size] at hal
  have hap := papply_any a' A c L w h (by omega) hc ht hal
  have HI := Lib.hid (fun (w1 : World) (hb : Below w.heap.size w w1) => pinvert_any a' A c L w1 (h.later hb) hl hc ht hal)
  cases hres : applyS a' L with
  | error e =>
    have he := applyS_err hres
    have hir : invR a' L = ([], e) := by unfold invR; rw [hres]
    rw [hres] at hap
    rw [hir] at HI
    have HAP := Lib.hid hap
    have hne : ((e : Int) != 0) = true := by rw [bne_iff_ne]; omega
    clear hap hres he h ht hir
    go_enter Try.func9, Try.ntmps9
    go_wp2_with fail
    refine HAP.out.mono ?_; rintro x w1 ⟨rfl, hb1⟩
    unfold resA
    go_wp2_with fail
    refine (HI.out w1 hb1).mono ?_; rintro x w2 ⟨v, rfl, ho, hb2⟩
    obtain ⟨A2, c2, hv, -, -, -⟩ := own_form ho
    subst hv
    have hB := hb1.trans (hb2.mono hb1.size)
    clear ho
    go_wp2_with fail
    refine (alive_any _).mono ?_; rintro x w4 ⟨rfl, hb4⟩
    go_wp2_with fail
    go_ret
    exact ⟨rfl, hB.trans (hb4.mono hB.size)⟩
  | ok s =>
    obtain ⟨ha1, hs1, hd⟩ := applyS_ok hres
    have hir : invR a' L = (invS a' L, 0) := by unfold invR; rw [hres]
    have hd2 := inv_does hd
    have hres2 := hd2.apply hs1 ha1
    have hir2 : invR s (invS a' L) = (L, 0) := by unfold invR; rw [hres2]; simp only []; rw [inv_back hd]
    obtain ⟨hlk, htk⟩ := hd2.len_le
    rw [hres] at hap
    rw [hir] at HI
    simp only [] at HI
    have HAP := Lib.hid hap
    have H := Lib.hid h
    obtain ⟨K, hK⟩ : ∃ K, K = invS a' L := ⟨_, rfl⟩
    rw [← hK] at HI hres2 hir2 hlk htk
    have HRES2 := Lib.hid hres2
    have HIR2 := Lib.hid hir2
    have HTK := Lib.hid htk
    clear hap hres h ht hir hd hd2 hres2 hir2 htk hK
    go_enter Try.func9, Try.ntmps9
    go_wp2_with fail
    refine HAP.out.mono ?_; rintro x w1 ⟨rfl, hb1⟩
    unfold resA
    go_wp2_with fail
    refine (HI.out w1 hb1).mono ?_; rintro x w2 ⟨v, rfl, ho, hb2⟩
    obtain ⟨A2, c2, hv, hc1, hc2, -⟩ := own_form ho
    subst hv
    have hcc : K.length ≤ c2 ∧ c2 ≤ 9223372036854775807 := ⟨hc1, by simpa [maxLen] using hc2⟩
    have hB := hb1.trans (hb2.mono hb1.size)
    have HO := Lib.hid ho
    have hap2 := papply_any s A2 c2 K w2 (Rd.of_ownK ho) (by omega) hcc (fun x hx => by have := HTK.out x hx; omega) (by omega)
    rw [HRES2.out] at hap2
    have HAP2 := Lib.hid hap2
    clear ho hap2 hc1 hc2 HI HAP
    go_wp2_with fail
    refine HAP2.out.mono ?_; rintro x w3 ⟨rfl, hb3⟩
    unfold resA
    have hin2 := pinvert_any s A2 c2 K w3 (Rd.of_ownK (own_below HO.out hb3)) (by omega) hcc (fun x hx => by have := HTK.out x hx; omega) (by omega)
    rw [HIR2.out] at hin2
    have HIN2 := Lib.hid hin2
    have hB3 := hB.trans (hb3.mono hB.size)
    clear hin2 HAP2
    go_wp2_with fail
    refine HIN2.out.mono ?_; rintro x w4 ⟨v4, rfl, ho4, hb4⟩
    obtain ⟨A4, c4, hv4, -, -, -⟩ := own_form ho4
    subst hv4
    have hB4 := hB3.trans (hb4.mono hB3.size)
    have hsm := same_any A4 A c4 c L L w4.heap.size w4.heap.size w4 (Rd.of_ownK ho4) (H.out.later hB4) (by omega)
    rw [show decide (L = L) = true from decide_eq_true rfl] at hsm
    have HS := Lib.hid hsm
    clear hsm ho4 HIN2
    go_wp2_with fail
    refine HS.out.mono ?_; rintro x w5 ⟨rfl, n, rfl⟩
    go_wp2_with fail
    refine (alive_any _).mono ?_; rintro x w6 ⟨rfl, hb6⟩
    go_wp2_with fail
    go_ret
    exact ⟨rfl, (below_drewN hB4 n).trans (hb6.mono hB4.size)⟩
end Go.Proofs.Ytmanafhdmijfeaa
