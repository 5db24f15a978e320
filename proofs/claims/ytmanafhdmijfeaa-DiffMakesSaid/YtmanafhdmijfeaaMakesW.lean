/- The walk of DiffMakes. -/
import Derived.Test.YtmanafhdmijfeaaLCost
namespace Go.Proofs.Ytmanafhdmijfeaa
open Go Go.RowKit

set_option maxRecDepth 100000 in
set_option maxHeartbeats 2000000 in
theorem diffMakes_walk (a b : ByteArray) (w : World) (hal : a.size ≤ 4611686018427387904) (hbl : b.size ≤ 4611686018427387904) :
    Calls Try.prog 3 #[.string a, .string b] w fun e w' => e = .returned (.bool true) ∧ Below w.heap.size w w' := by
  obtain ⟨a', rfl⟩ : ∃ l, a = sB l := ⟨a.data.toList, rfl⟩
  obtain ⟨b', rfl⟩ : ∃ l, b = sB l := ⟨b.data.toList, rfl⟩
  rw [sB_size] at hal hbl
  have HM := Lib.hid (pmake_any a' b' w hal hbl)
  have HR := Lib.hid (fun w => refMake_any a' b' w hal hbl)
  have hlen := makeR_len a' b'
  obtain ⟨K, e, hke⟩ : ∃ K e, makeR a' b' = (K, e) := ⟨_, _, rfl⟩
  rw [hke] at hlen HM HR
  simp only [] at hlen HM HR
  clear hke
  go_enter Try.func3, Try.ntmps3
  go_wp2_with fail
  refine HM.out.mono ?_; rintro x w1 ⟨v, rfl, ho, hb1⟩
  obtain ⟨A, c, hv, -, -, -⟩ := own_form ho
  subst hv
  have HO := Lib.hid ho
  clear ho HM
  go_wp2_with fail
  refine (HR.out w1).mono ?_; rintro x w2 ⟨v2, rfl, ho2, hb2⟩
  obtain ⟨A2, c2, hv2, -, -, -⟩ := own_form ho2
  subst hv2
  have hsm := same_any A A2 c c2 K K w2.heap.size w2.heap.size w2 (Rd.of_ownK (own_below HO.out hb2)) (Rd.of_ownK ho2) (by omega)
  rw [show decide (K = K) = true from decide_eq_true rfl] at hsm
  have HS := Lib.hid hsm
  clear hsm ho2 HO
  go_wp2_with fail
  refine HS.out.mono ?_; rintro x w3 ⟨rfl, n, rfl⟩
  have hB := hb1.trans (hb2.mono hb1.size)
  go_wp2_with fail
  refine (alive_any _).mono ?_; rintro x w4 ⟨rfl, hb4⟩
  go_wp2_with fail
  go_ret
  exact ⟨rfl, (below_drewN hB n).trans (hb4.mono hB.size)⟩
end Go.Proofs.Ytmanafhdmijfeaa
