/- GraphChecks: the walk. -/
import Derived.Test.YtebfocfeehajjaaGmL
import Derived.Test.YtebfocfeehajjaaRCheck
namespace Go.Proofs.Ytebfocfeehajjaa
open Go Go.RowKit

set_option maxRecDepth 100000 in
set_option maxHeartbeats 4000000 in
theorem checks_walk (ll : List (Nod × Option Addr × Nat)) (A0 : Option Addr) (c0 : Nat) (w : World) (hN : NIn w ll) (hR : Rd w w.heap.size A0 (ll.length * 33) (rows nC ll)) (hl : ll.length * 56 ≤ 140737488351232) (hcp : ll.length ≤ c0 ∧ c0 ≤ 9223372036854775807) :
    Calls Try.prog 3 #[.slice A0 ll.length c0] w fun e w' => e = .returned (.bool true) ∧ Below w.heap.size w w' := by
  have C1 := Lib.hid (api_check ll A0 c0 w.heap.size w hN hR (Nat.le_refl _) hl)
  have C2 := Lib.hid (fun (u : World) (h : Below w.heap.size w u) => rcheck_any ll A0 c0 w.heap.size u (hN.later h) (hR.below h) h.size hl hcp)
  have HA := Lib.hid (fun u : World => alive_any u)
  obtain ⟨n, hn⟩ : ∃ n, n = (chk (nsOf ll)).1 := ⟨_, rfl⟩
  obtain ⟨er, her⟩ : ∃ n, n = (chk (nsOf ll)).2 := ⟨_, rfl⟩
  have hb : ∀ u : World, ChkO (nsOf ll) w (.returned (.tuple #[.int .i64 (n : Int), .int .i64 (er : Int)])) u → Below w.heap.size w u := fun u h => h.1
  rw [← hn, ← her] at C2
  have k1 : ((n : Int) == (n : Int)) = true := beq_self_eq_true _
  have k2 : ((er : Int) == (er : Int)) = true := beq_self_eq_true _
  have HNE := Lib.hid (And.intro hn her)
  clear hN hR hn her hb
  go_enter Try.func3, Try.ntmps3
  go_wp2_with fail
  refine C1.out.mono ?_; rintro e w1 ⟨hb1, rfl⟩
  rw [← HNE.out.1, ← HNE.out.2]
  have HB1 := Lib.hid hb1
  clear hb1 C1 HNE
  go_wp2_with fail
  refine (C2.out _ HB1.out).mono ?_; rintro e w2 ⟨rfl, hb2⟩
  have HB2 := Lib.hid (HB1.out.trans (hb2.mono HB1.out.size))
  clear hb2 C2
  go_wp2_with fail
  refine (HA.out _).mono ?_; rintro e w3 ⟨rfl, hb3⟩
  go_wp2_with fail
  go_ret
  exact ⟨rfl, HB2.out.trans (hb3.mono HB2.out.size)⟩
end Go.Proofs.Ytebfocfeehajjaa
