/- CommitRights: what is wrong with any operation of any list is told as the document says. No conditions but the row's own. -/
import Derived.Test.YtjgegggcbjecbaaAliv
import Derived.Test.YtjgegggcbjecbaaRRight
import Derived.Test.YtjgegggcbjecbaaPRight
namespace Go.Proofs.Ytjgegggcbjecbaa
open Go Go.RowKit

set_option maxRecDepth 100000 in
set_option maxHeartbeats 2000000 in
theorem commitRights_walk (A : Option Addr) (c : Nat) (L : List Cm.Op) (i : Int) (w : World) (hR : Rd w w.heap.size A (L.length * 37) (rows opCells L)) (hD : ∀ s ∈ L, dimOp s) (hc : L.length ≤ c ∧ c ≤ 9223372036854775807) (hl : L.length * 72 ≤ 140737488351232) (hi : -9223372036854775808 ≤ i ∧ i ≤ 9223372036854775807) :
    Calls Try.prog 4 #[.slice A L.length c, .int .i64 i] w (Ret (.bool true) w) := by
  have HC1 := Lib.hid (fun (i : Int) (w' : World) (hi : -9223372036854775808 ≤ i ∧ i ≤ 9223372036854775807) (hb : Below w.heap.size w w') => pright_any L A c i w' (hR.later hb) hD (by omega) hi)
  have HC2 := Lib.hid (fun (i : Int) (w' : World) (hi : -9223372036854775808 ≤ i ∧ i ≤ 9223372036854775807) (hb : Below w.heap.size w w') => rright_any L A c i w' (hR.later hb) hD hc hi)
  have HI := Lib.hid hi
  have hw0 : IntKind.i64.wrap ((L.length : Int) + 1) = (L.length : Int) + 1 := IntWalk.i64_in _ (by omega)
  clear hR hD hi
  go_enter Try.func4, Try.ntmps4
  go_wp2_with fail
  go_loopw [5] (fun kv wr => ∃ k : Nat, k ≤ L.length + 2 ∧ kv = .int .i64 (k : Int) ∧ Below w.heap.size w wr) (fun kv _ => L.length + 2 - (intOf kv).toNat)
  case atStart => exact ⟨0, Nat.zero_le _, rfl, Below.refl _ _⟩
  case round =>
    obtain ⟨k, hk, rfl, hB⟩ := hrel
    have HB := Lib.hid hB
    clear hB
    by_cases hlt : k ≤ L.length + 1
    · have hltI : (k : Int) ≤ (L.length : Int) + 1 := by omega
      have hwn : IntKind.i64.wrap ((k : Int) + 1) = ((k + 1 : Nat) : Int) := by rw [IntWalk.i64_in _ (by omega)]; omega
      have C1 := Lib.hid (HC1.out (k : Int) wr (by omega) HB.out)
      obtain ⟨r, hr⟩ : ∃ r, r = Cm.right L (k : Int) := ⟨_, rfl⟩
      have C2 := Lib.hid (fun (w' : World) hb => HC2.out (k : Int) w' (by omega) hb)
      rw [← hr] at C1 C2
      have k1 : ((r : Int) != (r : Int)) = false := by simp
      clear hr
      go_wp2_with fail
      refine C1.out.mono ?_; rintro e w1 ⟨rfl, hb1⟩
      have HB1 := Lib.hid (HB.out.trans (hb1.mono HB.out.size))
      clear hb1
      go_wp2_with fail
      refine (C2.out _ HB1.out).mono ?_; rintro e w2 ⟨rfl, hb2⟩
      have HB2 := Lib.hid (HB1.out.trans (hb2.mono HB1.out.size))
      clear hb2
      go_wp2_with fail
      go_roundw
      case rel => exact ⟨k + 1, by omega, rfl, HB2.out⟩
      case measure => dsimp only [intOf]; omega
    · have hltI : ¬ (k : Int) ≤ (L.length : Int) + 1 := by omega
      have C1 := Lib.hid (HC1.out i wr HI.out HB.out)
      have C2 := Lib.hid (fun (w' : World) hb => HC2.out i w' HI.out hb)
      obtain ⟨r, hr⟩ : ∃ r, r = Cm.right L i := ⟨_, rfl⟩
      rw [← hr] at C1 C2
      have k1 : ((r : Int) == (r : Int)) = true := by simp
      clear hr
      go_wp2_with fail
      refine C1.out.mono ?_; rintro e w1 ⟨rfl, hb1⟩
      have HB1 := Lib.hid (HB.out.trans (hb1.mono HB.out.size))
      clear hb1
      go_wp2_with fail
      refine (C2.out _ HB1.out).mono ?_; rintro e w2 ⟨rfl, hb2⟩
      have HB2 := Lib.hid (HB1.out.trans (hb2.mono HB1.out.size))
      clear hb2
      go_wp2_with fail
      refine (alive_any _).mono ?_; rintro e w7 ⟨rfl, hb7⟩
      go_wp2_with fail
      go_ret
      exact ⟨rfl, HB2.out.trans (hb7.mono HB2.out.size)⟩
end Go.Proofs.Ytjgegggcbjecbaa
