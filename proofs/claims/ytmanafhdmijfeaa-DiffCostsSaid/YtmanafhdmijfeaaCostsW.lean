/- The walk of DiffCosts. -/
import Derived.Test.YtmanafhdmijfeaaLCost
namespace Go.Proofs.Ytmanafhdmijfeaa
open Go Go.RowKit

theorem costR_form (L : List Ed) : ∃ n e : Int, costR L = .tuple #[.int .i64 n, .int .i64 e] := by
  unfold costR
  split
  · exact ⟨_, _, rfl⟩
  · exact ⟨_, _, rfl⟩

set_option maxRecDepth 100000 in
set_option maxHeartbeats 2000000 in
theorem diffCosts_walk (A : Option Addr) (c : Nat) (L : List Ed) (w : World) (h : Rd w w.heap.size A (L.length * 3) (ev L)) (hl : L.length ≤ 4398046511104) (hc : L.length ≤ c ∧ c ≤ 9223372036854775807) :
    Calls Try.prog 5 #[.slice A L.length c] w fun e w' => e = .returned (.bool true) ∧ Below w.heap.size w w' := by
  have H := Lib.hid (pcost_any A c L w h (by omega) hc)
  have HR := Lib.hid (fun (w1 : World) (hb : Below w.heap.size w w1) => refCost_any A c L w1 (h.later hb) (by omega))
  obtain ⟨n, e, he⟩ := costR_form L
  rw [he] at H HR
  clear he h hc
  go_enter Try.func5, Try.ntmps5
  go_wp2_with fail
  refine H.out.mono ?_; rintro x w1 ⟨rfl, hb1⟩
  go_wp2_with fail
  refine (HR.out w1 hb1).mono ?_; rintro x w2 ⟨rfl, hb2⟩
  have hB := hb1.trans (hb2.mono hb1.size)
  go_wp2_with fail
  refine (alive_any _).mono ?_; rintro x w4 ⟨rfl, hb4⟩
  go_wp2_with fail
  go_ret
  exact ⟨rfl, hB.trans (hb4.mono hB.size)⟩
end Go.Proofs.Ytmanafhdmijfeaa
