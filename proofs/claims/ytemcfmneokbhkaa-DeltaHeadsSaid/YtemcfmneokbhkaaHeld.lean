/- The contracts of Held and alive. -/
import Derived.Test.YtemcfmneokbhkaaLent
namespace Go.Proofs.Ytemcfmneokbhkaa
open Go Go.RowKit

set_option maxRecDepth 100000 in
set_option maxHeartbeats 1000000 in
theorem held_any (g c B c2 : Nat) (A : Option Addr) (l : List UInt8) (w : World) (hx : Rd w B (some ⟨g, 0, none⟩) (l.length + 2) (bv (l ++ [77, 78]))) (hr : Rd w B A l.length (bv l)) (h : l.length + 2 ≤ c) (hm : c ≤ 9223372036854775807) :
    Calls Try.prog 13 #[.slice (some ⟨g, 0, none⟩) l.length c, .slice A l.length c2] w fun e w' => e = .returned (.bool true) ∧ ∃ n, w' = w.drewN n := by
  have c1 : w.cell? ⟨g, l.length, none⟩ = some (.int .u8 77) := by
    obtain ⟨ad, e, -, hc⟩ := hx.2 (by omega)
    have e' : (⟨g, 0, none⟩ : Addr) = ad := Option.some.inj e
    subst e'
    have := hc l.length (.int .u8 77) (by rw [bv_append, List.getElem?_append_right (by rw [bv_length]; exact Nat.le_refl _), bv_length, Nat.sub_self]; rfl)
    simpa [Addr.add_lit] using this
  have c3 : w.cell? ⟨g, l.length + 1, none⟩ = some (.int .u8 78) := by
    obtain ⟨ad, e, -, hc⟩ := hx.2 (by omega)
    have e' : (⟨g, 0, none⟩ : Addr) = ad := Option.some.inj e
    subst e'
    have := hc (l.length + 1) (.int .u8 78) (by rw [bv_append, List.getElem?_append_right (by rw [bv_length]; omega), bv_length, Nat.add_sub_cancel_left]; rfl)
    simpa [Addr.add_lit] using this
  have hx1 := hx.take (k := l.length) (by omega)
  rw [← bv_take, List.take_left] at hx1
  have v1 := fun n => (hx1.drewN n).str (P := Try.prog) c Try.underlying22 Try.underlying5 Try.underlying9
  have v2 := fun n => (hr.drewN n).str (P := Try.prog) c2 Try.underlying22 Try.underlying5 Try.underlying9
  have hk0 : (0 : Int) ≤ (l.length : Int) := by omega
  have hk1 : (l.length : Int) + 1 < (l.length : Int) + 2 := by omega
  have hk2 : (l.length : Int) < (l.length : Int) + 2 := by omega
  have hw1 : IntKind.i64.wrap ((l.length : Int) + 1) = (l.length : Int) + 1 := by rw [IntKind.wrap_i64]; omega
  have hw2 : (0 : Int) ≤ (l.length : Int) + 1 := by omega
  have hw3 : ((l.length : Int) + 1).toNat = l.length + 1 := by omega
  clear hx hx1 hr
  go_enter Try.func13, Try.ntmps13
  go_wp2_with fail
  go_quiet (fail)
  go_wp2_with fail
  go_ret
  exact ⟨rfl, _, rfl⟩
end Go.Proofs.Ytemcfmneokbhkaa
