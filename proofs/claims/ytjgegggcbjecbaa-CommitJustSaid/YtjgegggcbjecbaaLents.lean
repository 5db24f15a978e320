/- The contracts of Lent, Held and alive. · The contracts of Held and alive. -/
import Derived.Test.YtjgegggcbjecbaaGetR
import Derived.BigQuiet
import Derived.Deep.QuietTactic
namespace Go.Proofs.Ytjgegggcbjecbaa
open Go Go.RowKit

/-- A list with two marks behind it. -/
def Lent (l : List UInt8) (w : World) (e : Ending) (w' : World) : Prop :=
  ∃ g c, e = .returned (.slice (some ⟨g, 0, none⟩) l.length c) ∧ l.length + 2 ≤ c ∧ c ≤ 9223372036854775807 ∧ Rd w' w'.heap.size (some ⟨g, 0, none⟩) (l.length + 2) (bv (l ++ [77, 78])) ∧ Below w.heap.size w w'

set_option maxRecDepth 100000 in
set_option maxHeartbeats 1000000 in
theorem lent_any (A : Option Addr) (c : Nat) (l : List UInt8) (w : World) (hr : Rd w w.heap.size A l.length (bv l)) (h : l.length + 2 ≤ 140737488355328) :
    Calls Try.prog 19 #[.slice A l.length c] w (Lent l w) := by
  obtain ⟨i0, hi, hz0, hz1, hz2⟩ := info_parts infoU8
  have HR := Lib.hid hr
  clear hr
  go_enter Try.func19, Try.ntmps19
  go_wp2_with (first
    | (at_builtin; (refine wp_app _ rfl (.tmp 3) (.tmp 4) 35 35 rfl w.heap.size 5 i0 _ 1 Try.underlying35 hi hz0 hz1 hz2 rfl (.slice (some ⟨w.heap.size, 0, none⟩) 0 0) 0 [] rfl (World.ownsRow_made w #[] 0 (Nat.le_refl _) (Nat.zero_le _) rfl) (.slice A l.length c) l.length (bv l) rfl ((HR.out.alloc (Nat.le_refl _) _).src Try.underlying35 c (bv_one l)) (by unfold maxLen; omega) (by omega) (by simp) ?_); intro v1 w1 ho1 hg1 hat1; rw [Nat.zero_add, List.nil_append] at ho1; have hs1 : w.heap.size + 1 ≤ w1.heap.size := (by have := hg1.size; simpa using this))
    | (at_builtin; go_must (refine wp_app _ rfl (.tmp 5) (.tmp 6) 35 35 rfl w.heap.size 5 i0 _ 1 Try.underlying35 hi hz0 hz1 hz2 rfl v1 l.length (bv l) rfl (ho1.alloc _) _ 2 [Value.int .u8 77, Value.int .u8 78] rfl (new_src Try.underlying35 w1 [Value.int .u8 77, Value.int .u8 78] 2 2 5 (0, 0) rfl (by intro u hu; simp at hu; rcases hu with rfl | rfl <;> rfl)) (by unfold maxLen; omega) (by omega) (by simp; omega) ?_); intro v2 w2 ho2 hg2 hat2; obtain ⟨g2, c2, hv2, hn2, hm2⟩ := own_form' ho2 (by omega); subst hv2))
  go_ret
  have hb1 : Below w.heap.size w w1 := ((Below.refl _ _).alloc (Nat.le_refl _) _).grown hg1 (by simp) (fun q hq => Nat.le_of_eq (Option.some.inj hq))
  have hb2 : Below w.heap.size w w2 := (hb1.alloc (by omega) _).grown hg2 (by simp; omega) (fun q hq => (ho1.lt q hq).1)
  refine ⟨g2, c2, rfl, hn2, hm2, ?_, hb2⟩
  have h2 := Rd.of_own ho2
  rw [bv_append]
  exact h2
end Go.Proofs.Ytjgegggcbjecbaa

namespace Go.Proofs.Ytjgegggcbjecbaa
open Go Go.RowKit

set_option maxRecDepth 100000 in
set_option maxHeartbeats 1000000 in
theorem held_any (g c B c2 : Nat) (A : Option Addr) (l : List UInt8) (w : World) (hx : Rd w B (some ⟨g, 0, none⟩) (l.length + 2) (bv (l ++ [77, 78]))) (hr : Rd w B A l.length (bv l)) (h : l.length + 2 ≤ c) (hm : c ≤ 9223372036854775807) :
    Calls Try.prog 23 #[.slice (some ⟨g, 0, none⟩) l.length c, .slice A l.length c2] w fun e w' => e = .returned (.bool true) ∧ ∃ n, w' = w.drewN n := by
  have c1 : w.cell? ⟨g, l.length, none⟩ = some (.int .u8 77) := by
    obtain ⟨ad, e, -, hc⟩ := hx.2 (by omega)
    have e' : (⟨g, 0, none⟩ : Addr) = ad := Option.some.inj e
    subst e'
    have := hc l.length (.int .u8 77) (by rw [bv_append, List.getElem?_append_right (by rw [bv_length]; exact Nat.le_refl _), bv_length, Nat.sub_self]; rfl)
    simpa [Addr.add_lit] using this
  have c3 : w.cell? ⟨g, l.length + 1, none⟩ = some (.int .u8 78) := by
    obtain ⟨ad, e, -, hc⟩ := hx.2 (by omega)
    have e' : (⟨g, 0, none⟩ : Addr) = ad := Option.some.inj e
    subst e'
    have := hc (l.length + 1) (.int .u8 78) (by rw [bv_append, List.getElem?_append_right (by rw [bv_length]; omega), bv_length, Nat.add_sub_cancel_left]; rfl)
    simpa [Addr.add_lit] using this
  have hx1 := hx.take (k := l.length) (by omega)
  rw [← bv_take, List.take_left] at hx1
  have v1 := fun n => (hx1.drewN n).str (P := Try.prog) c Try.underlying35 Try.underlying5 Try.underlying9
  have v2 := fun n => (hr.drewN n).str (P := Try.prog) c2 Try.underlying35 Try.underlying5 Try.underlying9
  have hk0 : (0 : Int) ≤ (l.length : Int) := by omega
  have hk1 : (l.length : Int) + 1 < (l.length : Int) + 2 := by omega
  have hk2 : (l.length : Int) < (l.length : Int) + 2 := by omega
  have hw1 : IntKind.i64.wrap ((l.length : Int) + 1) = (l.length : Int) + 1 := by rw [IntKind.wrap_i64]; omega
  have hw2 : (0 : Int) ≤ (l.length : Int) + 1 := by omega
  have hw3 : ((l.length : Int) + 1).toNat = l.length + 1 := by omega
  clear hx hx1 hr
  go_enter Try.func23, Try.ntmps23
  go_wp2_with fail
  go_quiet (fail)
  go_wp2_with fail
  go_ret
  exact ⟨rfl, _, rfl⟩
end Go.Proofs.Ytjgegggcbjecbaa
