/- The contracts of Lent, Held and alive. -/
import Derived.Test.YtemcfmneokbhkaaGetR
import Derived.BigQuiet
import Derived.Deep.QuietTactic
namespace Go.Proofs.Ytemcfmneokbhkaa
open Go Go.RowKit

/-- What an owned value looks like that has an element. -/
theorem own_form' {w : World} {base : Nat} {e : TypeId} {size n : Nat} {v : Value} {xs : List Value} (h : w.ownsRow base e size v n xs) (h0 : 0 < n) :
    ∃ g c, v = .slice (some ⟨g, 0, none⟩) n c ∧ n ≤ c ∧ c ≤ 9223372036854775807 := by
  rcases h.2 with ⟨rfl, rfl⟩ | ⟨g, cap, cur, rfl, hb, _, hn, hm, _⟩
  · exact absurd h0 (Nat.lt_irrefl 0)
  · exact ⟨g, cap, rfl, hn, by simpa [maxLen] using hm⟩

/-- A list with two marks behind it. -/
def Lent (l : List UInt8) (w : World) (e : Ending) (w' : World) : Prop :=
  ∃ g c, e = .returned (.slice (some ⟨g, 0, none⟩) l.length c) ∧ l.length + 2 ≤ c ∧ c ≤ 9223372036854775807 ∧ Rd w' w'.heap.size (some ⟨g, 0, none⟩) (l.length + 2) (bv (l ++ [77, 78])) ∧ Below w.heap.size w w'

set_option maxRecDepth 100000 in
set_option maxHeartbeats 1000000 in
theorem lent_any (A : Option Addr) (c : Nat) (l : List UInt8) (w : World) (hr : Rd w w.heap.size A l.length (bv l)) (h : l.length + 2 ≤ 140737488355328) :
    Calls Try.prog 10 #[.slice A l.length c] w (Lent l w) := by
  obtain ⟨i0, hi, hz0, hz1, hz2⟩ := info_parts infoU8
  have HR := Lib.hid hr
  clear hr
  go_enter Try.func10, Try.ntmps10
  go_wp2_with (first
    | (at_builtin; (refine wp_app _ rfl (.tmp 3) (.tmp 4) 22 22 rfl w.heap.size 5 i0 _ 1 Try.underlying22 hi hz0 hz1 hz2 rfl (.slice (some ⟨w.heap.size, 0, none⟩) 0 0) 0 [] rfl (World.ownsRow_made w #[] 0 (Nat.le_refl _) (Nat.zero_le _) rfl) (.slice A l.length c) l.length (bv l) rfl ((HR.out.alloc (Nat.le_refl _) _).src Try.underlying22 c (bv_one l)) (by unfold maxLen; omega) (by omega) (by simp) ?_); intro v1 w1 ho1 hg1 hat1; rw [Nat.zero_add, List.nil_append] at ho1; have hs1 : w.heap.size + 1 ≤ w1.heap.size := (by have := hg1.size; simpa using this))
    | (at_builtin; go_must (refine wp_app _ rfl (.tmp 5) (.tmp 6) 22 22 rfl w.heap.size 5 i0 _ 1 Try.underlying22 hi hz0 hz1 hz2 rfl v1 l.length (bv l) rfl (ho1.alloc _) _ 2 [Value.int .u8 77, Value.int .u8 78] rfl (new_src Try.underlying22 w1 [Value.int .u8 77, Value.int .u8 78] 2 2 5 (0, 0) rfl (by intro u hu; simp at hu; rcases hu with rfl | rfl <;> rfl)) (by unfold maxLen; omega) (by omega) (by simp; omega) ?_); intro v2 w2 ho2 hg2 hat2; obtain ⟨g2, c2, hv2, hn2, hm2⟩ := own_form' ho2 (by omega); subst hv2))
  go_ret
  have hb1 : Below w.heap.size w w1 := ((Below.refl _ _).alloc (Nat.le_refl _) _).grown hg1 (by simp) (fun q hq => Nat.le_of_eq (Option.some.inj hq))
  have hb2 : Below w.heap.size w w2 := (hb1.alloc (by omega) _).grown hg2 (by simp; omega) (fun q hq => (ho1.lt q hq).1)
  refine ⟨g2, c2, rfl, hn2, hm2, ?_, hb2⟩
  have h2 := Rd.of_own ho2
  rw [bv_append]
  exact h2
end Go.Proofs.Ytemcfmneokbhkaa
