/- WireHeads, where what is read is of bulk at most 1048576: a number's, a text's or a list's bytes with some of the last ones missing end too early. -/
import Derived.Test.YtlgkckokcednaaaHeadsW
import Derived.Test.YtlgkckokcednaaaLift
import Derived.Test.YtlgkckokcednaaaOpen
import Derived.Test.YtlgkckokcednaaaBulk
namespace Go.Proofs.Ytlgkckokcednaaa
open Go Go.ChangeShapes Go.WideShapes Go.RowKit

theorem wireHeads_bulk {H : Type} {d0 d1 d2 : DataW H} {L : List ByteArray} {c0 : Nat} (h1 : (d1 = .nil ∧ L = []) ∨ ∃ sp, d1 = .slice (strs L) sp ∧ L.length + sp.length = c0)
    (hk : Rows.uptoBulk d0 + (Rows.uptoBulk d1 + (Rows.uptoBulk d2 + 0)) ≤ 1048576) : (Wi.list (tl L)).length ≤ 20000000 ∧ (∀ s ∈ L, s.size ≤ 1048576) ∧ L.length ≤ 1048576 :=
  in_strs_bulk h1 (by omega)
set_option maxRecDepth 100000 in
theorem wireHeads_upto : Rows.WireHeadsUptoSaid :=
  OpenClaim.holds_of_cond 9 Try.f9 rfl rfl rfl rfl rfl rfl rfl ⟨rfl, rfl, rfl, rfl, rfl⟩ rfl rfl rfl rfl rfl (by kernel_rfl) Try.func9 (by kernel_rfl)
    (of_decide_eq_true (by kernel_rfl)) (by unfold Func.isWrapper; first | (rw [if_pos (by decide +kernel)]; kernel_rfl) | (rw [if_neg (by decide +kernel)]; exact ⟨rfl, rfl⟩))
    (fun os started H enc _ F => liftUpto (s := Rows.wireHeadsSpec) ⟨#[], #[.int .i64 0, .slice none 0 0, .int .i64 0], []⟩ rfl (by kernel_rfl) Try.func9 (by kernel_rfl) (by kernel_rfl) (fun _ => by kernel_rfl) (fun _ => by kernel_rfl) (fun _ => by kernel_rfl)
      (fun _ => [.lit (.int .i64 0), .nil, .lit (.int .i64 0)]) [] (fun _ _ _ => by kernel_rfl) (fun _ => by kernel_rfl) (fun _ _ _ => by kernel_rfl)
      (fun H enc W base args ds p hval hA hk => by
        rw [Try.params9] at hA hval
        obtain ⟨v0, v1, v2, d0, d1, d2, p0, p1, p2, rfl, rfl, rfl, h0, h1, h2⟩ := trodAll_three hA
        obtain ⟨b0, rfl, rfl, rfl, wf0⟩ := open_int Try.underlying3 (hval 0 3 v0 rfl rfl) h0
        obtain ⟨A1, c1, l1, hb1⟩ := open_strs Try.underlying44 Try.underlying9 (by kernel_rfl) (hval 1 44 v1 rfl rfl) h1
        obtain ⟨rfl, hl1, hm1, hr1, hq1⟩ := hb1
        obtain ⟨b2, rfl, rfl, rfl, wf2⟩ := open_int Try.underlying3 (hval 2 3 v2 rfl rfl) h2
        simp only [Rows.uptoBulkAll] at hk
        exact ⟨rfl, wireHeads_walk b0 A1 c1 l1 b2 W (int_of_wf wf0) hr1 hl1 hm1 (int_of_wf wf2) (wireHeads_bulk hq1 hk)⟩) os started H enc F)
#print axioms wireHeads_upto
end Go.Proofs.Ytlgkckokcednaaa
