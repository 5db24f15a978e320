/- WireLists, where what is read is of bulk at most 1048576: every list has the document's bytes, and the list at any place of any bytes is read, or refused, as the document says. -/
import Derived.Test.YtlgkckokcednaaaListsW
import Derived.Test.YtlgkckokcednaaaLift
import Derived.Test.YtlgkckokcednaaaOpen
import Derived.Test.YtlgkckokcednaaaBulk
namespace Go.Proofs.Ytlgkckokcednaaa
open Go Go.ChangeShapes Go.WideShapes Go.RowKit

theorem wireLists_bulk {H : Type} {d0 d1 d2 : DataW H} {L : List ByteArray} {c0 c : Nat} (h0 : (d0 = .nil ∧ L = []) ∨ ∃ sp, d0 = .slice (strs L) sp ∧ L.length + sp.length = c0) (h1 : (d1 = .nil ∧ c = 0) ∨ ∃ es sp, d1 = .slice es sp ∧ es.length + sp.length = c)
    (hk : Rows.uptoBulk d0 + (Rows.uptoBulk d1 + (Rows.uptoBulk d2 + 0)) ≤ 1048576) : ((Wi.list (tl L)).length ≤ 20000000 ∧ (∀ s ∈ L, s.size ≤ 1048576) ∧ L.length ≤ 1048576) ∧ c ≤ 1048576 :=
  ⟨in_strs_bulk h0 (by omega), in_bytes_bulk h1 (by omega)⟩

set_option maxRecDepth 100000 in
theorem wireLists_upto : Rows.WireListsUptoSaid :=
  OpenClaim.holds_of_cond 6 Try.f6 rfl rfl rfl rfl rfl rfl rfl ⟨rfl, rfl, rfl, rfl, rfl⟩ rfl rfl rfl rfl rfl (by kernel_rfl) Try.func6 (by kernel_rfl)
    (of_decide_eq_true (by kernel_rfl)) (by unfold Func.isWrapper; first | (rw [if_pos (by decide +kernel)]; kernel_rfl) | (rw [if_neg (by decide +kernel)]; exact ⟨rfl, rfl⟩))
    (fun os started H enc _ F => liftUpto (s := Rows.wireListsSpec) ⟨#[], #[.slice none 0 0, .slice none 0 0, .int .i64 0], []⟩ rfl (by kernel_rfl) Try.func6 (by kernel_rfl) (by kernel_rfl) (fun _ => by kernel_rfl) (fun _ => by kernel_rfl) (fun _ => by kernel_rfl)
      (fun _ => [.nil, .nil, .lit (.int .i64 0)]) [] (fun _ _ _ => by kernel_rfl) (fun _ => by kernel_rfl) (fun _ _ _ => by kernel_rfl)
      (fun H enc W base args ds p hval hA hk => by
        rw [Try.params6] at hA hval
        obtain ⟨v0, v1, v2, d0, d1, d2, p0, p1, p2, rfl, rfl, rfl, h0, h1, h2⟩ := trodAll_three hA
        obtain ⟨A0, c0, l0, hb0⟩ := open_strs Try.underlying44 Try.underlying9 (by kernel_rfl) (hval 0 44 v0 rfl rfl) h0
        obtain ⟨rfl, hl0, hm0, hr0, hq0⟩ := hb0
        obtain ⟨A1, c1, l1, hb1⟩ := open_bytes Try.underlying22 Try.underlying5 (by kernel_rfl) (hval 1 22 v1 rfl rfl) h1
        obtain ⟨rfl, hl1, hm1, hr1, hq1⟩ := hb1
        obtain ⟨b2, rfl, rfl, rfl, wf2⟩ := open_int Try.underlying3 (hval 2 3 v2 rfl rfl) h2
        simp only [Rows.uptoBulkAll] at hk
        exact ⟨rfl, wireLists_walk A0 c0 l0 A1 c1 l1 b2 W hr0 hl0 hm0 hr1 hl1 hm1 (int_of_wf wf2) (wireLists_bulk hq0 hq1 hk)⟩) os started H enc F)
#print axioms wireLists_upto
end Go.Proofs.Ytlgkckokcednaaa
