/- WireBack, where what is read is of bulk at most 1048576: a number, a text and a list that were put are got again, with anything ahead of them and behind them. -/
import Derived.Test.YtlgkckokcednaaaBackW
import Derived.Test.YtlgkckokcednaaaLift
import Derived.Test.YtlgkckokcednaaaOpen
import Derived.Test.YtlgkckokcednaaaBulk
namespace Go.Proofs.Ytlgkckokcednaaa
open Go Go.ChangeShapes Go.WideShapes Go.RowKit

theorem wireBack_bulk {H : Type} {d0 d1 e0 e1 : DataW H} {L : List ByteArray} {c0 cp cq : Nat} (h1 : (d1 = .nil ∧ L = []) ∨ ∃ sp, d1 = .slice (strs L) sp ∧ L.length + sp.length = c0)
    (h2 : (e0 = .nil ∧ cp = 0) ∨ ∃ es sp, e0 = .slice es sp ∧ es.length + sp.length = cp) (h3 : (e1 = .nil ∧ cq = 0) ∨ ∃ es sp, e1 = .slice es sp ∧ es.length + sp.length = cq)
    (hk : Rows.uptoBulk d0 + (Rows.uptoBulk d1 + (Rows.uptoBulk (DataW.agg [e0, e1]) + 0)) ≤ 1048576) : ((Wi.list (tl L)).length ≤ 20000000 ∧ (∀ s ∈ L, s.size ≤ 1048576) ∧ L.length ≤ 1048576) ∧ cp ≤ 1048576 ∧ cq ≤ 1048576 := by
  simp only [Rows.uptoBulk, Rows.uptoBulkAll] at hk
  exact ⟨in_strs_bulk h1 (by omega), in_bytes_bulk h2 (by omega), in_bytes_bulk h3 (by omega)⟩
set_option maxRecDepth 100000 in
theorem wireBack_upto : Rows.WireBackUptoSaid :=
  OpenClaim.holds_of_cond 7 Try.f7 rfl rfl rfl rfl rfl rfl rfl ⟨rfl, rfl, rfl, rfl, rfl⟩ rfl rfl rfl rfl rfl (by kernel_rfl) Try.func7 (by kernel_rfl)
    (of_decide_eq_true (by kernel_rfl)) (by unfold Func.isWrapper; first | (rw [if_pos (by decide +kernel)]; kernel_rfl) | (rw [if_neg (by decide +kernel)]; exact ⟨rfl, rfl⟩))
    (fun os started H enc _ F => liftUpto (s := Rows.wireBackSpec) ⟨#[], #[.int .i64 0, .slice none 0 0, .agg #[.slice none 0 0, .slice none 0 0]], []⟩ rfl (by kernel_rfl) Try.func7 (by kernel_rfl) (by kernel_rfl) (fun _ => by kernel_rfl) (fun _ => by kernel_rfl) (fun _ => by kernel_rfl)
      (fun _ => [.lit (.int .i64 0), .nil, .agg [.nil, .nil]]) [] (fun _ _ _ => by kernel_rfl) (fun _ => by kernel_rfl) (fun _ _ _ => by kernel_rfl)
      (fun H enc W base args ds p hval hA hk => by
        rw [Try.params7] at hA hval
        obtain ⟨v0, v1, v2, d0, d1, d2, p0, p1, p2, rfl, rfl, rfl, h0, h1, h2⟩ := trodAll_three hA
        obtain ⟨b0, rfl, rfl, rfl, wf0⟩ := open_int Try.underlying3 (hval 0 3 v0 rfl rfl) h0
        obtain ⟨A1, c1, l1, hb1⟩ := open_strs Try.underlying44 Try.underlying9 (by kernel_rfl) (hval 1 44 v1 rfl rfl) h1
        obtain ⟨rfl, hl1, hm1, hr1, hq1⟩ := hb1
        obtain ⟨A2, c2, l2, A2', c2', l2', x2, x2', y2, y2', rfl, rfl, hb2, hb2'⟩ := open_bytes2 Try.underlying53 Try.underlying22 Try.underlying5 (by kernel_rfl) (by kernel_rfl) (by kernel_rfl) (hval 2 53 v2 rfl rfl) h2
        obtain ⟨rfl, hl2, hm2, hr2, hq2⟩ := hb2
        obtain ⟨rfl, hl2', hm2', hr2', hq2'⟩ := hb2'
        simp only [Rows.uptoBulkAll] at hk
        exact ⟨rfl, wireBack_walk b0 A1 c1 l1 A2 c2 l2 A2' c2' l2' W (int_of_wf wf0) hr1 hl1 hm1 hr2 hl2 hm2 hr2' hl2' hm2' (wireBack_bulk hq1 hq2 hq2' hk)⟩) os started H enc F)
#print axioms wireBack_upto
end Go.Proofs.Ytlgkckokcednaaa
