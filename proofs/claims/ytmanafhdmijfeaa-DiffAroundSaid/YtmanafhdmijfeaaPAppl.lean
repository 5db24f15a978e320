/- The program's Apply. -/
import Derived.Test.YtmanafhdmijfeaaPOver
namespace Go.Proofs.Ytmanafhdmijfeaa
open Go Go.RowKit

/-- A builder, of this text, in block B. -/
def BldI (B : Nat) (_ : List UInt8) (out : List UInt8) (_ : List Ed) (_ : Nat) (w : World) : Prop := Lib.IsBuilderF 59 5 B B (Lib.byteCells out) w

theorem bld_at {B : Nat} {p : Value} {bs : List Value} {w w' : World} (h : Lib.BuilderAtF 59 5 B B p bs w) (hb : Below w.heap.size w w') : Lib.BuilderAtF 59 5 B B p bs w' := by
  obtain ⟨h1, v, h2, h3, h4⟩ := h
  have hlt : B < w.heap.size := by
    rcases Nat.lt_or_ge B w.heap.size with h' | h'
    · exact h'
    · simp [Array.getElem?_eq_none h'] at h2
  exact ⟨h1, v, (hb.block B hlt).trans h2, h3.kept (row := none) ⟨hb.os, hb.tape, hb.output, hb.size, fun j hj _ => hb.block j hj⟩ (by cases hv : v.ownBlock <;> simp), h4⟩
theorem bld_later {B : Nat} {bs : List Value} {w w' : World} (h : Lib.IsBuilderF 59 5 B B bs w) (hb : Below w.heap.size w w') : Lib.IsBuilderF 59 5 B B bs w' :=
  h.imp (fun k => bld_at k hb) (fun k => bld_at k hb)
theorem bld_blk {B : Nat} {bs : List Value} {w : World} (h : Lib.IsBuilderF 59 5 B B bs w) : ∃ cs, Blk w B 59 cs := by
  rcases h with ⟨_, v, h2, _⟩ | ⟨_, v, h2, _⟩ <;> exact ⟨_, h2⟩
theorem kept_blk {B g : Nat} {bs : List Value} {cs : Array Value} {w w' : World} (h : Lib.IsBuilderF 59 5 B B bs w) (hk : Lib.OthersKept 5 (some B) w w') (hg : Blk w g 32 cs) : Blk w' g 32 cs := by
  obtain ⟨cb, hcb⟩ := bld_blk h
  refine hk g _ hg ?_ ?_
  · intro e
    obtain rfl : g = B := by simpa using e
    unfold Blk at hcb hg
    rw [hcb] at hg
    simp at hg
  · intro c fz e
    simp at e

set_option maxRecDepth 100000 in
set_option maxHeartbeats 2000000 in
theorem hands_apply (B : Nat) : Hands 29 B (BldI B) where
  ent := enters_of Try.func29 (by kernel_rfl) rfl
  keep := fun a out R T w w' h hb => bld_later h hb
  act := by
    intro a out x R T w hm hn ha hp hBw hTw hI
    unfold BldI at hI ⊢
    have hI2 := bld_later hI (below_alloc w (.cells #[.int .i64 x.kind, .int .i64 x.n, .string (sB x.text)] 32))
    have HI := Lib.hid hI
    have HK := Lib.hid (mayB_kind' hm)
    have hsz := sB_size x.text
    have hsz2 := sB_size (a.take x.n.toNat)
    have hbc := Lib.byteCells_length out
    have hpc := put1_cut (a := a) (out := out) hm
    obtain ⟨kd, n, t⟩ := x
    unfold edV
    simp only [] at hn hp hI2 hsz hsz2 hpc HK ⊢
    have hBa : B ≤ (w.alloc (.cells #[.int .i64 kd, .int .i64 n, .string (sB t)] 32)).heap.size := Nat.le_trans hBw (below_alloc w _).size
    have HBA := Lib.hid ((below_alloc w (.cells #[.int .i64 kd, .int .i64 n, .string (sB t)] 32)).mono hBw)
    have HP := Lib.hid hp
    have HPC := Lib.hid hpc
    clear hI hp hpc hm
    by_cases h1 : kd = 1
    · subst h1
      have hpe : put1 a out ⟨1, n, t⟩ = out ++ a.take n.toNat := by unfold put1; simp
      have hlen : (Lib.byteCells out).length + (sB (a.take n.toNat)).size ≤ 140737488355328 := by
        have := HP.out; rw [hpe, List.length_append] at this; rw [hbc, hsz2]; omega
      have HC := Lib.hid (bws_any B B _ (sB (a.take n.toNat)) _ hI2 hlen hBa)
      rw [hpe]
      clear hpe hlen
      go_enter Try.func29, Try.ntmps29
      go_wp2_with fail
      refine HC.out.mono ?_; rintro e w2 ⟨rfl, h1, b1, k1⟩
      go_wp2_with fail
      go_end0
      exact ⟨rfl, HBA.out.trans b1, ⟨w2.heap.size, Nat.le_refl _, by rw [Lib.byteCells_append]; exact Or.inr h1⟩, fun g cs _ hg => kept_blk hI2 k1 (hg.alloc _)⟩
    by_cases h3 : kd = 3
    · subst h3
      have hpe : put1 a out ⟨3, n, t⟩ = out ++ t := by unfold put1; simp
      have hlen : (Lib.byteCells out).length + (sB t).size ≤ 140737488355328 := by
        have := HP.out; rw [hpe, List.length_append] at this; rw [hbc, hsz]; omega
      have HC := Lib.hid (bws_any B B _ (sB t) _ hI2 hlen hBa)
      rw [hpe]
      clear hpe hlen
      go_enter Try.func29, Try.ntmps29
      go_wp2_with fail
      refine HC.out.mono ?_; rintro e w2 ⟨rfl, h1, b1, k1⟩
      go_wp2_with fail
      go_end0
      exact ⟨rfl, HBA.out.trans b1, ⟨w2.heap.size, Nat.le_refl _, by rw [Lib.byteCells_append]; exact Or.inr h1⟩, fun g cs _ hg => kept_blk hI2 k1 (hg.alloc _)⟩
    · obtain rfl : kd = 2 := by have := HK.out; omega
      rw [HPC.out rfl]
      have b1 : ((2 : Int) == 1) = false := rfl
      have b3 : ((2 : Int) == 3) = false := rfl
      go_enter Try.func29, Try.ntmps29
      go_wp2_with fail
      go_end0
      first | exact ⟨rfl, HBA.out, ⟨_, Nat.le_refl _, hI2⟩, fun g cs _ hg => hg.alloc _⟩ | exact ⟨rfl, HBA.out, hI2, fun g cs _ hg => hg.alloc _⟩ | exact ⟨rfl, HBA.out, ⟨⟨_, Nat.le_refl _⟩, hI2⟩, fun g cs _ hg => hg.alloc _⟩

set_option maxRecDepth 100000 in
set_option maxHeartbeats 2000000 in
theorem papply_any (a : List UInt8) (A : Option Addr) (c : Nat) (L : List Ed) (w : World) (h : Rd w w.heap.size A (L.length * 3) (ev L)) (hl : L.length ≤ 4611686018427387904) (_hc : L.length ≤ c ∧ c ≤ 9223372036854775807) (ht : ∀ x ∈ L, x.text.length ≤ 4611686018427387904) (_hal : a.length ≤ 4611686018427387904) :
    Calls Try.prog 16 #[.string (sB a), .slice A L.length c] w fun x w' => x = .returned (resA (applyS a L)) ∧ Below w.heap.size w w' := by
  have hb0 := below_alloc w (.cells #[.pointer none, .slice none 0 0] 59)
  have HO := Lib.hid (over_any _ _ _ (hands_apply w.heap.size) a A c _ L (w.alloc (.cells #[.pointer none, .slice none 0 0] 59)) (h.below hb0) hl ht hb0.size (Nat.le_refl _) (show BldI _ _ _ _ _ _ from Lib.IsBuilderF.of (Lib.fresh_isBuilder _ _ w)))
  have HB0 := Lib.hid hb0
  have hmf : ∀ (fn : Fn) (first cap : Array Value) (w : World), (Instr.makeFunc fn first cap).run Try.prog w = .ok (.func fn first cap) w := fun _ _ _ _ => rfl
  clear h hb0
  go_enter Try.func16, Try.ntmps16
  go_wp2_with fail
  refine HO.out.mono ?_; rintro e w1 ⟨hB1, hE⟩
  have HB1 := Lib.hid (HB0.out.trans hB1)
  rcases hE with ⟨n, hap, rfl⟩ | ⟨s, T, hap, rfl, hT, hI⟩
  · have hne : ((n : Int) != 0) = true := by rw [bne_iff_ne]; have := applyS_err hap; omega
    have hne2 : ¬ n = 0 := by have := applyS_err hap; omega
    have HAP := Lib.hid hap
    clear hap hB1
    go_wp2_with fail
    go_ret2
    rw [HAP.out]
    exact ⟨rfl, HB1.out⟩
  · have HAP := Lib.hid hap
    have HS := Lib.hid (Try.Builder_String_any_k w.heap.size w.heap.size s w1 hI HB1.out.size)
    clear hap hB1 hI hT
    go_wp2_with fail
    refine HS.out.mono ?_; rintro e w2 ⟨rfl, -, b2, -⟩
    go_wp2_with fail
    go_ret2
    rw [HAP.out]
    exact ⟨rfl, HB1.out.trans b2⟩
end Go.Proofs.Ytmanafhdmijfeaa
