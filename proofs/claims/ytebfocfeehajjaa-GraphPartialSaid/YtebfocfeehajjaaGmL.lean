/- The lattice: heads reach all, what two have in common is what both reach; questions' answers in one form. -/
import Derived.Test.YtebfocfeehajjaaAlivG
import Derived.Test.YtebfocfeehajjaaOpenG
namespace Go.Proofs.Ytebfocfeehajjaa
open Go Go.RowKit

namespace Gr
section
variable {α : Type} [DecidableEq α] {l : List (Nd α)} {S T : List α} {d : α}
theorem rch_sub (h : ∀ s ∈ S, Rch l T s) (hd : Rch l S d) : Rch l T d := by
  induction hd with
  | base hd => exact h _ hd
  | step _ hp ih => exact .step ih hp
theorem rch_mono (h : ∀ s ∈ S, s ∈ T) (hd : Rch l S d) : Rch l T d := rch_sub (fun s hs => .base (h s hs)) hd
theorem rch_rch (h : Rch l S d) {e : α} (he : Rch l [d] e) : Rch l S e := rch_sub (fun s hs => by rw [List.mem_singleton.1 hs]; exact h) he
variable (less : α → α → Bool)
theorem heads_reach (hl : Ok l) (hS : ∀ s ∈ S, s ∈ idsOf l) : ∀ (n : Nat) (d : α), l.length - fnd l d ≤ n → Rch l S d → Rch l (headsL less l S) d
  | 0, d, hn, hd => by
    have := fnd_lt.2 (hd.ids hl hS)
    omega
  | n + 1, d, hn, hd => by
    by_cases h : ∃ e, Rch l S e ∧ d ∈ psOf l e
    · obtain ⟨e, he, hp⟩ := h
      have hlt := (hl.par hp).2.2
      have := fnd_lt.2 (he.ids hl hS)
      exact .step (heads_reach hl hS n e (by omega) he) hp
    · refine .base ((mem_heads less hl hS).2 ⟨?_, fun e he hp => h ⟨e, he, hp⟩⟩)
      cases hd with
      | base hd => exact hd
      | step he hp => exact absurd ⟨_, he, hp⟩ h
theorem heads_in (hl : Ok l) (hS : ∀ s ∈ S, s ∈ idsOf l) : ∀ s ∈ headsL less l S, s ∈ S := fun _ h => ((mem_heads less hl hS).1 h).1
theorem rch_heads (hl : Ok l) (hS : ∀ s ∈ S, s ∈ idsOf l) : Rch l (headsL less l S) d ↔ Rch l S d :=
  ⟨rch_mono (heads_in less hl hS), fun h => heads_reach less hl hS _ d (Nat.le_refl _) h⟩
theorem within_rch (hl : Ok l) (hT : ∀ s ∈ T, s ∈ idsOf l) : withinB less l S T = true ↔ ∀ d ∈ S, Rch l T d := by
  rw [within_iff]
  exact ⟨fun h d hd => (mem_above less hl hT).1 (h d hd), fun h d hd => (mem_above less hl hT).2 (h d hd)⟩
/-- What both reach. -/
theorem rch_common (hl : Ok l) (hS : ∀ s ∈ S, s ∈ idsOf l) (hT : ∀ s ∈ T, s ∈ idsOf l) : (∀ s ∈ commonL less l S T, s ∈ idsOf l) ∧ ∀ d, Rch l (commonL less l S T) d ↔ Rch l S d ∧ Rch l T d := by
  have hm : ∀ d, d ∈ ((aboveL less l S).filter fun d => decide (d ∈ aboveL less l T)) ↔ Rch l S d ∧ Rch l T d := fun d => by
    rw [List.mem_filter, mem_above less hl hS, decide_eq_true_iff, mem_above less hl hT]
  have hids : ∀ s ∈ ((aboveL less l S).filter fun d => decide (d ∈ aboveL less l T)), s ∈ idsOf l := fun s hs => ((hm s).1 hs).1.ids hl hS
  refine ⟨fun s hs => hids s (heads_in less hl hids s hs), fun d => ?_⟩
  unfold commonL
  rw [rch_heads less hl hids]
  constructor
  · intro h
    induction h with
    | base h => exact (hm _).1 h
    | step _ hp ih => exact ⟨.step ih.1 hp, .step ih.2 hp⟩
  · intro h
    exact .base ((hm d).2 h)
end
end Gr
theorem askE_zero {l : List Nod} {Ls : List (List (List UInt8))} (h : askE l Ls = 0) : (chk l).2 = 0 ∧ ∀ q ∈ Ls, ∀ s ∈ q, s ∈ Gr.idsOf l := by
  unfold askE at h
  split at h
  · rename_i h1; exact absurd h h1
  · rename_i h1
    split at h
    · rename_i h2; exact ⟨by omega, h2⟩
    · cases h
theorem askE_ok {l : List Nod} {Ls : List (List (List UInt8))} (h : (chk l).2 = 0) (h2 : ∀ q ∈ Ls, ∀ s ∈ q, s ∈ Gr.idsOf l) : askE l Ls = 0 := by
  unfold askE
  rw [if_neg (by rw [h]; decide), if_pos h2]
theorem askE_two {l : List Nod} {a b : List (List UInt8)} (h : (chk l).2 = 0) (ha : ∀ s ∈ a, s ∈ Gr.idsOf l) (hb : ∀ s ∈ b, s ∈ Gr.idsOf l) : askE l [a, b] = 0 := askE_ok h (fun q hq => by
  rcases List.mem_cons.1 hq with rfl | hq
  · exact ha
  · rw [List.mem_singleton.1 hq]; exact hb)
theorem askE_one {l : List Nod} {a : List (List UInt8)} (h : (chk l).2 = 0) (ha : ∀ s ∈ a, s ∈ Gr.idsOf l) : askE l [a] = 0 := askE_ok h (fun q hq => by rw [List.mem_singleton.1 hq]; exact ha)
theorem askE_two_in {l : List Nod} {a b : List (List UInt8)} (h : askE l [a, b] = 0) : (chk l).2 = 0 ∧ (∀ s ∈ a, s ∈ Gr.idsOf l) ∧ ∀ s ∈ b, s ∈ Gr.idsOf l :=
  ⟨(askE_zero h).1, (askE_zero h).2 a (by simp), (askE_zero h).2 b (by simp)⟩
theorem askE_one_in {l : List Nod} {a : List (List UInt8)} (h : askE l [a] = 0) : (chk l).2 = 0 ∧ ∀ s ∈ a, s ∈ Gr.idsOf l := ⟨(askE_zero h).1, (askE_zero h).2 a (by simp)⟩

/-- What is told: nothing where there is an error. -/
def ans (er : Nat) (R : List (List UInt8)) : List (List UInt8) := if er = 0 then R else []
theorem lst_uni {er : Nat} {R : List (List UInt8)} {w : World} {e : Ending} {w' : World} (h : LstO er R w e w') : ∃ A c, e = .returned (.tuple #[.slice A (ans er R).length c, .int .i64 (er : Int)]) ∧ Rd w' w'.heap.size A ((ans er R).length * 32) (rows bv (ans er R)) ∧ (ans er R).length ≤ 200 ∧ Below w.heap.size w w' := by
  obtain ⟨hb, ⟨h1, rfl⟩ | ⟨rfl, h2, A, c, rfl, ho⟩⟩ := h
  · have : ans er R = [] := if_neg h1
    rw [this]
    exact ⟨none, 0, rfl, Rd.nil _ _ _, by decide, hb⟩
  · exact ⟨A, c, rfl, Rd.of_ownK ho, h2, hb⟩
theorem bol_uni {er : Nat} {b : Bool} {w : World} {e : Ending} {w' : World} (h : BolO er b w e w') : e = .returned (.tuple #[.bool (decide (er = 0) && b), .int .i64 (er : Int)]) ∧ Below w.heap.size w w' := by
  obtain ⟨hb, ⟨h1, rfl⟩ | ⟨rfl, rfl⟩⟩ := h
  · rw [decide_eq_false h1]; exact ⟨rfl, hb⟩
  · exact ⟨rfl, hb⟩
theorem ids32 {ll : List (Nod × Option Addr × Nat)} {w : World} (h : NIn w ll) : ∀ s ∈ Gr.idsOf (nsOf ll), s.length = 32 := by
  intro s hs
  unfold Gr.idsOf nsOf at hs
  obtain ⟨x, hx, rfl⟩ := List.mem_map.1 hs
  obtain ⟨t, ht, rfl⟩ := List.mem_map.1 hx
  exact (h.each t ht).1
/-- A list that was told, as a question. -/
theorem ans_in {w : World} {R : List (List UInt8)} {A : Option Addr} (c : Nat) (hR : Rd w w.heap.size A (R.length * 32) (rows bv R)) (hl : R.length ≤ 200) (h32 : ∀ s ∈ R, s.length = 32) : QIn w [(R, A, c)] := ⟨fun q hq => by
  rw [List.mem_singleton] at hq
  subst hq
  exact ⟨h32, hR, by show R.length * 32 ≤ _; omega⟩⟩
theorem ans_ids {l : List Nod} {er : Nat} {R : List (List UInt8)} (h : er = 0 → ∀ s ∈ R, s ∈ Gr.idsOf l) : ∀ s ∈ ans er R, s ∈ Gr.idsOf l := by
  unfold ans
  split
  · rename_i h0; exact h h0
  · intro s hs; cases hs
/-- What a law of three lists has. -/
structure Law3 (ll : List (Nod × Option Addr × Nat)) (A0 : Option Addr) (q0 q1 q2 : Qst) (g : Nat) (W : World) : Prop where
  nin : NIn W ll
  rd : Rd W W.heap.size A0 (ll.length * 33) (rows nC ll)
  box : Blk W g 43 #[qv q0, qv q1, qv q2]
  i0 : QIn W [q0]
  i1 : QIn W [q1]
  i2 : QIn W [q2]
theorem Law3.later {ll : List (Nod × Option Addr × Nat)} {A0 : Option Addr} {q0 q1 q2 : Qst} {g : Nat} {W W' : World} (h : Law3 ll A0 q0 q1 q2 g W) (hb : Below W.heap.size W W') : Law3 ll A0 q0 q1 q2 g W' :=
  ⟨h.nin.later hb, h.rd.later hb, h.box.later hb, h.i0.later hb, h.i1.later hb, h.i2.later hb⟩
theorem bne_zero {n : Nat} (h : n ≠ 0) : ((n : Int) != 0) = true := by rw [bne_iff_ne]; omega
end Go.Proofs.Ytebfocfeehajjaa
