/- A region that draws its order, whose operations read, and whose calls make memory and hand back one value whatever the world: ONE WALK, in the order of the text, in the class of the worlds that have grown. -/
import Derived.Test.YtemcfmneokbhkaaOwn
import Derived.Deep.QuietTactic
import Derived.BigQuiet
import Derived.OrdersHeld
namespace Go.Proofs.Ytemcfmneokbhkaa
open Go Go.RowKit

/-- A world that has grown out of w: all that there was is as it was. -/
structure Grw (w : World) where
  val : World
  prop : Below w.heap.size w val

instance grw_some (w : World) : Nonempty (Grw w) := ⟨⟨w, Below.refl _ _⟩⟩

section
variable {P : Program} {w : World}

theorem wp_region_grow {id : Nat} {Q : Exit → Act → World → Prop} {a : Act} {l : List Oper} (hm : P.follows .mixedOrders = true) (hB : Region.lexB .any l.toArray = true)
    (h : wpQuiet P l.toArray (fun w' => ∃ u : Grw w, w' = u.val) (fun a' => ∀ w', (∃ u : Grw w, w' = u.val) → Q .normal a' w') l a) : (Code.region id l.toArray true).wp P Q a w :=
  wp_region_quiet (C := fun w' => ∃ u : Grw w, w' = u.val) hm hB ⟨⟨_, (Below.refl _ _).drew⟩, rfl⟩ (by simpa using h)

/-- A call that makes memory. -/
theorem grow_call {f : FuncId} {args : Array Value} {v : Value} {u : Grw w} (h : Calls P f args u.val (Ret v u.val)) : Calls P f args u.val fun e w'' => e = .returned v ∧ ∃ u' : Grw w, w'' = u'.val :=
  h.mono fun _ w' ⟨he, hb⟩ => ⟨he, ⟨w', below_of u.prop hb⟩, rfl⟩
/-- A call that leaves the world alone. -/
theorem grow_same {f : FuncId} {args : Array Value} {v : Value} {u : Grw w} (h : Calls P f args u.val fun e w' => e = .returned v ∧ u.val = w') : Calls P f args u.val fun e w'' => e = .returned v ∧ ∃ u' : Grw w, w'' = u'.val :=
  h.mono fun _ _ ⟨he, hw⟩ => ⟨he, u, hw.symm⟩
/-- A call that only draws. -/
theorem grow_drew {f : FuncId} {args : Array Value} {v : Value} {u : Grw w} (h : Calls P f args u.val fun e w' => e = .returned v ∧ ∃ n, w' = u.val.drewN n) : Calls P f args u.val fun e w'' => e = .returned v ∧ ∃ u' : Grw w, w'' = u'.val :=
  h.mono fun _ w' ⟨he, n, hw⟩ => ⟨he, ⟨w', by rw [hw]; exact below_drewN u.prop n⟩, rfl⟩
theorem Rd.grw {B n : Nat} {A : Option Addr} {xs : List Value} (h : Rd w B A n xs) (hB : B ≤ w.heap.size) (u : Grw w) : Rd u.val B A n xs := h.below (u.prop.mono hB)
end

/-! ### From the midst of a region on, in an order of one's own -/

/-- Each of these may come up in its turn, and nobody who could come before it touches its temporaries; behind them all have come up. -/
def alongB (md : Region.Mode) (ops : Array Oper) : List Nat → Array Bool → Bool
  | [], listed => (Region.ready md ops listed).isEmpty
  | i :: is, listed => (Region.ready md ops listed).contains i && Region.free md ops listed i && alongB md ops is (listed.setIfInBounds i true)

/-- These operations, by their numbers. -/
def Picks (ops : Array Oper) : List Nat → List Oper → Prop
  | [], [] => True
  | i :: is, o :: l => ops[i]? = some o ∧ Picks ops is l
  | _, _ => False
theorem Picks.nil (ops : Array Oper) : Picks ops [] [] := trivial
theorem Picks.cons {ops : Array Oper} {i : Nat} {o : Oper} {is : List Nat} {l : List Oper} (h : ops[i]? = some o) (t : Picks ops is l) : Picks ops (i :: is) (o :: l) := ⟨h, t⟩

theorem wpAnyQ_along {P : Program} {md : Region.Mode} {ops : Array Oper} {C : World → Prop} {Q : Act → Prop} (hs : Region.noSelect ops = true) : ∀ (l : List Oper) (is : List Nat) (listed : Array Bool) (a : Act),
    Picks ops is l → alongB md ops is listed = true → wpQuiet P ops C Q l a → wpAnyQ P md ops C Q l.length listed a
  | [], [], listed, a, _, hB, h => ⟨by simpa [alongB] using hB, h⟩
  | [], _ :: _, _, _, hl, _, _ => hl.elim
  | _ :: _, [], _, _, hl, _, _ => hl.elim
  | o :: l, i :: is, listed, a, hl, hB, h => by
    obtain ⟨h0, hl'⟩ := hl
    simp only [alongB, Bool.and_eq_true] at hB
    obtain ⟨⟨hr, hf⟩, hB'⟩ := hB
    have hst : qOp P ops C i (wpQuiet P ops C Q l) a := by unfold qOp; simp only [h0]; exact h
    obtain ⟨v, hy, hK⟩ := yieldsIn_of_qOp h0 hst
    exact wpAnyQ_first h0 (Region.noSelect_spec hs) l.length listed a (Region.free_spec h0 hf) (by simpa using hr) hy
      (wpAnyQ_along hs l is _ _ hl' hB' hK)

theorem wpAny_grow {P : Program} {ops : Array Oper} {Q : Exit → Act → World → Prop} {a : Act} {w : World} {listed : Array Bool} {is : List Nat} {l : List Oper} {n : Nat} (hs : Region.noSelect ops = true) (hl : Picks ops is l)
    (hB : alongB .any ops is listed = true) (hn : l.length = n) (h : wpQuiet P ops (fun w' => ∃ u : Grw w, w' = u.val) (fun a' => ∀ w', (∃ u : Grw w, w' = u.val) → Q .normal a' w') l a) : wpAny P .any ops Q n listed a w := by
  subst hn
  exact wpAny_of_quiet (C := fun w' => ∃ u : Grw w, w' = u.val) (Q := fun a' => ∀ w', (∃ u : Grw w, w' = u.val) → Q .normal a' w') (fun _ w' hw' h => h w' hw') _ _ _ _ ⟨⟨_, Below.refl _ _⟩, rfl⟩ (wpAnyQ_along hs l is listed a hl hB h)

/-! ### The same, where something is held behind every operation -/

theorem wpAnyH_of_quiet {P : Program} {md : Region.Mode} {ops : Array Oper} {C S : World → Prop} {Q : Act → Prop} {Q' : Exit → Act → World → Prop} (hS : ∀ w, C w → S w) (hQ : ∀ a w, C w → Q a → Q' .normal a w) : ∀ (fuel : Nat) (listed : Array Bool) (a : Act) (w : World), C w →
    wpAnyQ P md ops C Q fuel listed a → wpAnyH P md ops Q' S fuel listed a w
  | 0, _, _, _, hw, h => ⟨h.1, hQ _ _ hw h.2⟩
  | fuel + 1, _, _, _, hw, h => ⟨fun h0 => hQ _ _ hw (h.1 h0), fun i hi => wpOp_of_qOp hw (fun a' w' hw' hk => ⟨hS _ hw', wpAnyH_of_quiet hS hQ fuel _ a' w' hw' hk⟩) (h.2 i hi)⟩

theorem wpAnyH_grow {P : Program} {ops : Array Oper} {S : World → Prop} {Q : Exit → Act → World → Prop} {a : Act} {w : World} {listed : Array Bool} {is : List Nat} {l : List Oper} {n : Nat} (hs : Region.noSelect ops = true) (hl : Picks ops is l)
    (hB : alongB .any ops is listed = true) (hn : l.length = n) (hS : ∀ u : Grw w, S u.val) (h : wpQuiet P ops (fun w' => ∃ u : Grw w, w' = u.val) (fun a' => ∀ w', (∃ u : Grw w, w' = u.val) → Q .normal a' w') l a) : wpAnyH P .any ops Q S n listed a w := by
  subst hn
  exact wpAnyH_of_quiet (C := fun w' => ∃ u : Grw w, w' = u.val) (Q := fun a' => ∀ w', (∃ u : Grw w, w' = u.val) → Q .normal a' w') (fun w' ⟨u, hu⟩ => by subst hu; exact hS u) (fun _ w' hw' h => h w' hw') _ _ _ _ ⟨⟨_, Below.refl _ _⟩, rfl⟩ (wpAnyQ_along hs l is listed a hl hB h)

/-- One operation alone may come up: behind it what is held is shown anew. -/
theorem held_one {P : Program} {md : Region.Mode} {ops : Array Oper} {S : World → Prop} {Q : Exit → Act → World → Prop} {fuel : Nat} {listed : Array Bool} {a : Act} {w : World} {i : Nat} {o : Oper} (hr : Region.ready md ops listed = [i]) (ho : ops[i]? = some o)
    (h : ∀ K' : Act → World → Prop, (∀ a w, S w → wpAnyH P md ops Q S fuel (listed.setIfInBounds i true) a w → K' a w) → if Region.wanted o (yielded ops a.tmps) = true then Oper.wp P o a w K' Q else K' (a.put o.dst undef) w) : wpAnyH P md ops Q S (fuel + 1) listed a w :=
  wpAnyH_all hr (by simp) fun j hj => by
    obtain rfl : j = i := by simpa using hj
    exact wpOp_step ho fun K' hK' => h K' fun a w hS hw => hK' a w ⟨hS, hw⟩
end Go.Proofs.Ytemcfmneokbhkaa
