/- The contracts of the document's answer for two parts: whether they are a spot, and which. -/
import Derived.Test.YtjhakblijmaicaaDoorFns
namespace Go.Proofs.YtjhakblijmaicaaDoor
open Go Go.RowKit

/-- What a call that makes memory alone leaves: its value, and all that was. -/
def Ret (v : Value) (w : World) : Ending → World → Prop := fun e w' => e = .returned v ∧ Below w.heap.size w w'

theorem bcell {W w1 : World} (hb : Below W.heap.size W w1) : (∀ b o, b < W.heap.size → w1.cell? ⟨b, o, none⟩ = W.cell? ⟨b, o, none⟩) ∧ (∀ b o, b < W.heap.size → w1.frozen? ⟨b, o, none⟩ = W.frozen? ⟨b, o, none⟩) :=
  ⟨fun b o h => hb.cell (p := ⟨b, o, none⟩) h, fun b o h => hb.frozen (p := ⟨b, o, none⟩) h⟩

abbrev spotV (n k : Nat) : Value := .agg #[.int .i64 (n : Int), .int .i64 (k : Int)]

theorem refPart_yes {b n : Nat} (h : Fl.part b = some n) (w : World) : Calls Tryd.prog 34 #[.float .f64 b] w fun e w' => e = .returned (.tuple #[.int .i64 n, .bool true]) ∧ w = w' :=
  (refPart_any b w).mono fun e w' ⟨⟨m, _, he, hp⟩, hw⟩ => by
    rw [h] at he hp
    have : n = m := by simpa using hp
    subst this
    exact ⟨he, hw⟩

theorem refPart_no {b : Nat} (h : Fl.part b = none) (w : World) : Calls Tryd.prog 34 #[.float .f64 b] w fun e w' => (∃ n : Nat, e = .returned (.tuple #[.int .i64 n, .bool false])) ∧ w = w' :=
  (refPart_any b w).mono fun e w' ⟨⟨m, _, he, _⟩, hw⟩ => by
    rw [h] at he
    exact ⟨⟨m, he⟩, hw⟩

set_option maxHeartbeats 400000 in
theorem refIs_yes (a b : Nat) (w : World) (m n : Nat) (h1 : Fl.part a = some m) (h2 : Fl.part b = some n) :
    Calls Tryd.prog 19 #[.float .f64 a, .float .f64 b] w (Ret (.tuple #[spotV m n, .bool true]) w) := by
  have C1 := Lib.hid (fun w => refPart_yes h1 w)
  have C2 := Lib.hid (fun w => refPart_yes h2 w)
  clear h1 h2
  go_enter Tryd.func19, Tryd.ntmps19
  go_wp2_with fail
  refine (C1.out _).mono ?_; rintro e w1 ⟨rfl, rfl⟩
  go_wp2_with fail
  refine (C2.out _).mono ?_; rintro e w1 ⟨rfl, rfl⟩
  go_wp2
  refine bodyPost_ret (v := .tuple #[spotV m n, .bool true]) (by simp [results, Tryd.results19, go_sem]) rfl ⟨rfl, ?_⟩
  exact (Below.refl _ _).alloc (Nat.le_refl _) _

set_option maxHeartbeats 400000 in
theorem refIs_no (a b : Nat) (w : World) (h : Fl.part a = none ∨ Fl.part b = none) :
    Calls Tryd.prog 19 #[.float .f64 a, .float .f64 b] w (Ret (.tuple #[spotV 0 0, .bool false]) w) := by
  have C2 := Lib.hid (fun w => refPart_any b w)
  by_cases ha : Fl.part a = none
  · have C1 := Lib.hid (fun w => refPart_no ha w)
    clear h ha
    go_enter Tryd.func19, Tryd.ntmps19
    go_wp2_with fail
    refine (C1.out _).mono ?_; rintro e w1 ⟨⟨m', rfl⟩, rfl⟩
    go_wp2_with fail
    refine (C2.out _).mono ?_; rintro e w1 ⟨⟨n', -, rfl, -⟩, rfl⟩
    go_wp2
    refine bodyPost_ret (v := .tuple #[spotV 0 0, .bool false]) (by simp [results, Tryd.results19, go_sem]) rfl ⟨rfl, ?_⟩
    exact (Below.refl _ _).alloc (Nat.le_refl _) _
  · have hb : Fl.part b = none := h.resolve_left ha
    obtain ⟨m, hm⟩ := Option.ne_none_iff_exists'.1 ha
    have C1 := Lib.hid (fun w => refPart_yes hm w)
    have C2 := Lib.hid (fun w => refPart_no hb w)
    clear h ha hb hm
    go_enter Tryd.func19, Tryd.ntmps19
    go_wp2_with fail
    refine (C1.out _).mono ?_; rintro e w1 ⟨rfl, rfl⟩
    go_wp2_with fail
    refine (C2.out _).mono ?_; rintro e w1 ⟨⟨n', rfl⟩, rfl⟩
    go_wp2
    refine bodyPost_ret (v := .tuple #[spotV 0 0, .bool false]) (by simp [results, Tryd.results19, go_sem]) rfl ⟨rfl, ?_⟩
    exact (Below.refl _ _).alloc (Nat.le_refl _) _
end Go.Proofs.YtjhakblijmaicaaDoor
