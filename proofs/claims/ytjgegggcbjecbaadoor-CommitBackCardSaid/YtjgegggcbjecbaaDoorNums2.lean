/- The contracts of Num, of the program and of the document's answer. -/
import Derived.Test.YtjgegggcbjecbaaDoorNums
namespace Go.Proofs.YtjgegggcbjecbaaDoor
open Go Go.RowKit

/-- Bytes in new memory, and no error. -/
def GotOk (l : List UInt8) (w : World) (e : Ending) (w' : World) : Prop :=
  ∃ A c, e = .returned (.tuple #[.slice A l.length c, .int .i64 0]) ∧ l.length ≤ c ∧ Rd w' w'.heap.size A l.length (bv l) ∧ Below w.heap.size w w'

theorem rd_of_put {base : Nat} {l : List UInt8} {v : Value} {w' : World} (h : w'.ownsRow base 5 1 v (0 + l.length) ([] ++ bv l)) :
    ∃ A c, v = .slice A l.length c ∧ l.length ≤ c ∧ Rd w' w'.heap.size A l.length (bv l) := by
  rw [Nat.zero_add, List.nil_append] at h
  obtain ⟨A, c, rfl, h1, -, -⟩ := own_form h
  exact ⟨A, c, rfl, h1, Rd.of_own h⟩

set_option maxRecDepth 100000 in
set_option maxHeartbeats 400000 in
theorem num_any (n : Nat) (w : World) (h : n < 9223372036854775808) :
    Calls Tryd.prog 60 #[.int .i64 (n : Int)] w (GotOk (Wi.num n) w) := by
  have h9 := Wi.num_len_nine h
  obtain ⟨i0, hi, hz0, hz1, hz2⟩ := info_parts infoU8
  obtain ⟨w1, hmk, ho, hg⟩ := run_make_own (P := Tryd.prog) w w.heap.size 27 5 i0 _ 1 Tryd.underlying27 hi hz0 hz1 .i64 .i64 (Wi.num n).length (by rw [hz2]; omega) (by unfold maxLen; omega) (Nat.le_refl _)
  have hb1 : Below w.heap.size w w1 := (Below.refl _ _).grown hg (Nat.le_refl _) (fun k hk => by cases hk)
  have C := Lib.hid (size_any n w h)
  have CP := Lib.hid (putNum_any _ 0 w.heap.size [] n w1 ho hb1.size h (by omega))
  generalize Wi.num n = T at *
  clear hi hz0 hz1 hz2
  go_enter Tryd.func60, Tryd.ntmps60
  go_wp2_with fail
  refine C.out.mono ?_; rintro e w' ⟨rfl, rfl⟩
  go_wp2_with fail
  refine CP.out.mono ?_; rintro e w2 ⟨v, rfl, ho2, hb2⟩
  obtain ⟨A, c, rfl, hc, hr⟩ := rd_of_put ho2
  go_wp2
  go_ret2
  exact ⟨A, c, rfl, hc, hr, hb1.trans (hb2.mono (Nat.le_refl _))⟩

set_option maxHeartbeats 400000 in
theorem num_neg (n : Int) (w : World) (h : n < 0) :
    Calls Tryd.prog 60 #[.int .i64 n] w fun e w' => e = .returned (.tuple #[.slice none 0 0, .int .i64 9]) ∧ w = w' := by
  go_enter Tryd.func60, Tryd.ntmps60
  go_wp2_with fail
  go_ret2
  exact ⟨rfl, rfl⟩

theorem bcell {W w1 : World} (hb : Below W.heap.size W w1) : (∀ b o, b < W.heap.size → w1.cell? ⟨b, o, none⟩ = W.cell? ⟨b, o, none⟩) ∧ (∀ b o, b < W.heap.size → w1.frozen? ⟨b, o, none⟩ = W.frozen? ⟨b, o, none⟩) :=
  ⟨fun b o h => hb.cell (p := ⟨b, o, none⟩) h, fun b o h => hb.frozen (p := ⟨b, o, none⟩) h⟩

theorem conv_byte (x : Nat) (hx : x < 256) (W : World) (b : Nat) (hc : W.cell? ⟨b, 0, none⟩ = some (.int .u8 (x : Int))) :
    (convert 27 9 (.slice (some ⟨b, 0, none⟩) 1 1)).run Tryd.prog W = .ok (.string (sB [UInt8.ofNat x])) W :=
  run_convert_bytes_back (P := Tryd.prog) W 27 9 5 ⟨b, 0, none⟩ 1 [UInt8.ofNat x] Tryd.underlying27 Tryd.underlying5 Tryd.underlying9 (by
    intro j hj
    have hj0 : j = 0 := by simp at hj; omega
    subst hj0
    simp only [List.getElem_cons_zero, Wi.byte_nat hx]
    exact hc)
end Go.Proofs.YtjgegggcbjecbaaDoor
