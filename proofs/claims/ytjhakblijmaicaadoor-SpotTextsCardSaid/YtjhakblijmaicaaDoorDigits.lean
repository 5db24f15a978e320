/- The contract of the document's digits, and of Text. -/
import Derived.Test.YtjhakblijmaicaaDoorTextR
import Derived.Deep.RegionWith
import Derived.Laws.IdiomStrings
import Derived.ShutString
namespace Go.Proofs.YtjhakblijmaicaaDoor
open Go Go.RowKit

/-- The string of one byte. -/
def chB (x : Nat) : ByteArray := ⟨[UInt8.ofNat x].toArray⟩
theorem chB_size (x : Nat) : (chB x).size = 1 := rfl

theorem below_of {w u w1 : World} (h : Below w.heap.size w u) (hb : Below u.heap.size u w1) : Below w.heap.size w w1 := h.trans (hb.mono h.size)
theorem belowA {w w1 : World} (hb : Below w.drew.heap.size w.drew w1) (o : Obj) : Below w.heap.size w (w1.alloc o) := by
  have h := below_of ((Below.refl w.heap.size w).drew) hb
  exact h.alloc h.size _
theorem belowB {w w1 : World} {o : Obj} (hb : Below (w.drew.alloc o).heap.size (w.drew.alloc o) w1) : Below w.heap.size w w1 :=
  below_of (((Below.refl w.heap.size w).drew).alloc (Nat.le_refl _) _) hb

def decB (n : Nat) : ByteArray := ⟨(Lib.decDigits n).toArray⟩

theorem conv_byte (x : Nat) (hx : x < 256) (W : World) (b : Nat) (hc : W.cell? ⟨b, 0, none⟩ = some (.int .u8 (x : Int))) :
    (convert 72 9 (.slice (some ⟨b, 0, none⟩) 1 1)).run Tryd.prog W = .ok (.string (chB x)) W := by
  have h := run_convert_bytes_back (P := Tryd.prog) W 72 9 5 ⟨b, 0, none⟩ 1 [UInt8.ofNat x] Tryd.underlying72 Tryd.underlying5 Tryd.underlying9 (by
    intro j hj
    have hj0 : j = 0 := by simp at hj; omega
    subst hj0
    have : ((UInt8.ofNat x).toNat : Int) = x := by rw [UInt8.toNat_ofNat']; omega
    simp only [List.getElem_cons_zero, this]
    exact hc)
  exact h

set_option maxRecDepth 100000 in
set_option maxHeartbeats 1000000 in
theorem digits_small (n : Nat) (h : n < 10) (w : World) :
    Calls Tryd.prog 39 #[.int .i64 n] w (Ret (.string (decB n)) w) := by
  have hcv := conv_byte (48 + n) (by omega) (w.alloc (Obj.cells #[.int .u8 (48 + (n : Int))] 5)) w.heap.size (by simp)
  have HD := Lib.hid (show decB n = chB (48 + n) by unfold decB chB; rw [Lib.decDigits_one h])
  go_enter Tryd.func39, Tryd.ntmps39
  go_wp2
  go_ret
  exact ⟨by rw [HD.out]; rfl, (Below.refl _ _).alloc (Nat.le_refl _) _⟩

set_option maxRecDepth 100000 in
set_option maxHeartbeats 1000000 in
theorem digits_any (k : Nat) : ∀ (n : Nat) (w : World), n ≤ k → n ≤ 1125899906842624 →
    Calls Tryd.prog 39 #[.int .i64 n] w (Ret (.string (decB n)) w) := by
  induction k with
  | zero => intro n w hk hn; exact digits_small n (by omega) w
  | succ k ih =>
    intro n w hk hn
    by_cases h : n < 10
    · exact digits_small n h w
    · obtain ⟨q, hq⟩ : ∃ q : Nat, q = n / 10 := ⟨_, rfl⟩
      obtain ⟨r, hr⟩ : ∃ r : Nat, r = n % 10 := ⟨_, rfl⟩
      obtain ⟨c, hc⟩ : ∃ c : Nat, c = 48 + r := ⟨_, rfl⟩
      have hw1 : IntKind.i64.wrap ((n : Int) / 10) = (q : Int) := by rw [IntWalk.i64_in _ (by omega)]; omega
      have hw5 : (n : Int).tmod 10 = (r : Int) := by rw [Int.tmod_eq_emod_of_nonneg (by omega)]; omega
      have hw3 : IntKind.i64.wrap (48 + (r : Int)) = (c : Int) := by rw [IntWalk.i64_in _ (by omega)]; omega
      have hw4 : IntKind.u8.wrap (c : Int) = (c : Int) := by rw [IntKind.wrap_u8]; omega
      have IH := Lib.hid (fun w => ih q w (by omega) (by omega))
      have hcv := conv_byte c (by omega)
      have hlt : ¬ (n : Int) < 10 := by omega
      have hz2 : (decB q).size ≤ 20 := by
        unfold decB
        rw [size_of_list]
        exact Num.digits_length q (by omega)
      have hz3 : (decB q).size + (chB c).size ≤ 21 := by rw [chB_size]; omega
      have hz4 : ¬ 9223372036854775807 < (decB q).size + (chB c).size := by omega
      clear hz2
      have HD := Lib.hid (show decB n = decB q ++ chB c by unfold decB chB; rw [Lib.decDigits, dif_neg h, ByteArray.mk_append_mk, hq, hc, hr])
      clear ih hq hr hc h
      generalize chB c = C at *
      generalize decB q = Q at *
      go_enter Tryd.func39, Tryd.ntmps39
      go_wp2
      go_region_with ((go_at_call 39; refine (IH.out _).mono ?_; rintro e w1 ⟨rfl, hb⟩; obtain ⟨hcc, hff⟩ := bcell hb))
      all_goals
        go_wp2
        go_ret
        refine ⟨by rw [HD.out]; rfl, ?_⟩
        first
          | exact belowA hb _
          | exact belowB hb
end Go.Proofs.YtjhakblijmaicaaDoor
