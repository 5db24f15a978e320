/- The contracts of Size, putNum and Num, and of the document's Num. -/
import Derived.Test.YtjgegggcbjecbaaDoorMaths
import Derived.Test.YtjgegggcbjecbaaDoorBase
import Derived.Test.YtjgegggcbjecbaaDoorShelf
import Derived.Deep.RegionWith
import Derived.Deep.DeepMust
import Derived.Laws.BitsAllLaws
import Derived.Laws.BitsLemmas
import Derived.ShutString
import Derived.Lib.Hide
namespace Go.Proofs.YtjgegggcbjecbaaDoor
open Go Go.RowKit

theorem or_one (n : Nat) (h : n < 9223372036854775808) : bits .or .i64 (n : Int) 1 = ((n ||| 1 : Nat) : Int) := by
  have hx : n ||| 1 < 2 ^ 63 := Nat.or_lt_two_pow (by omega) (by decide)
  have ha : (BitVec.ofInt 64 (n : Int)).toNat = n := by rw [BitVec.ofInt_natCast, BitVec.toNat_ofNat]; exact Nat.mod_eq_of_lt (by omega)
  show IntKind.i64.wrap ((BitVec.ofInt 64 (n : Int) ||| BitVec.ofInt 64 1).toNat : Int) = _
  rw [BitVec.toNat_or, ha, show (BitVec.ofInt 64 1).toNat = 1 from by decide, IntKind.wrap_i64]
  omega

theorem ret_int {k : IntKind} {a b : Int} (h : a = b) : Ending.returned (.int k a) = .returned (.int k b) := by rw [h]

theorem bitLen_le (m : Nat) : Lib.bitLen m ≤ 64 := by
  have key : ∀ (f x : Nat), Lib.bitLenAux f x ≤ f := by
    intro f
    induction f with
    | zero => intro x; simp [Lib.bitLenAux]
    | succ f ih => intro x; unfold Lib.bitLenAux; split <;> (try have := ih (x / 2)); all_goals omega
  exact key 64 m

set_option maxHeartbeats 400000 in
theorem size_any (n : Nat) (w : World) (h : n < 9223372036854775808) :
    Calls Tryd.prog 78 #[.int .i64 (n : Int)] w fun e w' => e = .returned (.int .i64 ((Wi.num n).length : Int)) ∧ w = w' := by
  have hor := or_one n h
  have HS := Lib.hid (Wi.size_num n h)
  have hx : n ||| 1 < 2 ^ 63 := Nat.or_lt_two_pow h (by decide)
  generalize n ||| 1 = m at *
  have hL := bitLen_le m
  have C := Lib.hid (fun w => Tryd.bits_Len (m : Int) w (by omega) (by omega))
  generalize hq : Lib.bitLen (m : Int).toNat = L at C
  rw [Int.toNat_natCast] at hq
  rw [hq] at HS hL
  have hm : (m : Int) ≤ 9223372036854775807 := by omega
  clear hx hq
  go_enter Tryd.func78, Tryd.ntmps78
  go_wp2_with fail
  refine (C.out _).mono ?_; rintro e w' ⟨rfl, rfl⟩
  go_wp2
  go_ret
  exact ⟨ret_int (by rw [← HS.out]; omega), rfl⟩

set_option maxHeartbeats 400000 in
theorem size_neg (n : Int) (w : World) (h : n < 0) :
    Calls Tryd.prog 78 #[.int .i64 n] w fun e w' => e = .returned (.int .i64 0) ∧ w = w' := by
  go_enter Tryd.func78, Tryd.ntmps78
  go_wp2_with fail
  go_ret
  exact ⟨rfl, rfl⟩

/-- Bytes put behind others, in memory of the call's own. -/
def Put (base m : Nat) (xs : List Value) (l : List UInt8) (w : World) (e : Ending) (w' : World) : Prop :=
  ∃ v, e = .returned v ∧ w'.ownsRow base 5 1 v (m + l.length) (xs ++ bv l) ∧ Below base w w'

theorem byte_cell {x : Nat} (h : x < 256) : bv [UInt8.ofNat x] = [Value.int .u8 (x : Int)] := by
  unfold bv
  rw [List.map_cons, Wi.byte_nat h]; rfl

set_option maxRecDepth 100000 in
set_option maxHeartbeats 1000000 in
theorem putNum_any (v : Value) (m base : Nat) (xs : List Value) (n : Nat) (w : World) (hown : w.ownsRow base 5 1 v m xs) (hb : base ≤ w.heap.size) (hn : n < 9223372036854775808) (hm : m + 9 ≤ 140737488355328) :
    Calls Tryd.prog 77 #[v, .int .i64 (n : Int)] w (Put base m xs (Wi.num n) w) := by
  obtain ⟨i0, hi, hz0, hz1, hz2⟩ := info_parts infoU8
  have h9 := Wi.num_len_nine hn
  obtain ⟨T, hT⟩ : ∃ T, T = Wi.num n := ⟨_, rfl⟩
  rw [← hT] at h9
  have HT := Lib.hid hT
  rw [← hT]
  clear hT
  go_enter Tryd.func77, Tryd.ntmps77
  go_wp2
  go_loopw [0, 1] (fun u i wr => ∃ (k : Nat) (pre : List UInt8), i = .int .i64 (k : Int) ∧ k < 9223372036854775808 ∧ wr.ownsRow base 5 1 u (m + pre.length) (xs ++ bv pre) ∧ pre ++ Wi.num k = T ∧ Below base w wr) (fun _ i _ => (intOf i).toNat)
  case atStart => exact ⟨n, [], rfl, hn, by simpa [bv] using hown, by rw [HT.out]; rfl, Below.refl _ _⟩
  case round =>
    obtain ⟨k, pre, rfl, hk, ho, he, hbel⟩ := hrel
    have hlen : pre.length + (Wi.num k).length = T.length := by rw [← he, List.length_append]
    have hp := Wi.num_pos k
    have hsz := hbel.size
    have HE := Lib.hid he
    clear he
    by_cases hlt : k < 128
    · have HN := Lib.hid (Wi.num_small hlt)
      have HB := Lib.hid (byte_cell (show k < 256 by omega))
      go_wp2_with (first
        | (at_builtin; go_must (refine wp_app _ rfl (.tmp 16) (.tmp 19) 27 27 rfl base 5 i0 _ 1 Tryd.underlying27 hi hz0 hz1 hz2 rfl u0 (m + pre.length) (xs ++ bv pre) rfl (ho.alloc _) _ 1 [Value.int .u8 (k : Int)] rfl (new_src Tryd.underlying27 wr [Value.int .u8 (k : Int)] 1 1 5 (0, 0) rfl (by intro u hu; simp at hu; subst hu; rfl)) (by unfold maxLen; omega) (by omega) (by simp; omega) ?_); intro v1 w1 ho1 hg1 hat1))
      go_ret
      have hb2 : Below base w w1 := (hbel.alloc (by omega) _).grown hg1 (by simp; omega) (fun q hq => (ho.lt q hq).1)
      refine ⟨v1, rfl, ?_, hb2⟩
      have e2 : T = pre ++ [UInt8.ofNat k] := by rw [← HE.out, HN.out]
      rw [e2, bv_append, HB.out, ← List.append_assoc, List.length_append, ← Nat.add_assoc]
      exact ho1
    · have HN := Lib.hid (Wi.num_big hlt)
      have HB := Lib.hid (byte_cell (show k % 128 + 128 < 256 by omega))
      go_wp2_with (first
        | (at_builtin; go_must (refine wp_app _ rfl (.tmp 7) (.tmp 12) 27 27 rfl base 5 i0 _ 1 Tryd.underlying27 hi hz0 hz1 hz2 rfl u0 (m + pre.length) (xs ++ bv pre) rfl (ho.alloc _) _ 1 [Value.int .u8 ((k : Int) % 128 + 128)] rfl (new_src Tryd.underlying27 wr [Value.int .u8 ((k : Int) % 128 + 128)] 1 1 5 (0, 0) rfl (by intro u hu; simp at hu; subst hu; rfl)) (by unfold maxLen; omega) (by omega) (by simp; omega) ?_); intro v1 w1 ho1 hg1 hat1))
      go_roundw
      case rel =>
        have hb2 : Below base w w1 := (hbel.alloc (by omega) _).grown hg1 (by simp; omega) (fun q hq => (ho.lt q hq).1)
        refine ⟨k / 128, pre ++ [UInt8.ofNat (k % 128 + 128)], by go_num, by omega, ?_, ?_, hb2⟩
        · rw [bv_append, HB.out, ← List.append_assoc, List.length_append, ← Nat.add_assoc]
          exact ho1
        · rw [← HE.out, HN.out, List.append_assoc]; rfl
      case measure => simp [intOf]; omega
end Go.Proofs.YtjgegggcbjecbaaDoor
