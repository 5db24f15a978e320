/- The contracts of Num and List, with a bound on the capacity. -/
import Derived.Test.YtlgkckokcednaaaList
namespace Go.Proofs.Ytlgkckokcednaaa
open Go Go.RowKit

/-- Bytes in new memory, of a capacity that an int can say. -/
def GotC (l : List UInt8) (w : World) (e : Ending) (w' : World) : Prop :=
  ∃ A c, e = .returned (.slice A l.length c) ∧ (l.length ≤ c ∧ c ≤ 9223372036854775807) ∧ Rd w' w'.heap.size A l.length (bv l) ∧ Below w.heap.size w w'
def GotOkC (l : List UInt8) (w : World) (e : Ending) (w' : World) : Prop :=
  ∃ A c, e = .returned (.tuple #[.slice A l.length c, .int .i64 0]) ∧ (l.length ≤ c ∧ c ≤ 9223372036854775807) ∧ Rd w' w'.heap.size A l.length (bv l) ∧ Below w.heap.size w w'

theorem rd_of_putC {base : Nat} {l : List UInt8} {v : Value} {w' : World} (h : w'.ownsRow base 5 1 v (0 + l.length) ([] ++ bv l)) :
    ∃ A c, v = .slice A l.length c ∧ (l.length ≤ c ∧ c ≤ 9223372036854775807) ∧ Rd w' w'.heap.size A l.length (bv l) := by
  rw [Nat.zero_add, List.nil_append] at h
  obtain ⟨A, c, rfl, h1, h2, -⟩ := own_form h
  exact ⟨A, c, rfl, ⟨h1, by simpa [maxLen] using h2⟩, Rd.of_own h⟩

set_option maxRecDepth 100000 in
set_option maxHeartbeats 400000 in
theorem num_cap (n : Nat) (w : World) (h : n < 9223372036854775808) :
    Calls Try.prog 11 #[.int .i64 (n : Int)] w (GotOkC (Wi.num n) w) := by
  have h9 := Wi.num_len_nine h
  obtain ⟨i0, hi, hz0, hz1, hz2⟩ := info_parts infoU8
  obtain ⟨w1, hmk, ho, hg⟩ := run_make_own (P := Try.prog) w w.heap.size 22 5 i0 _ 1 Try.underlying22 hi hz0 hz1 .i64 .i64 (Wi.num n).length (by rw [hz2]; omega) (by unfold maxLen; omega) (Nat.le_refl _)
  have hb1 : Below w.heap.size w w1 := (Below.refl _ _).grown hg (Nat.le_refl _) (fun k hk => by cases hk)
  have C := Lib.hid (size_any n w h)
  have CP := Lib.hid (putNum_any _ 0 w.heap.size [] n w1 ho hb1.size h (by omega))
  generalize Wi.num n = T at *
  clear hi hz0 hz1 hz2
  go_enter Try.func11, Try.ntmps11
  go_wp2_with fail
  refine C.out.mono ?_; rintro e w' ⟨rfl, rfl⟩
  go_wp2_with fail
  refine CP.out.mono ?_; rintro e w2 ⟨v, rfl, ho2, hb2⟩
  obtain ⟨A, c, rfl, hc, hr⟩ := rd_of_putC ho2
  go_wp2
  go_ret2
  exact ⟨A, c, rfl, hc, hr, hb1.trans (hb2.mono (Nat.le_refl _))⟩

set_option maxRecDepth 100000 in
set_option maxHeartbeats 4000000 in
theorem list_cap (A : Option Addr) (c : Nat) (L : List ByteArray) (w : World) (hr : Rd w w.heap.size A L.length (sv L)) (h : (Wi.list (tl L)).length + 9 ≤ 140737488355328) :
    Calls Try.prog 25 #[.slice A L.length c] w (GotC (Wi.list (tl L)) w) := by
  obtain ⟨i0, hi, hz0, hz1, hz2⟩ := info_parts infoU8
  have hall := pre_all L
  have hlen : (Wi.list (tl L)).length = (Wi.num L.length).length + (pre L L.length).length := by rw [hall, List.length_append]
  have h9 := Wi.num_pos L.length
  have hL : L.length ≤ (pre L L.length).length := by
    have key : ∀ (k : Nat), k ≤ L.length → k ≤ (pre L k).length := by
      intro k
      induction k with
      | zero => intro _; exact Nat.zero_le _
      | succ k ih =>
        intro hk
        rw [pre_succ (List.getElem?_eq_getElem hk), List.length_append, Wi.text_length]
        have := Wi.num_pos (L[k].data.toList.length)
        have := ih (by omega)
        omega
    exact key _ (Nat.le_refl _)
  have hsz : L.length < 140737488355328 := by omega
  have C := Lib.hid (size_any L.length w (by omega))
  have hple : ∀ k, (Wi.num L.length).length + (pre L k).length ≤ (Wi.list (tl L)).length := fun k => pre_le
  have HA := Lib.hid hall
  obtain ⟨T, hT⟩ : ∃ T, T = Wi.list (tl L) := ⟨_, rfl⟩
  obtain ⟨N, hN⟩ : ∃ N, N = Wi.num L.length := ⟨_, rfl⟩
  rw [← hT] at HA hlen h hple
  rw [← hN] at HA hlen h9 C hple
  rw [← hT]
  have HN := Lib.hid hN
  clear hT hall hN
  have HP := Lib.hid hple
  have HR := Lib.hid hr
  have HLN := Lib.hid hlen
  clear hple hr
  go_enter Try.func25, Try.ntmps25
  go_wp2_with fail
  refine C.out.mono ?_; rintro e w' ⟨rfl, rfl⟩
  go_wp2_with fail
  go_loop [3, 14] (fun a i => ∃ k : Nat, k ≤ L.length ∧ i = .int .i64 (k : Int) ∧ a = .int .i64 ((N.length : Int) + ((pre L k).length : Int))) (fun _ i => L.length - (intOf i).toNat)
  case atStart => exact ⟨0, Nat.zero_le _, rfl, by rw [pre_zero]; rfl⟩
  case round =>
    obtain ⟨k, hk, rfl, rfl⟩ := hrel
    have hp := HP.out k
    by_cases hlt : k < L.length
    · obtain ⟨ad, s, rfl, hs, hcell⟩ := HR.out.strAt hlt
      have hp1 := HP.out (k + 1)
      have hps : (pre L (k + 1)).length = (pre L k).length + (Wi.text s.data.toList).length := by rw [pre_succ hs, List.length_append]
      have hts := text_size s
      have CT := Lib.hid (textSize_any s w (by omega))
      have HPS := Lib.hid hps
      have hb1 : (N.length : Int) + ((pre L k).length : Int) + ((Wi.text s.data.toList).length : Int) ≤ 140737488355400 := by omega
      generalize Wi.text s.data.toList = X at *
      clear hs hps hts
      go_wp2_with fail
      refine CT.out.mono ?_; rintro e w' ⟨rfl, rfl⟩
      go_wp2_with fail
      go_round
      case rel => exact ⟨k + 1, by omega, by go_num, by rw [HPS.out]; go_num⟩
      case measure => simp [intOf]; omega
    · obtain rfl : k = L.length := by omega
      have he : ((N.length : Int) + ((pre L L.length).length : Int)) = (T.length : Int) := by have := HLN.out; omega
      rw [he]
      obtain ⟨w1, hmk, ho, hg⟩ := run_make_own (P := Try.prog) w w.heap.size 22 5 i0 _ 1 Try.underlying22 hi hz0 hz1 .i64 .i64 T.length (by rw [hz2]; omega) (by unfold maxLen; omega) (Nat.le_refl _)
      have hb1 : Below w.heap.size w w1 := (Below.refl _ _).grown hg (Nat.le_refl _) (fun k hk => by cases hk)
      have CP := Lib.hid (putNum_any _ 0 w.heap.size [] L.length w1 ho hb1.size (by omega) (by omega))
      rw [← HN.out] at CP
      clear he hlen
      go_wp2_with fail
      refine CP.out.mono ?_; rintro e w2 ⟨v, rfl, ho2, hb2⟩
      rw [Nat.zero_add, List.nil_append] at ho2
      have hB2 := hb1.trans hb2
      go_wp2_with fail
      go_loopw [6, 30] (fun b i wr => ∃ k : Nat, k ≤ L.length ∧ i = .int .i64 (k : Int) ∧ wr.ownsRow w.heap.size 5 1 b (N.length + (pre L k).length) (bv N ++ bv (pre L k)) ∧ Below w.heap.size w wr) (fun _ i _ => L.length - (intOf i).toNat)
      case atStart => exact ⟨0, Nat.zero_le _, rfl, by simpa [pre_zero, bv] using ho2, hB2⟩
      case round =>
        obtain ⟨k, hk, rfl, hok, hbk⟩ := hrel
        have hp := HP.out k
        have hszk := hbk.size
        by_cases hlt : k < L.length
        · obtain ⟨ad, s, rfl, hs, hcell⟩ := (HR.out.below hbk).strAt hlt
          have hp1 := HP.out (k + 1)
          have hps : (pre L (k + 1)).length = (pre L k).length + (Wi.text s.data.toList).length := by rw [pre_succ hs, List.length_append]
          have CT := Lib.hid (putText_any _ _ w.heap.size _ s wr hok hszk (by have := HLN.out; have := HP.out (k + 1); omega))
          have HPS := Lib.hid hps
          have HPP := Lib.hid (pre_succ hs)
          clear hs hps
          go_wp2_with fail
          refine CT.out.mono ?_; rintro e w3 ⟨v3, rfl, ho3, hb3⟩
          go_wp2_with fail
          go_roundw
          case rel => exact ⟨k + 1, by omega, by go_num, by rw [HPS.out, HPP.out, bv_append, ← List.append_assoc, ← Nat.add_assoc]; exact ho3, hbk.trans hb3⟩
          case measure => simp [intOf]; omega
        · obtain rfl : k = L.length := by omega
          go_wp2_with fail
          go_ret
          rw [← bv_append, ← HA.out, ← List.length_append, ← HA.out] at hok
          obtain ⟨A2, c2, hv, hc2, hm2, -⟩ := own_form hok
          subst hv
          exact ⟨A2, c2, rfl, ⟨hc2, by simpa [maxLen] using hm2⟩, Rd.of_own hok, hbk⟩
end Go.Proofs.Ytlgkckokcednaaa
