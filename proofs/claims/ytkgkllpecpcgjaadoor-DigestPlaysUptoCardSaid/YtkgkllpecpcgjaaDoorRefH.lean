/- The contract of the document's whole: some bytes with what comes behind them. -/
import Derived.Test.YtkgkllpecpcgjaaDoorRefW
import Derived.Test.YtkgkllpecpcgjaaDoorApp
namespace Go.Proofs.YtkgkllpecpcgjaaDoor
open Go Go.RowKit

theorem byte_cell {x : Nat} (h : x < 256) : bv [UInt8.ofNat x] = [Value.int .u8 (x : Int)] := by
  unfold bv
  rw [List.map_cons, List.map_nil, UInt8.toNat_ofNat', Nat.mod_eq_of_lt (by omega)]

theorem bv_zero : bv [0] = [Value.int .u8 0] := rfl
theorem bv_128 : bv [128] = [Value.int .u8 128] := rfl

set_option maxRecDepth 100000 in
set_option maxHeartbeats 2000000 in
theorem whole_any (A : Option Addr) (c : Nat) (l : List UInt8) (w : World) (hr : Rd w w.heap.size A l.length (bv l)) (h : l.length ≤ 140737488351232) :
    Calls Tryd.prog 27 #[.slice A l.length c] w (Got (Sh.whole l) w) := by
  obtain ⟨i0, hi, hz0, hz1, hz2⟩ := info_parts infoU8
  have HR := Lib.hid hr
  have hz : Sh.zeros l.length < 64 := by unfold Sh.zeros; omega
  have HZ := Lib.hid (show Sh.zeros l.length = (119 - l.length % 64) % 64 from rfl)
  have hN : 8 * l.length % 18446744073709551616 = 8 * l.length := by omega
  have HWH : Sh.whole l = (l ++ [128] ++ List.replicate (Sh.zeros l.length) 0) ++ Sh.be8 (8 * l.length) 8 := by unfold Sh.whole; rw [hN]
  have HWL := Sh.whole_length l
  obtain ⟨T, hT⟩ : ∃ T, T = Sh.whole l := ⟨_, rfl⟩
  rw [← hT] at HWH HWL ⊢
  obtain ⟨Z, hZ⟩ : ∃ Z, Z = Sh.zeros l.length := ⟨_, rfl⟩
  rw [← hZ] at HWH HWL hz HZ
  obtain ⟨N, hNN⟩ : ∃ N, N = 8 * l.length := ⟨_, rfl⟩
  rw [← hNN] at HWH
  have HW := Lib.hid HWH
  have HLL := Lib.hid HWL
  have hNb : N < 1125899906842624000 := by omega
  have hNw : IntKind.u64.wrap ((l.length : Int) * 8) = (N : Int) := by rw [IntWalk.u64_in _ (by omega)]; omega
  have hlu : IntKind.u64.wrap (l.length : Int) = (l.length : Int) := IntWalk.u64_in _ (by omega)
  clear hr hN hT hZ HWH HWL hNN
  go_enter Tryd.func27, Tryd.ntmps27
  go_wp2_with (first
    | (at_builtin; (refine wp_app' _ rfl (.tmp 6) (.tmp 7) 22 22 rfl w.heap.size 5 i0 _ 1 Tryd.underlying22 hi hz0 hz1 hz2 rfl (.slice (some ⟨w.heap.size, 0, none⟩) 0 0) 0 [] rfl (World.ownsRow_made w #[] 0 (Nat.le_refl _) (Nat.zero_le _) rfl) (.slice A l.length c) l.length (bv l) rfl ((HR.out.alloc (Nat.le_refl _) _).src Tryd.underlying22 c (bv_one l)) (by unfold maxLen; omega) (by omega) (by simp) ?_); intro v1 w1 ho1 hb1; rw [Nat.zero_add, List.nil_append] at ho1; have hB1 := (Below.refl w.heap.size w).alloc (Nat.le_refl _) _ |>.trans hb1; have hs1 := hB1.size; clear hb1)
    | (at_builtin; go_must (refine wp_app' _ rfl (.tmp 8) (.tmp 9) 22 22 rfl w.heap.size 5 i0 _ 1 Tryd.underlying22 hi hz0 hz1 hz2 rfl v1 l.length (bv l) rfl (ho1.alloc _) _ 1 [Value.int .u8 128] rfl (new_src Tryd.underlying22 w1 [Value.int .u8 128] 1 1 5 (0, 0) rfl (by intro u hu; simp at hu; subst hu; rfl)) (by unfold maxLen; omega) (by omega) (by simp; omega) ?_); intro v2 w2 ho2 hb2; have hB2 := (hB1.alloc hs1 _).trans hb2))
  rw [← bv_128, ← bv_append] at ho2
  clear ho1 hB1 hs1 hb2
  go_loopw [3] (fun v wr => ∃ (z n : Nat) (A' : Option Addr) (c' : Nat), z ≤ Z ∧ n = l.length + 1 + z ∧ v = .slice A' n c' ∧ wr.ownsRow w.heap.size 5 1 v n (bv (l ++ [128] ++ List.replicate z 0)) ∧ Below w.heap.size w wr) (fun v _ => l.length + 100 - (match v with | .slice _ n _ => n | _ => 0))
  case atStart =>
    obtain ⟨A', c', hv, -, -, -⟩ := own_form ho2
    exact ⟨0, l.length + 1, A', c', Nat.zero_le _, rfl, hv, by simpa using ho2, hB2⟩
  case round =>
    obtain ⟨z, n, A', c', hzZ, hn, rfl, ho, hb⟩ := hrel
    have hsz := hb.size
    have hnb : n ≤ 140737488351300 := by omega
    by_cases hlt : z < Z
    · have hq : ((n : Int) % 64 != 56) = true := by rw [bne_iff_ne]; have := HZ.out; omega
      have HN := Lib.hid hn
      clear hn
      go_wp2_with (at_builtin; go_must (refine wp_app' _ rfl (.tmp 15) (.tmp 16) 22 22 rfl w.heap.size 5 i0 _ 1 Tryd.underlying22 hi hz0 hz1 hz2 rfl (.slice A' n c') n (bv (l ++ [128] ++ List.replicate z 0)) rfl (ho.alloc _) _ 1 [Value.int .u8 0] rfl (new_src Tryd.underlying22 wr [Value.int .u8 0] 1 1 5 (0, 0) rfl (by intro u hu; simp at hu; subst hu; rfl)) (by unfold maxLen; omega) (by omega) (by simp; omega) ?_); intro v3 w3 ho3 hb3; rw [← bv_zero, ← bv_append] at ho3; obtain ⟨A3, c3, hv3, -, -, -⟩ := own_form ho3; subst hv3)
      go_roundw
      case rel => exact ⟨z + 1, n + 1, A3, c3, by omega, by rw [HN.out]; omega, rfl, by rw [List.replicate_succ', ← List.append_assoc]; exact ho3, (hb.alloc hsz _).trans hb3⟩
      case measure => have := HN.out; simp; omega
    · obtain rfl : z = Z := by omega
      have hq : ((n : Int) % 64 != 56) = false := by rw [bne_eq_false_iff_eq]; have := HZ.out; omega
      have HTL := Lib.hid (show n + 8 = T.length by have := HLL.out; omega)
      have HN := Lib.hid (show n = (l ++ [128] ++ List.replicate z 0).length by simp; omega)
      have HT2 := HW.out
      clear hn
      generalize l ++ [128] ++ List.replicate z 0 = P0 at *
      go_wp2_with fail
      go_loopw [3, 5] (fun v iv wr => ∃ (k : Nat) (q : Int) (pre : List UInt8), k ≤ 8 ∧ iv = .int .i64 q ∧ q + 1 = (k : Int) ∧ wr.ownsRow w.heap.size 5 1 v pre.length (bv pre) ∧ pre ++ Sh.be8 N k = T ∧ Below w.heap.size w wr) (fun _ iv _ => (intOf iv + 1).toNat)
      case atStart => exact ⟨8, _, P0, by omega, rfl, by omega, by rw [← HN.out]; exact ho, HT2.symm, hb⟩
      case round =>
        obtain ⟨k, q, pre, hk, rfl, hqk, hov, hpre, hbk⟩ := hrel
        have hszk := hbk.size
        have hlen : pre.length + k = T.length := by rw [← hpre, List.length_append, Sh.be8_length]
        have HPRE := Lib.hid hpre
        have hpl : pre.length ≤ 140737488351320 := by have := HTL.out; omega
        clear hpre
        by_cases h0 : k = 0
        · subst h0
          obtain rfl : q = -1 := by omega
          go_wp2_with fail
          go_ret
          have hp := HPRE.out
          rw [Sh.be8, List.append_nil] at hp
          subst hp
          obtain ⟨A4, c4, rfl, hc4, hm4, -⟩ := own_form hov
          exact ⟨A4, c4, rfl, ⟨hc4, by simpa [maxLen] using hm4⟩, Rd.of_own hov, hbk⟩
        · obtain ⟨k, rfl⟩ : ∃ k', k = k' + 1 := ⟨k - 1, by omega⟩
          obtain rfl : q = (k : Int) := by omega
          obtain ⟨s, hs⟩ : ∃ s, s = 8 * k := ⟨_, rfl⟩
          have hs1 : IntKind.i64.wrap (8 * (k : Int)) = (s : Int) := by rw [IntWalk.i64_in _ (by omega)]; omega
          have hs2 : IntKind.u64.wrap (s : Int) = (s : Int) := IntWalk.u64_in _ (by omega)
          have hs3 : (s : Int) ≤ 64 := by omega
          have hs4 : IntKind.u8.wrap ((N : Int) / 2 ^ s) = ((N / 2 ^ s % 256 : Nat) : Int) := by rw [IntKind.wrap_u8, Int.natCast_emod, Int.natCast_ediv, Int.natCast_pow]; rfl
          have hx : N / 2 ^ s % 256 < 256 := Nat.mod_lt _ (by decide)
          have HB := Lib.hid (byte_cell hx)
          have HBE := Lib.hid (show pre ++ [UInt8.ofNat (N / 2 ^ s % 256)] ++ Sh.be8 N k = T by have := HPRE.out; rw [Sh.be8, ← hs] at this; rw [← this]; simp)
          clear hs hx HPRE
          generalize N / 2 ^ s % 256 = x at *
          go_wp2_with (at_builtin; go_must (refine wp_app' _ rfl (.tmp 26) (.tmp 33) 22 22 rfl w.heap.size 5 i0 _ 1 Tryd.underlying22 hi hz0 hz1 hz2 rfl u3 pre.length (bv pre) rfl (hov.alloc _) _ 1 [Value.int .u8 (x : Int)] rfl (new_src Tryd.underlying22 wr [Value.int .u8 (x : Int)] 1 1 5 (0, 0) rfl (by intro u hu; simp at hu; subst hu; rfl)) (by unfold maxLen; omega) (by omega) (by simp; omega) ?_); intro v3 w3 ho3 hb3; rw [← HB.out, ← bv_append] at ho3)
          go_roundw
          case rel => exact ⟨k, _, pre ++ [UInt8.ofNat x], by omega, rfl, by go_num, by rw [List.length_append]; exact ho3, HBE.out, (hbk.alloc hszk _).trans hb3⟩
          case measure => simp [intOf]
end Go.Proofs.YtkgkllpecpcgjaaDoor
